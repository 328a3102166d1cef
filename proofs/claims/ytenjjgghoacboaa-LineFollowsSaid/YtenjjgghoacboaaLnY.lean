/-
  TWO LOGS APART, as LineFollows has them: what one is asked leaves the other as it is.
-/
import Derived.Test.YtenjjgghoacboaaLnX
namespace Go.Proofs.Ytenjjgghoacboaa
open Go.RowKit

/-- Whoever takes the next request of a log has it. -/
theorem lput_next {L : List ReqV} (h : okL L) {k : Nat} (hk : k < L.length) : lputV (L.take k) (atL L k) = (L.take (k + 1), (k : Int) + 1, 0) := by
  obtain ⟨hp, hs⟩ := h k hk
  rw [lputV_yes hp (by omega), take_next hk, List.length_take, Nat.min_eq_left (by omega)]
/-- LTwo logs, no block of the one is the other's. -/
structure LTwo (n : Nat) (w : World) (g1 g2 : Nat) (L M : List ReqV) (c1 c2 : Nat) (S1 S2 : Nat → Prop) (u : World) : Prop where
  a : GLo n w g1 6 L c1 S1 u
  b : GLo n w g2 6 M c2 S2 u
  ne : ∀ x, S1 x → ¬ S2 x
section
variable {n : Nat} {w u u' : World} {g1 g2 : Nat} {L L' M M' : List ReqV} {c1 c1' c2 c2' : Nat} {S1 S1' S2 S2' : Nat → Prop}
theorem LTwo.on (h : LTwo n w g1 g2 L M c1 c2 S1 S2 u) (hb : Below u.heap.size u u') : LTwo n w g1 g2 L M c1 c2 S1 S2 u' := ⟨h.a.on hb, h.b.on hb, h.ne⟩
theorem LTwo.first (h1 : GLo n w g1 6 L c1 S1 u) (h2 : GLo n w g2 6 M c2 S2 u') (hb : Below u.heap.size u u') (hs : ∀ x, S2 x → u.heap.size ≤ x) : LTwo n w g1 g2 L M c1 c2 S1 S2 u' :=
  ⟨h1.on hb, h2, fun x h k => by have := hs x k; have := (h1.all h).2.1; omega⟩
theorem LTwo.turnA (h : LTwo n w g1 g2 L M c1 c2 S1 S2 u) (t : LTurn n w g1 6 L' c1' S1 S1' u u') : LTwo n w g1 g2 L' M c1' c2 S1' S2 u' :=
  ⟨t.lo, h.b.keep t.only (fun x hx k => h.ne x k hx) (fun _ hx _ => ⟨(h.a.all hx).1, (h.a.all hx).2.2⟩), fun x hx k => (t.more x hx).elim (fun h' => h.ne x h' k) (fun h' => by have := (h.b.all k).2.1; omega)⟩
theorem LTwo.turnB (h : LTwo n w g1 g2 L M c1 c2 S1 S2 u) (t : LTurn n w g2 6 M' c2' S2 S2' u u') : LTwo n w g1 g2 L M' c1 c2' S1 S2' u' :=
  ⟨h.a.keep t.only (fun x hx k => h.ne x hx k) (fun _ hx _ => ⟨(h.b.all hx).1, (h.b.all hx).2.2⟩), t.lo, fun x hx k => (t.more x k).elim (fun h' => h.ne x hx h') (fun h' => by have := (h.a.all hx).2.1; omega)⟩
theorem LTwo.put (h : LTwo n w g1 g2 L M c1 c2 S1 S2 u) (hL : L.length ≤ 100000) (cl sq kd id mt : Int) (dt : ByteArray) (hd : dt.size ≤ maxLen) (p x : Int) (hV : lputV L ⟨cl, sq, kd, id, mt, dt⟩ = (L', p, x)) :
    Calls Try.prog 19 #[.pointer (some ⟨g1, 0, none⟩), .agg #[.int .i64 cl, .int .i64 sq, .int .i64 kd, .int .i64 id, .int .i64 mt, .string dt]] u fun e w' => e = .returned (.tuple #[.int .i64 p, .int .i64 x]) ∧ ∃ S1', Hid (LTwo n w g1 g2 L' M c1 c2 S1' S2 w') :=
  (h.a.put hL cl sq kd id mt dt hd L' p x hV).mono fun _ _ ⟨he, S', t⟩ => ⟨he, S', h.turnA t⟩
theorem LTwo.takeNo (h : LTwo n w g1 g2 L M c1 c2 S1 S2 u) (hM : M.length ≤ 100000) (k : Int) (hk : k ≠ M.length + 1) (cl sq kd id mt : Int) (dt : ByteArray) :
    Calls Try.prog 20 #[.pointer (some ⟨g2, 0, none⟩), .int .i64 k, .agg #[.int .i64 cl, .int .i64 sq, .int .i64 kd, .int .i64 id, .int .i64 mt, .string dt]] u fun e w' => e = .returned (.int .i64 9) ∧ Below u.heap.size u w' ∧ Hid (LTwo n w g1 g2 L M c1 c2 S1 S2 w') :=
  (h.b.takeNo hM k hk cl sq kd id mt dt).mono fun _ _ ⟨he, hb⟩ => ⟨he, hb, h.on hb⟩
theorem LTwo.takeYes {k : Nat} (h : LTwo n w g1 g2 L (L.take k) c1 c2 S1 S2 u) (hL : L.length ≤ 100000) (hk : k < L.length) (cl sq kd id mt : Int) (dt : ByteArray) (hq : atL L k = ⟨cl, sq, kd, id, mt, dt⟩) (hd : dt.size ≤ maxLen) :
    Calls Try.prog 20 #[.pointer (some ⟨g2, 0, none⟩), .int .i64 ((k : Int) + 1), .agg #[.int .i64 cl, .int .i64 sq, .int .i64 kd, .int .i64 id, .int .i64 mt, .string dt]] u fun e w' => e = .returned (.int .i64 0) ∧ Only S2 u w' ∧ ∃ S2', (∀ x, S2' x → S2 x ∨ u.heap.size ≤ x) ∧ LTwo n w g1 g2 L (L.take (k + 1)) c1 c2 S1 S2' w' := by
  have hlen : (L.take k).length = k := by rw [List.length_take, Nat.min_eq_left (by omega)]
  have hV := lput_next h.a.ok.1 hk
  rw [hq] at hV
  have hc := h.b.takeYes (by rw [hlen]; omega) cl sq kd id mt dt hd _ _ _ hV
  rw [hlen] at hc
  exact hc.mono fun _ _ ⟨he, S', t⟩ => ⟨he, t.only, S', t.more, h.turnB t⟩
theorem LTwo.comA (h : LTwo n w g1 g2 L M c1 c2 S1 S2 u) (hL : L.length ≤ 100000) : Calls Try.prog 21 #[.pointer (some ⟨g1, 0, none⟩), .int .i64 L.length] u fun e w' => e = .returned (.int .i64 0) ∧ ∃ S1', Hid (LTwo n w g1 g2 L M L.length c2 S1' S2 w') :=
  (h.a.comYes hL L.length h.a.ok.2.1 (Nat.le_refl _)).mono fun _ _ ⟨he, S', t⟩ => ⟨he, S', h.turnA t⟩
theorem LTwo.comB (h : LTwo n w g1 g2 L M c1 c2 S1 S2 u) (hM : M.length ≤ 100000) : Calls Try.prog 21 #[.pointer (some ⟨g2, 0, none⟩), .int .i64 M.length] u fun e w' => e = .returned (.int .i64 0) ∧ ∃ S2', Hid (LTwo n w g1 g2 L M c1 M.length S1 S2' w') :=
  (h.b.comYes hM M.length h.b.ok.2.1 (Nat.le_refl _)).mono fun _ _ ⟨he, S', t⟩ => ⟨he, S', h.turnB t⟩
end
theorem AllAt.only {T : Nat → Prop} {v : Value} {Q : List ReqV} {u u' : World} (h : AllAt v Q u) (ho : Only T u u') (hn : ∀ b c, v = .slice (some ⟨b, 0, none⟩) Q.length c → ¬ T b) : AllAt v Q u' := fun k hk => by
  obtain ⟨b, c, e, hc, hl, a0, a1, a2, a3, a4, a5⟩ := h k hk
  have hx : ∀ o, u'.cell? ⟨b, o, none⟩ = u.cell? ⟨b, o, none⟩ := fun o => World.cell?_of_block (a := ⟨b, o, none⟩) (ho.block b hl (hn b c e))
  exact ⟨b, c, e, hc, Nat.lt_of_lt_of_le hl ho.size, (hx _).trans a0, (hx _).trans a1, (hx _).trans a2, (hx _).trans a3, (hx _).trans a4, (hx _).trans a5⟩
theorem comeQ_at {L : List ReqV} {k i j : Nat} (hj : j < i) : atL (comeQ L k i) j = atL L (k + j) := by
  unfold comeQ atL
  rw [List.getD_eq_getElem?_getD, List.getD_eq_getElem?_getD, List.getElem?_take, if_pos hj, List.getElem?_drop]
/-- Two logs, the second one a beginning of the first, and a piece of the first in a row. -/
structure LFol (n : Nat) (w : World) (g1 g2 : Nat) (L : List ReqV) (k : Nat) (v : Value) (Q : List ReqV) (S1 S2 : Nat → Prop) (u : World) : Prop where
  two : LTwo n w g1 g2 L (L.take k) 0 0 S1 S2 u
  all : AllAt v Q u
  nb : ∀ b c, v = .slice (some ⟨b, 0, none⟩) Q.length c → ¬ S2 b ∧ b < u.heap.size
section
variable {n : Nat} {w u u' : World} {g1 g2 : Nat} {L Q : List ReqV} {k : Nat} {v : Value} {S1 S2 : Nat → Prop}
theorem LFol.on (h : LFol n w g1 g2 L k v Q S1 S2 u) (hb : Below u.heap.size u u') : LFol n w g1 g2 L k v Q S1 S2 u' := ⟨h.two.on hb, h.all.on hb, fun b c e => ⟨(h.nb b c e).1, Nat.lt_of_lt_of_le (h.nb b c e).2 hb.size⟩⟩
theorem LFol.first (h : LTwo n w g1 g2 L (L.take k) 0 0 S1 S2 u) (hb : Below u.heap.size u u') (hr : u'.ownsRow u.heap.size 34 6 v Q.length (reqCs Q)) : LFol n w g1 g2 L k v Q S1 S2 u' :=
  ⟨h.on hb, .of hr, fun b c e => by
    have h2 := hr.lt b (by rw [e]; rfl)
    exact ⟨fun hs => by have h1 := (h.b.all hs).2.1; omega, h2.2⟩⟩
theorem LFol.len (h : LFol n w g1 g2 L k v Q S1 S2 u) (hk : k ≤ L.length) : Calls Try.prog 15 #[.pointer (some ⟨g2, 0, none⟩)] u fun e w' => e = .returned (.int .i64 k) ∧ u = w' := by
  have h' := h.two.b.len
  rwa [List.length_take, Nat.min_eq_left hk] at h'
theorem LFol.takeYes (h : LFol n w g1 g2 L k v Q S1 S2 u) (hL : L.length ≤ 100000) (hk : k < L.length) (cl sq kd id mt : Int) (dt : ByteArray) (hq : atL L k = ⟨cl, sq, kd, id, mt, dt⟩) (hd : dt.size ≤ maxLen) :
    Calls Try.prog 20 #[.pointer (some ⟨g2, 0, none⟩), .int .i64 ((k : Int) + 1), .agg #[.int .i64 cl, .int .i64 sq, .int .i64 kd, .int .i64 id, .int .i64 mt, .string dt]] u fun e w' => e = .returned (.int .i64 0) ∧ ∃ S2', Hid (LFol n w g1 g2 L (k + 1) v Q S1 S2' w') :=
  (h.two.takeYes hL hk cl sq kd id mt dt hq hd).mono fun _ _ ⟨he, ho, S', hm, t⟩ => ⟨he, S', t, h.all.only ho fun b c e => (h.nb b c e).1, fun b c e => ⟨fun hs => (hm b hs).elim (h.nb b c e).1 fun hu => by have := (h.nb b c e).2; omega, Nat.lt_of_lt_of_le (h.nb b c e).2 ho.size⟩⟩
theorem LFol.takeNo (h : LFol n w g1 g2 L k v Q S1 S2 u) (hL : L.length ≤ 100000) (x : Int) (hk : k ≤ L.length) (hx : x ≠ k + 1) (cl sq kd id mt : Int) (dt : ByteArray) :
    Calls Try.prog 20 #[.pointer (some ⟨g2, 0, none⟩), .int .i64 x, .agg #[.int .i64 cl, .int .i64 sq, .int .i64 kd, .int .i64 id, .int .i64 mt, .string dt]] u fun e w' => e = .returned (.int .i64 9) ∧ Hid (LFol n w g1 g2 L k v Q S1 S2 w') := by
  have hlen : (L.take k).length = k := by rw [List.length_take, Nat.min_eq_left hk]
  exact (h.two.takeNo (by rw [hlen]; omega) x (by rw [hlen]; exact hx) cl sq kd id mt dt).mono fun _ _ ⟨he, hb, _⟩ => ⟨he, h.on hb⟩
end
end Go.Proofs.Ytenjjgghoacboaa
