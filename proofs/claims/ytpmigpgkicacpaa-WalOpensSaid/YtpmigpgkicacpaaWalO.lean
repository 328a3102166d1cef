/-
  RECORDS ON A DISK: Put, Open by contract over the disk's bytes; what of other kinds stands. No condition but that lengths stay below 2^47.
-/
import Derived.Test.YtpmigpgkicacpaaWalX
import Derived.Test.YtpmigpgkicacpaaDiskO
namespace Go.Proofs.Ytpmigpgkicacpaa
open Go.RowKit

/-- Every block of texts stands as it was. -/
def KeepS (w w' : World) : Prop := ∀ (x : Nat) (cs : Array Value), w.heap[x]? = some (.cells cs 9 (0, 0)) → w'.heap[x]? = some (.cells cs 9 (0, 0))
theorem KeepS.trans {u v w : World} (h : KeepS u v) (k : KeepS v w) : KeepS u w := fun x cs hx => k x cs (h x cs hx)
theorem KeepS.of {w w' : World} (h : Below w.heap.size w w') : KeepS w w' := fun x _ hx => (h.block x (lt_of_block hx)).trans hx
theorem row_keepS {w w' : World} {n k : Nat} {v : Value} {xs : List Value} (h : w.ownsRow n 9 1 v k xs) (hk : KeepS w w') : w'.ownsRow n 9 1 v k xs := by
  refine ⟨h.1, ?_⟩
  rcases h.2 with h0 | ⟨g, cap, cur, rfl, hr, hh, rest⟩
  · exact .inl h0
  · exact .inr ⟨g, cap, cur, rfl, hr, hk g cur hh, rest⟩
/-- A disk's blocks are of two kinds. -/
theorem dsk_kind {w : World} {n g : Nat} {v : Value} {xs : List UInt8} {k : Nat} (H : Dsk w n g v xs k) : ∀ x, dblks g v x → ∃ cs e, w.heap[x]? = some (.cells cs e (0, 0)) ∧ (e = 58 ∨ e = 5) := by
  rintro x (rfl | hx)
  · exact ⟨_, _, H.blk, .inl rfl⟩
  · rcases H.row.2 with ⟨rfl, _⟩ | ⟨b, cap, cur, rfl, hb, hh, _⟩
    · simp [Value.ownBlock] at hx
    · simp only [Value.ownBlock, Option.some.injEq] at hx
      subst hx
      exact ⟨_, _, hh, .inr rfl⟩
theorem dr_keepS {w w' : World} {n g : Nat} {v : Value} {xs xs' : List UInt8} {k k' : Nat} (H : Dsk w n g v xs k) (h : DR n g v xs' k' w w') : KeepS w w' := by
  obtain ⟨v', _, _, ho⟩ := h
  intro x cs hx
  refine (ho.block x (lt_of_block hx) fun hb => ?_).trans hx
  obtain ⟨cs', e', h1, h2⟩ := dsk_kind H x hb
  have := h1.symm.trans hx
  simp only [Option.some.injEq, Obj.cells.injEq] at this
  obtain ⟨_, rfl, _⟩ := this
  rcases h2 with h | h <;> simp at h
/-- A disk stands while a row of texts grows. -/
theorem dko_row {n : Nat} {w0 w w' : World} {g : Nat} {xs : List UInt8} {k : Nat} (h : DkO n w0 g xs k w) {m : Nat} {v : Value} {ys : List Value} (hr : w.ownsRow n 9 1 v m ys) (hg : w.grownBy w' v.ownBlock) : DkO n w0 g xs k w' := by
  obtain ⟨u, h1, h2, h3⟩ := h
  have ho : Only (fun x => v.ownBlock = some x) w w' := ⟨hg.os, hg.tape, hg.output, hg.size, fun x hx hn => hg.block x hx fun e => hn e.symm⟩
  refine ⟨u, h1.keep ho fun x hx e => ?_, Nat.le_trans h2 hg.size, ho.below h3 (fun x e => (hr.lt x e).1) h2⟩
  obtain ⟨cs, e', h4, h5⟩ := dsk_kind h1 x hx
  rcases hr.2 with ⟨rfl, _⟩ | ⟨b, cap, cur, rfl, hb, hh, _⟩
  · simp [Value.ownBlock] at e
  · simp only [Value.ownBlock, Option.some.injEq] at e
    subst e
    rw [hh] at h4
    simp only [Option.some.injEq, Obj.cells.injEq] at h4
    obtain ⟨_, rfl, _⟩ := h4
    rcases h5 with h | h <;> simp at h

section
variable {n : Nat} {w0 w w' : World} {g : Nat} {xs ys : List UInt8} {k : Nat}
theorem ks_append (h : DkO n w0 g xs k w) {u : Value} {B : Nat} (hy : Byt w B u ys) (hlim : xs.length + ys.length ≤ 140737488355328) :
    Calls Try.prog 28 #[.pointer (some ⟨g, 0, none⟩), u] w fun e w' => e = .returned (.tuple #[]) ∧ DkO n w0 g (xs ++ ys) k w' ∧ KeepS w w' := by
  obtain ⟨v, h1, h2, h3⟩ := h
  exact (dappend_any h1 h2 u ys B hy hlim).mono fun _ _ ⟨he, hr⟩ => ⟨he, .turn h1 h2 h3 hr, dr_keepS h1 hr⟩
theorem ks_sync (h : DkO n w0 g xs k w) : Calls Try.prog 16 #[.pointer (some ⟨g, 0, none⟩)] w fun e w' => e = .returned (.tuple #[]) ∧ DkO n w0 g xs xs.length w' ∧ KeepS w w' := by
  obtain ⟨v, h1, h2, h3⟩ := h
  exact (dsync_any h1).mono fun _ _ ⟨he, hr, _⟩ => ⟨he, .turn h1 h2 h3 hr, dr_keepS h1 hr⟩
theorem ks_crash (h : DkO n w0 g xs k w) (hlim : xs.length ≤ 140737488355328) (keep : Int) :
    Calls Try.prog 17 #[.pointer (some ⟨g, 0, none⟩), .int .i64 keep] w fun e w' => e = .returned (.tuple #[]) ∧ DkO n w0 g (xs.take (crashN xs.length k keep)) (crashN xs.length k keep) w' ∧ KeepS w w' := by
  obtain ⟨v, h1, h2, h3⟩ := h
  exact (dcrash_any h1 hlim keep).mono fun _ _ ⟨he, hr⟩ => ⟨he, .turn h1 h2 h3 hr, dr_keepS h1 hr⟩

set_option maxHeartbeats 1000000 in
theorem wput_yes (h : DkO n w0 g xs k w) {v : Value} {B : Nat} {r : List UInt8} (hy : Byt w B v r) (hB : B ≤ w.heap.size) (hok : okR r) (hlim : xs.length + (frm r).length ≤ 140737488355328) :
    Calls Try.prog 15 #[.pointer (some ⟨g, 0, none⟩), v] w fun e w' => e = .returned (.int .i64 0) ∧ DkO n w0 g (xs ++ frm r) k w' ∧ KeepS w w' := by
  have HF := Lib.hid (frame_byt v B r w hy hB hok _ rfl)
  have HA : Hid (∀ (u : World) (x : Value), Below w.heap.size w u → Byt u u.heap.size x (frm r) → Calls Try.prog 28 #[.pointer (some ⟨g, 0, none⟩), x] u fun e w' => e = .returned (.tuple #[]) ∧ Hid (DkO n w0 g (xs ++ frm r) k w' ∧ KeepS w w')) := fun u x hu hx =>
    (ks_append (h.on hu) hx hlim).mono fun e w' ⟨he, h1, h2⟩ => ⟨he, h1, (KeepS.of hu).trans h2⟩
  obtain ⟨a, c, rfl, _⟩ := id hy
  clear h hy hok hlim
  go_enter Try.func15, Try.ntmps15
  go_wp2_with fail
  refine HF.out.mono ?_
  rintro e w1 ⟨fa, fc, rfl, hy1, hb1⟩
  have H1 := Lib.hid (HA.out _ _ hb1 hy1)
  clear hy1 hb1
  go_wp2_with fail
  refine H1.out.mono ?_
  rintro e w2 ⟨rfl, h2⟩
  go_wp2
  go_returns
  exact ⟨rfl, h2.out⟩

set_option maxHeartbeats 400000 in
theorem wput_no (p : Value) (a : Option Addr) (m c : Nat) (w : World) (h : m < 1 ∨ 4096 < m) : Calls Try.prog 15 #[p, .slice a m c] w fun e w' => e = .returned (.int .i64 1) ∧ w = w' := by
  have H := Lib.hid (frame_no a m c w h)
  clear h
  go_enter Try.func15, Try.ntmps15
  go_wp2_with fail
  refine H.out.mono ?_
  rintro e w1 ⟨rfl, rfl⟩
  go_wp2
  go_returns
  exact ⟨rfl, rfl⟩

/-- What Open answers. -/
def OpenOf (n : Nat) (w0 : World) (g : Nat) (xs : List UInt8) (w : World) (e : Ending) (w' : World) : Prop :=
  ∃ (L : List (List UInt8)) (m : Nat) (a : Option Addr) (c : Nat), e = .returned (.slice a L.length c) ∧ Hid (Rds xs L m) ∧ Hid (Recs w' n (.slice a L.length c) L) ∧ Hid (DkO n w0 g (xs.take m) m w') ∧ Hid (KeepS w w')

set_option maxHeartbeats 1000000 in
theorem wopen_any (h : DkO n w0 g xs k w) (hlim : xs.length ≤ 140737488355) :
    Calls Try.prog 19 #[.pointer (some ⟨g, 0, none⟩)] w (OpenOf n w0 g xs w) := by
  have HBy := Lib.hid (o_bytes h (by omega))
  have HRd : Hid (∀ (u : World) (v : Value), Byt u u.heap.size v xs → Calls Try.prog 11 #[v] u fun e w' => ∃ (L : List (List UInt8)) (m : Nat) (a : Option Addr) (c : Nat), e = .returned (.tuple #[.slice a L.length c, .int .i64 m]) ∧ Hid (Rds xs L m) ∧ Hid (Recs w' u.heap.size (.slice a L.length c) L) ∧ Below u.heap.size u w') := fun u v hv => by
    refine (wread_any v _ xs u hv (Nat.le_refl _) hlim).mono ?_
    rintro e w' ⟨L, m, hr, v', rfl, h1, h2⟩
    obtain ⟨a, c, rfl⟩ := h1.shape
    exact ⟨L, m, a, c, rfl, hr, h1, h2⟩
  have HCut : Hid (∀ (u u2 : World) (L : List (List UInt8)) (m : Nat) (v : Value), Below w.heap.size w u → Below u.heap.size u u2 → Rds xs L m → Recs u2 u.heap.size v L → Calls Try.prog 31 #[.pointer (some ⟨g, 0, none⟩), .int .i64 m] u2 fun e w' => e = .returned (.int .i64 0) ∧ Hid (DkO n w0 g (xs.take m) m w' ∧ Recs w' n v L ∧ KeepS w w')) := fun u u2 L m v hu hu2 hr hrec => by
    obtain ⟨x, h1, h2, h3⟩ := h
    have b2 : Below w.heap.size w u2 := hu.trans (hu2.mono hu.size)
    have hm : m ≤ xs.length := by
      obtain ⟨rest, he, _⟩ := hr.split
      rw [hr.len, he, List.length_append]
      omega
    have h1' := h1.on b2
    refine (dcut_any h1' m hm).mono ?_
    rintro e w' ⟨he, hd⟩
    have hon : Only (dblks g x) u2 w' := by obtain ⟨_, _, _, ho⟩ := hd; exact ho
    refine ⟨he, .turn h1' (Nat.le_trans h2 b2.size) (h3.trans (b2.mono h2)) hd, ?_, (KeepS.of b2).trans (dr_keepS h1' hd)⟩
    obtain ⟨vals, g1, g2⟩ := hrec
    have hlow : w.heap.size ≤ u.heap.size := hu.size
    have keep : ∀ {e s v k ys}, u2.ownsRow u.heap.size e s v k ys → w'.ownsRow n e s v k ys := fun {e s v k ys} hh =>
      ownsRow_low (ownsRow_on hh fun b hb => hon.block b (hh.lt b hb).2 fun hx => by have := (h1.all b hx).2; have := (hh.lt b hb).1; omega) (by omega)
    exact ⟨vals, keep g1, fun i hi => (g2 i hi).imp fun y ⟨hy, hz⟩ => ⟨hy, keep hz⟩⟩
  clear h
  go_enter Try.func19, Try.ntmps19
  go_wp2_with fail
  refine HBy.out.mono ?_
  rintro e w1 ⟨a1, c1, rfl, hy1, _, hb1⟩
  have H1 := Lib.hid (HRd.out _ _ hy1)
  have B1 := Lib.hid hb1
  clear hy1 hb1
  go_wp2_with fail
  refine H1.out.mono ?_
  rintro e w2 ⟨L, m, a2, c2, rfl, hr, hrec, hb2⟩
  have H2 := Lib.hid (HCut.out w1 w2 L m _ B1.out hb2 hr.out hrec.out)
  clear hb2
  go_wp2_with fail
  refine H2.out.mono ?_
  rintro e w3 ⟨rfl, h3⟩
  go_wp2
  go_returns
  exact ⟨L, m, a2, c2, rfl, hr, h3.out.2.1, h3.out.1, h3.out.2.2⟩
end
end Go.Proofs.Ytpmigpgkicacpaa
