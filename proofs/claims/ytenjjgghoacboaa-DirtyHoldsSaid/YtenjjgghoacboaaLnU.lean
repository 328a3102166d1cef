/-
  THE LOG's Take; what is told of few; TOLD: what casebooklaw18.told asks holds. No condition but that a log has at most a hundred thousand requests.
-/
import Derived.Test.YtenjjgghoacboaaLnO
namespace Go.Proofs.Ytenjjgghoacboaa
open Go.RowKit

set_option maxHeartbeats 1000000 in
theorem ltake_nil (k cl sq kd id mt : Int) (dt : ByteArray) (w : World) : Calls Try.prog 20 #[.pointer none, .int .i64 k, .agg #[.int .i64 cl, .int .i64 sq, .int .i64 kd, .int .i64 id, .int .i64 mt, .string dt]] w fun e w' => e = .returned (.int .i64 1) ∧ Below w.heap.size w w' := by
  have HM := Lib.hid (fun u => lmade_nil u)
  have HP := Lib.hid (fun u => lput_nil cl sq kd id mt dt u)
  have HA := Lib.hid ((Below.refl _ w).alloc (Nat.le_refl _) (.cells #[.int .i64 cl, .int .i64 sq, .int .i64 kd, .int .i64 id, .int .i64 mt, .string dt] 34))
  go_enter Try.func20, Try.ntmps20
  go_wp2_with fail
  refine (HM.out _).mono ?_
  rintro e w1 ⟨rfl, rfl⟩
  go_wp2_with fail
  refine (HP.out _).mono ?_
  rintro e w1 ⟨rfl, hb⟩
  have HB := Lib.hid (HA.out.trans (hb.mono (by simp)))
  clear hb
  go_wp2
  go_returns
  exact ⟨rfl, HB.out⟩
section
variable {n : Nat} {w u u' : World} {g : Nat} {q : Int} {L : List ReqV} {c : Nat} {S : Nat → Prop}
theorem GLo.made (h : GLo n w g q L c S u) : Calls Try.prog 58 #[.pointer (some ⟨g, 0, none⟩)] u fun e w' => e = .returned (.bool true) ∧ u = w' := by
  obtain ⟨d, vq, vr, vp, K, H, _, _⟩ := h.ls
  exact lmade_r H
set_option maxHeartbeats 1000000 in
theorem GLo.takeNo (h : GLo n w g q L c S u) (hL : L.length ≤ 100000) (k : Int) (hk : k ≠ L.length + 1) (cl sq kd id mt : Int) (dt : ByteArray) :
    Calls Try.prog 20 #[.pointer (some ⟨g, 0, none⟩), .int .i64 k, .agg #[.int .i64 cl, .int .i64 sq, .int .i64 kd, .int .i64 id, .int .i64 mt, .string dt]] u fun e w' => e = .returned (.int .i64 9) ∧ Below u.heap.size u w' := by
  have HM := Lib.hid (fun o => (h.on ((Below.refl _ _).alloc (Nat.le_refl _) o)).made)
  have HLN := Lib.hid (fun o => (h.on ((Below.refl _ _).alloc (Nat.le_refl _) o)).len)
  obtain ⟨N, hN⟩ : ∃ N, N = L.length := ⟨_, rfl⟩
  rw [← hN] at HLN hk hL
  have hkb : (k != (N : Int) + 1) = true := by simpa using hk
  clear h hN hk
  go_enter Try.func20, Try.ntmps20
  go_wp2_with fail
  refine (HM.out _).mono ?_
  rintro e w1 ⟨rfl, rfl⟩
  go_wp2_with fail
  refine (HLN.out _).mono ?_
  rintro e w1 ⟨rfl, rfl⟩
  go_wp2
  go_returns
  exact ⟨rfl, by go_grown⟩
/-- How Take ends where the place is the next one. -/
def TakeR (n : Nat) (w : World) (g : Nat) (q : Int) (L' : List ReqV) (x : Int) (c : Nat) (S : Nat → Prop) (u : World) (e : Ending) (w' : World) : Prop := e = .returned (.int .i64 x) ∧ ∃ S', LTurn n w g q L' c S S' u w'
set_option maxHeartbeats 1000000 in
theorem GLo.takeYes (h : GLo n w g q L c S u) (hL : L.length ≤ 100000) (cl sq kd id mt : Int) (dt : ByteArray) (hd : dt.size ≤ maxLen) (L' : List ReqV) (p x : Int) (hV : lputV L ⟨cl, sq, kd, id, mt, dt⟩ = (L', p, x)) :
    Calls Try.prog 20 #[.pointer (some ⟨g, 0, none⟩), .int .i64 ((L.length : Int) + 1), .agg #[.int .i64 cl, .int .i64 sq, .int .i64 kd, .int .i64 id, .int .i64 mt, .string dt]] u (TakeR n w g q L' x c S u) := by
  have HM := Lib.hid (fun o => (h.on ((Below.refl _ _).alloc (Nat.le_refl _) o)).made)
  have HLN := Lib.hid (fun o => (h.on ((Below.refl _ _).alloc (Nat.le_refl _) o)).len)
  have HP := Lib.hid (fun o => (h.on ((Below.refl _ _).alloc (Nat.le_refl _) o)).put hL cl sq kd id mt dt hd L' p x hV)
  obtain ⟨N, hN⟩ : ∃ N, N = L.length := ⟨_, rfl⟩
  rw [← hN] at HLN hL ⊢
  clear h hN hV hd
  go_enter Try.func20, Try.ntmps20
  go_wp2_with fail
  refine (HM.out _).mono ?_
  rintro e w1 ⟨rfl, rfl⟩
  go_wp2_with fail
  refine (HLN.out _).mono ?_
  rintro e w1 ⟨rfl, rfl⟩
  go_wp2_with fail
  refine (HP.out _).mono ?_
  rintro e w1 ⟨rfl, S', ht⟩
  have HT := Lib.hid ht
  clear ht
  go_wp2
  go_returns
  exact ⟨rfl, S', HT.out.lo, (Only.alloc _ _ _).trans HT.out.only, fun x hx => (HT.out.more x hx).imp (fun h => h) (fun h => by simp at h; omega)⟩
end

/-! ### told -/
def tq18 : ReqV := ⟨1, 2, 1, 3, 0, ⟨#[120]⟩⟩
/-- The law's log and its request's box. -/
structure TK (n : Nat) (w : World) (g : Nat) (L : List ReqV) (c : Nat) (S : Nat → Prop) (b : Nat) (u : World) : Prop where
  lo : GLo n w g 5 L c S u
  rb : ReqB u b 1 2 1 3 0 ⟨#[120]⟩
  nb : ¬ S b
section
variable {n : Nat} {w u u' : World} {g : Nat} {L L' : List ReqV} {c c' : Nat} {S S' : Nat → Prop} {b : Nat}
theorem TK.on (h : TK n w g L c S b u) (hb : Below u.heap.size u u') : TK n w g L c S b u' := ⟨h.lo.on hb, h.rb.keep hb h.rb.lt, h.nb⟩
theorem TK.turn (h : TK n w g L c S b u) (t : LTurn n w g 5 L' c' S S' u u') : TK n w g L' c' S' b u' :=
  ⟨t.lo, h.rb.only t.only h.nb, fun hs => (t.more b hs).elim h.nb (fun hx => by have := h.rb.lt; omega)⟩
end
set_option maxRecDepth 100000 in
set_option maxHeartbeats 4000000 in
theorem told18_any (w : World) : Calls Try.prog 12 #[] w fun e w' => e = .returned (.bool true) ∧ Below w.heap.size w w' := by
  obtain ⟨n, hn⟩ : ∃ n, n = w.heap.size := ⟨_, rfl⟩
  have HN : Hid (Calls Try.prog 11 #[.int .i64 5] w fun e w' => ∃ g S, e = .returned (.tuple #[.pointer (some ⟨g, 0, none⟩), .int .i64 0]) ∧ Hid (GLo n w g 5 [] 0 S w' ∧ Below w.heap.size w w' ∧ ∀ x, S x → w.heap.size ≤ x)) := glo_new 5 (by decide) (by decide) (Below.refl _ _) (Nat.le_of_eq hn)
  have HK : Hid (∀ g S u, GLo n w g 5 [] 0 S u → TK n w g [] 0 S u.heap.size (u.alloc (.cells #[.int .i64 1, .int .i64 2, .int .i64 1, .int .i64 3, .int .i64 0, .string ⟨#[120]⟩] 34))) :=
    fun g S u h => ⟨h.on ((Below.refl _ _).alloc (Nat.le_refl _) _), ReqB.fresh u 1 2 1 3 0 ⟨#[120]⟩ 34, fun hs => by have := (h.all hs).2.1; omega⟩
  have hV1 : lputV [] tq18 = ([tq18], 1, 0) := lputV_yes (by decide) (by decide)
  have hV2 : lputV [tq18] tq18 = ([tq18], 0, 9) := lputV_old (by decide) (by decide)
  have H1 : Hid (∀ g S b u, TK n w g [] 0 S b u → Calls Try.prog 19 #[.pointer (some ⟨g, 0, none⟩), .agg #[.int .i64 1, .int .i64 2, .int .i64 1, .int .i64 3, .int .i64 0, .string ⟨#[120]⟩]] u fun e w' => e = .returned (.tuple #[.int .i64 1, .int .i64 0]) ∧ ∃ S', Hid (TK n w g [tq18] 0 S' b w')) :=
    fun g S b u h => (h.lo.put (by decide) 1 2 1 3 0 ⟨#[120]⟩ (by decide) _ _ _ hV1).mono fun _ _ ⟨he, S', ht⟩ => ⟨he, S', h.turn ht⟩
  have H2 : Hid (∀ g S b u, TK n w g [tq18] 0 S b u → Calls Try.prog 19 #[.pointer (some ⟨g, 0, none⟩), .agg #[.int .i64 1, .int .i64 2, .int .i64 1, .int .i64 3, .int .i64 0, .string ⟨#[120]⟩]] u fun e w' => e = .returned (.tuple #[.int .i64 0, .int .i64 9]) ∧ ∃ S', Hid (TK n w g [tq18] 0 S' b w')) :=
    fun g S b u h => (h.lo.put (by decide) 1 2 1 3 0 ⟨#[120]⟩ (by decide) _ _ _ hV2).mono fun _ _ ⟨he, S', ht⟩ => ⟨he, S', h.turn ht⟩
  have H3 : Hid (∀ g S b u, TK n w g [tq18] 0 S b u → Calls Try.prog 20 #[.pointer (some ⟨g, 0, none⟩), .int .i64 5, .agg #[.int .i64 1, .int .i64 2, .int .i64 1, .int .i64 3, .int .i64 0, .string ⟨#[120]⟩]] u fun e w' => e = .returned (.int .i64 9) ∧ Hid (TK n w g [tq18] 0 S b w')) :=
    fun g S b u h => (h.lo.takeNo (by decide) 5 (by decide) 1 2 1 3 0 ⟨#[120]⟩).mono fun _ _ ⟨he, hb⟩ => ⟨he, h.on hb⟩
  have H4 : Hid (∀ g S b u, TK n w g [tq18] 0 S b u → Calls Try.prog 22 #[.pointer (some ⟨g, 0, none⟩), .int .i64 1] u fun e w' => e = .returned (.tuple #[.agg #[.int .i64 0, .int .i64 0, .string ⟨#[]⟩, .slice none 0 0], .int .i64 6]) ∧ Hid (TK n w g [tq18] 0 S b w')) :=
    fun g S b u h => (h.lo.replyNo 1 (by decide)).mono fun _ _ ⟨he, hb⟩ => ⟨he, h.on hb⟩
  have H5 : Hid (∀ g S b u, TK n w g [tq18] 0 S b u → Calls Try.prog 21 #[.pointer (some ⟨g, 0, none⟩), .int .i64 1] u fun e w' => e = .returned (.int .i64 0) ∧ ∃ S', Hid (TK n w g [tq18] 1 S' b w')) :=
    fun g S b u h => (h.lo.comYes (by decide) 1 (by decide) (by decide)).mono fun _ _ ⟨he, S', ht⟩ => ⟨he, S', h.turn ht⟩
  have H6 : Hid (∀ g S b u, TK n w g [tq18] 1 S b u → Calls Try.prog 22 #[.pointer (some ⟨g, 0, none⟩), .int .i64 1] u fun e w' => ∃ ao cap, e = .returned (.tuple #[.agg #[.int .i64 1, .int .i64 1, .string ⟨#[]⟩, .slice ao 0 cap], .int .i64 0]) ∧ Hid (TK n w g [tq18] 1 S b w')) :=
    fun g S b u h => (h.lo.replyYes (by decide) 0 (by decide) _ rfl).mono fun _ _ ⟨ao, cap, he, _, hb⟩ => ⟨ao, cap, he, h.on hb⟩
  have H7 : Hid (∀ g S b u, TK n w g [tq18] 1 S b u → Calls Try.prog 45 #[.pointer (some ⟨g, 0, none⟩), .int .i64 1, .int .i64 2] u fun e w' => e = .returned (.tuple #[.int .i64 1, .bool true]) ∧ Hid (TK n w g [tq18] 1 S b w' ∧ Below u.heap.size u w')) :=
    fun g S b u h => (h.lo.find (by decide) 1 2).mono fun e w' ⟨p, f, he, hf, hb⟩ => by
      rcases hf with ⟨rfl, k, rfl, h1, _, _⟩ | ⟨rfl, rfl, hno⟩
      · obtain rfl : k = 0 := by simp at h1; omega
        exact ⟨he, h.on hb, hb⟩
      · exact absurd ⟨by decide, by decide, by decide⟩ (hno 0)
  have H8 : Hid (∀ g S b u, TK n w g [tq18] 1 S b u → Calls Try.prog 28 #[.pointer (some ⟨g, 0, none⟩), .int .i64 3] u fun e w' => e = .returned (.int .i64 1) ∧ u = w') := fun g S b u h => h.lo.last 3 1 (by decide)
  have H9 : Hid (∀ g S b u, TK n w g [tq18] 1 S b u → Calls Try.prog 46 #[.pointer (some ⟨g, 0, none⟩), .int .i64 1] u fun e w' => e = .returned (.int .i64 2) ∧ Hid (TK n w g [tq18] 1 S b w')) := fun g S b u h => (h.lo.seq (by decide) 1 2 (by decide)).mono fun _ _ ⟨he, hb⟩ => ⟨he, h.on hb⟩
  have H10 : Hid (∀ g S b u, TK n w g [tq18] 1 S b u → Calls Try.prog 18 #[.pointer (some ⟨g, 0, none⟩), .int .i64 0, .int .i64 5] u fun e w' => (∃ a c, e = .returned (.slice a 1 c)) ∧ Hid (TK n w g [tq18] 1 S b w')) :=
    fun g S b u h => (h.lo.since (by decide) 0 5).mono fun _ _ ⟨v, he, ho, hb⟩ => by
      obtain ⟨a, c, rfl⟩ := own_shape ho
      exact ⟨⟨a, c, he⟩, h.on hb⟩
  have H11 : Hid (∀ g S b u, TK n w g [tq18] 1 S b u → Calls Try.prog 21 #[.pointer (some ⟨g, 0, none⟩), .int .i64 2] u fun e w' => e = .returned (.int .i64 6) ∧ Hid (TK n w g [tq18] 1 S b w')) := fun g S b u h => (h.lo.comNo 2 (by decide)).mono fun _ _ ⟨he, hb⟩ => ⟨he, h.on hb⟩
  have HNN := Lib.hid hn
  clear hV1 hV2 hn
  go_enter Try.func12, Try.ntmps12
  go_wp2_with fail
  refine HN.out.mono ?_
  rintro e w1 ⟨g, S, rfl, T1⟩
  have K1 := Lib.hid (HK.out g S w1 T1.out.1)
  obtain ⟨b, hb⟩ : ∃ b, b = w1.heap.size := ⟨_, rfl⟩
  obtain ⟨w2, hw2⟩ : ∃ w2, w2 = w1.alloc (.cells #[.int .i64 1, .int .i64 2, .int .i64 1, .int .i64 3, .int .i64 0, .string ⟨#[120]⟩] 34) := ⟨_, rfl⟩
  rw [← hb, ← hw2] at K1
  have HW2 := Lib.hid hw2
  have HBB := Lib.hid hb
  have hcells := K1.out.rb.cells
  rw [hw2, hb] at hcells
  obtain ⟨e0, e1, e2, e3, e4, e5⟩ := hcells
  clear hw2 hb T1 HN HK
  go_wp2_with fail
  rw [← HW2.out, ← HBB.out]
  clear e0 e1 e2 e3 e4 e5 HW2 HBB
  refine (H1.out g S b w2 K1.out).mono ?_
  rintro e w3 ⟨rfl, S3, K3⟩
  obtain ⟨e0, e1, e2, e3, e4, e5⟩ := K3.out.rb.cells
  go_wp2_with fail
  clear e0 e1 e2 e3 e4 e5
  refine (H2.out g S3 b w3 K3.out).mono ?_
  rintro e w4 ⟨rfl, S4, K4⟩
  obtain ⟨e0, e1, e2, e3, e4, e5⟩ := K4.out.rb.cells
  go_wp2_with fail
  clear e0 e1 e2 e3 e4 e5
  refine (H3.out g S4 b w4 K4.out).mono ?_
  rintro e w5 ⟨rfl, K5⟩
  go_wp2_with fail
  refine (H4.out g S4 b w5 K5.out).mono ?_
  rintro e w6 ⟨rfl, K6⟩
  go_wp2_with fail
  have K7 := Lib.hid (K6.out.on ((Below.refl _ _).alloc (Nat.le_refl _) (.cells #[.int .i64 0, .int .i64 0, .string ⟨#[]⟩, .slice none 0 0] 48)))
  refine (H5.out g S4 b _ K7.out).mono ?_
  rintro e w7 ⟨rfl, S5, K8⟩
  go_wp2_with fail
  refine (H6.out g S5 b w7 K8.out).mono ?_
  rintro e w8 ⟨ao, cap, rfl, K9⟩
  go_wp2_with fail
  have K10 := Lib.hid (K9.out.on ((Below.refl _ _).alloc (Nat.le_refl _) (.cells #[.int .i64 1, .int .i64 1, .string ⟨#[]⟩, .slice ao 0 cap] 48)))
  refine (H7.out g S5 b _ K10.out).mono ?_
  rintro e w9 ⟨rfl, K11⟩
  have RB : w9.heap[w8.heap.size]? = some (.cells #[.int .i64 1, .int .i64 1, .string ⟨#[]⟩, .slice ao 0 cap] 48) := (K11.out.2.block _ (by simp)).trans (heap_alloc_new w8 _)
  have r0 : w9.cell? ⟨w8.heap.size, 0, none⟩ = some (.int .i64 1) := by simp [World.cell?, RB]
  have K12 := Lib.hid K11.out.1
  clear K11
  go_wp2_with fail
  clear r0 RB
  refine (H8.out g S5 b w9 K12.out).mono ?_
  rintro e w10 ⟨rfl, rfl⟩
  go_wp2_with fail
  refine (H9.out g S5 b w9 K12.out).mono ?_
  rintro e w11 ⟨rfl, K13⟩
  go_wp2_with fail
  refine (H10.out g S5 b w11 K13.out).mono ?_
  rintro e w12 ⟨⟨ax, cx, rfl⟩, K14⟩
  go_wp2_with fail
  refine (H11.out g S5 b w12 K14.out).mono ?_
  rintro e w13 ⟨rfl, K15⟩
  have K16 := Lib.hid K15.out.lo.bel
  clear K1 K3 K4 K5 K6 K7 K8 K9 K10 K12 K13 K14 K15 H1 H2 H3 H4 H5 H6 H7 H8 H9 H10 H11
  go_wp2
  go_returns
  exact ⟨rfl, by rw [← HNN.out]; exact K16.out⟩
end Go.Proofs.Ytenjjgghoacboaa
