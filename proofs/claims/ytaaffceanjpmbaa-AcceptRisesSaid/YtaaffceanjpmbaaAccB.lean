/-
  THE PROGRAM's ACCEPTOR: mayKnow, Known, Vote, New. No condition but that chains have at most a million nodes.
-/
import Derived.Test.YtaaffceanjpmbaaAccA
import Derived.Test.YtaaffceanjpmbaaChainA
namespace Go.Proofs.Ytaaffceanjpmbaa
open Go.RowKit

theorem max_ex : ∀ (L : List Int), L ≠ [] → ∃ M : Int, ∀ n, M < n ↔ ∀ x ∈ L, x < n
  | [], h => absurd rfl h
  | [a], _ => ⟨a, fun n => by simp⟩
  | a :: b :: L, _ => by
    obtain ⟨M, hM⟩ := max_ex (b :: L) (by simp)
    refine ⟨if M < a then a else M, fun n => ?_⟩
    rw [List.forall_mem_cons, ← hM n]
    split <;> omega
theorem max_one {M N : Int} {P : Int → Prop} (h : ∀ n, M < n ↔ P n) (g : ∀ n, N < n ↔ P n) : N = M := by
  have h1 := (g (M + 1)).2 ((h (M + 1)).1 (by omega))
  have h2 := (h (N + 1)).2 ((g (N + 1)).1 (by omega))
  omega

set_option maxRecDepth 100000 in
set_option maxHeartbeats 2000000 in
theorem amayknow_r {T : TypeId} {w : World} {p : Nat} {kv cv : Value} {s : AccV} (hA : AccB T w p kv cv s) (ep : Int) (v : Value) (L : List Int) (B : Nat) (hI : Ints w B v L) (hB : B ≤ w.heap.size) {R : Bool} (hR : decide (ChainV.may ⟨ep, L⟩ ∧ ∀ x ∈ L, x < s.n) = R) :
    Calls Try.prog 32 #[.pointer (some ⟨p, 0, none⟩), .agg #[.int .i64 ep, v]] w fun e w' => e = .returned (.bool R) ∧ Below w.heap.size w w' := by
  obtain ⟨a0, c0, rfl⟩ : ∃ a c, v = .slice a L.length c := by obtain ⟨a, c, h, _⟩ := hI; exact ⟨a, c, h⟩
  obtain ⟨W, hW⟩ : ∃ W, W = w.alloc (.cells #[.int .i64 ep, .slice a0 L.length c0] 28) := ⟨_, rfl⟩
  have HB : Hid (Below w.heap.size w W) := by rw [hW]; exact (Below.refl _ w).alloc (Nat.le_refl _) _
  have HM : Hid (∀ u, Below W.heap.size W u → Calls Try.prog 35 #[.agg #[.int .i64 ep, .slice a0 L.length c0]] u fun e w' => e = .returned (.bool (decide (ChainV.may ⟨ep, L⟩))) ∧ Below u.heap.size u w') := fun u hu =>
    maychain_r ep _ L B u (hI.keep ((HB.out.trans (hu.mono HB.out.size)).mono hB)) (Nat.le_trans hB (Nat.le_trans HB.out.size hu.size)) _ rfl
  have FX : Hid (∀ u, Below W.heap.size W u → u.cell? ⟨w.heap.size, 0, none⟩ = some (.int .i64 ep) ∧ u.cell? ⟨w.heap.size, 1, none⟩ = some (.slice a0 L.length c0) ∧ u.cell? ⟨p, 0, none⟩ = some (.int .i64 s.n)) := fun u hu => by
    have hb : ChT u w.heap.size ep (.slice a0 L.length c0) := by rw [hW] at hu; exact (ChT.fresh w _ _).keep hu (by simp)
    have ha : AccB T u p kv cv s := (hA.on (w' := W) (by rw [hW]; exact (Below.refl _ w).alloc (Nat.le_refl _) _)).on hu
    exact ⟨hb.cells.1, hb.cells.2.1, ha.cells.1⟩
  have P0 : Below W.heap.size W W.drew := (Below.refl _ _).drew
  by_cases hm : ChainV.may ⟨ep, L⟩
  · have hl : 1 ≤ L.length ∧ L.length ≤ 5 := ⟨hm.2.2.1, hm.2.2.2.1⟩
    obtain ⟨M, hM⟩ := max_ex L (fun e => by rw [e] at hl; simp at hl)
    have HX : Hid (∀ u, Below W.heap.size W u → Calls Try.prog 55 #[.slice a0 L.length c0] u fun e w' => e = .returned (.int .i64 M) ∧ Below u.heap.size u w') := fun u hu =>
      (slmax_r _ L B u (hI.keep ((HB.out.trans (hu.mono HB.out.size)).mono hB)) (by omega) hl.1).mono fun e w' ⟨⟨N, he, hN⟩, hw⟩ => ⟨by rw [he, max_one hM hN], hw ▸ Below.refl _ _⟩
    have HR : Hid (decide (M < s.n) = R) := by show _ = _; rw [← hR, decide_eq_decide]; simp [hM s.n, hm]
    rw [decide_eq_true hm] at HM
    clear hA hR hm hI hM hl
    go_enter Try.func32, Try.ntmps32
    go_wp2_with fail
    rw [← hW]
    clear hW
    refine region_quiet (fun v => Below W.heap.size W v) (by kernel_rfl) (by kernel_rfl) P0 ?_
    repeat (first
      | go_big_quiet_skip
      | (go_big_quiet_want
         (first
          | (refine quiet_run (v := ?_) ?_ ?_; rotate_left; (intro u hu; obtain ⟨c0, c1, c2⟩ := FX.out u hu; go_simp <;> with_reducible rfl); simp only [Act.put, List.setIfInBounds_toArray, List.set_cons_zero, List.set_cons_succ]; go_big_quiet_on)
          | (refine quiet_enter 35 _ ?_ (fun u hu => (HM.out u hu).mono fun e u' ⟨he, hb⟩ => ⟨he, hu.trans (hb.mono hu.size)⟩) ?_; (focus (intro u; first | (go_simp; done) | (go_simp; with_reducible rfl))); simp only [Act.put, List.setIfInBounds_toArray, List.set_cons_zero, List.set_cons_succ]; go_big_quiet_on)
          | (refine quiet_enter 55 _ ?_ (fun u hu => (HX.out u hu).mono fun e u' ⟨he, hb⟩ => ⟨he, hu.trans (hb.mono hu.size)⟩) ?_; (focus (intro u; first | (go_simp; done) | (go_simp; with_reducible rfl))); simp only [Act.put, List.setIfInBounds_toArray, List.set_cons_zero, List.set_cons_succ]; go_big_quiet_on))))
    refine wpQuiet_nil ?_
    intro w4 h4
    have C4 : Hid (Below w.heap.size w w4) := HB.out.trans (h4.mono HB.out.size)
    clear P0 FX h4
    go_wp2
    go_returns
    exact ⟨ret_bool HR.out, C4.out⟩
  · obtain rfl : R = false := by rw [← hR]; exact decide_eq_false fun h => hm h.1
    rw [decide_eq_false hm] at HM
    clear hA hR hm hI
    go_enter Try.func32, Try.ntmps32
    go_wp2_with fail
    rw [← hW]
    clear hW
    refine region_quiet (fun v => Below W.heap.size W v) (by kernel_rfl) (by kernel_rfl) P0 ?_
    repeat (first
      | go_big_quiet_skip
      | (go_big_quiet_want
         (first
          | (refine quiet_run (v := ?_) ?_ ?_; rotate_left; (intro u hu; obtain ⟨c0, c1, c2⟩ := FX.out u hu; go_simp <;> with_reducible rfl); simp only [Act.put, List.setIfInBounds_toArray, List.set_cons_zero, List.set_cons_succ]; go_big_quiet_on)
          | (refine quiet_enter 35 _ ?_ (fun u hu => (HM.out u hu).mono fun e u' ⟨he, hb⟩ => ⟨he, hu.trans (hb.mono hu.size)⟩) ?_; (focus (intro u; first | (go_simp; done) | (go_simp; with_reducible rfl))); simp only [Act.put, List.setIfInBounds_toArray, List.set_cons_zero, List.set_cons_succ]; go_big_quiet_on))))
    refine wpQuiet_nil ?_
    intro w4 h4
    have C4 : Hid (Below w.heap.size w w4) := HB.out.trans (h4.mono HB.out.size)
    clear P0 FX h4
    go_wp2
    go_returns
    exact ⟨rfl, C4.out⟩

set_option maxRecDepth 100000 in
set_option maxHeartbeats 1000000 in
theorem aknown_r {T : TypeId} {w : World} {p : Nat} {kv cv : Value} {s : AccV} (hA : AccR T w p kv cv s) (hl : s.K.length ≤ 1000000) :
    Calls Try.prog 14 #[.pointer (some ⟨p, 0, none⟩)] w fun e w' => ∃ a c, e = .returned (.agg #[.int .i64 s.ke, .slice a s.K.length c]) ∧ Hid (RowI w' (.slice a s.K.length c) s.K ∧ Below w.heap.size w w') := by
  obtain ⟨W, hW⟩ : ∃ W, W = w.alloc (.cells #[.int .i64 0, .slice none 0 0] 28) := ⟨_, rfl⟩
  have hb : Below w.heap.size w W := by rw [hW]; exact (Below.refl _ w).alloc (Nat.le_refl _) _
  have hr : ChT W w.heap.size 0 (.slice none 0 0) := by rw [hW]; exact ChT.fresh w _ _
  have a1 := hA.on hb
  have HC := Lib.hid (acopy_r s.ke kv s.K W.heap.size W a1.k.ints (Nat.le_refl _) hl)
  have HR := Lib.hid hr
  have HB := Lib.hid hb
  have HW := Lib.hid hW
  have hsW : W.heap.size = w.heap.size + 1 := by rw [hW]; simp
  have hp := hA.b.lt
  have hpn : p ≠ w.heap.size := by omega
  obtain ⟨_, x1, x2, _⟩ := a1.b.cells
  obtain ⟨a0, c0, rfl⟩ := hA.k.shape
  clear hW hb hr a1 hA
  rw [HW.out] at x1 x2
  go_enter Try.func14, Try.ntmps14
  go_wp2_with fail
  rw [← HW.out]
  refine HC.out.mono ?_
  rintro e w1 ⟨a, c, rfl, H1⟩
  have R1 := Lib.hid (HR.out.keep H1.out.2 HR.out.lt)
  obtain ⟨f0, f1, f2, f3⟩ := R1.out.cells
  go_wp2
  obtain ⟨k1, k2⟩ := R1.out.stored (ep' := s.ke) (v' := .slice a s.K.length c)
  obtain ⟨e0, e1, _, _⟩ := k1.cells
  unfold chW at e0 e1
  refine bodyPost_ret (v := .agg #[.int .i64 s.ke, .slice a s.K.length c]) (by simp [results, Try.results14, go_sem, e0, e1]) rfl ⟨a, c, rfl, H1.out.1.beside R1.out (by decide) k2, k2.below (HB.out.trans (H1.out.2.mono HB.out.size)) (fun x hx => by omega) (by have := H1.out.2.size; omega)⟩

set_option maxRecDepth 100000 in
set_option maxHeartbeats 2000000 in
theorem avote_r {T : TypeId} {w : World} {p : Nat} {kv cv : Value} {s : AccV} (hA : AccR T w p kv cv s) (hl : s.v.C.length ≤ 1000000) :
    Calls Try.prog 12 #[.pointer (some ⟨p, 0, none⟩)] w fun e w' => ∃ a c, e = .returned (.agg #[.int .i64 s.v.pr, .int .i64 s.v.pn, .int .i64 s.v.ar, .int .i64 s.v.an, .bool s.v.has, .int .i64 s.v.ce, .slice a s.v.C.length c]) ∧ Hid (RowI w' (.slice a s.v.C.length c) s.v.C ∧ Below w.heap.size w w') := by
  obtain ⟨W0, hW0⟩ : ∃ W, W = w.alloc (.cells #[.int .i64 0, .int .i64 0, .int .i64 0, .int .i64 0, .bool false, .int .i64 0, .slice none 0 0] 32) := ⟨_, rfl⟩
  have hb0 : Below w.heap.size w W0 := by rw [hW0]; exact (Below.refl _ w).alloc (Nat.le_refl _) _
  have hr0 : VotB W0 w.heap.size VoteV.zero (.slice none 0 0) := by rw [hW0]; exact VotB.fresh w VoteV.zero _
  have hs0 : W0.heap.size = w.heap.size + 1 := by rw [hW0]; simp
  obtain ⟨W, hW⟩ : ∃ W, W = W0.alloc (.cells #[.int .i64 s.v.pr, .int .i64 s.v.pn, .int .i64 s.v.ar, .int .i64 s.v.an, .bool s.v.has, .int .i64 s.v.ce, cv] 32) := ⟨_, rfl⟩
  have hb1 : Below W0.heap.size W0 W := by rw [hW]; exact (Below.refl _ W0).alloc (Nat.le_refl _) _
  have hr : VotB W w.heap.size VoteV.zero (.slice none 0 0) := hr0.keep hb1 (by omega)
  have hv : VotB W (w.heap.size + 1) s.v cv := by rw [hW, ← hs0]; exact VotB.fresh W0 s.v cv
  have hs : W.heap.size = w.heap.size + 2 := by rw [hW]; simp [hs0]
  have hb : Below w.heap.size w W := hb0.trans (hb1.mono (by omega))
  have a0 := hA.on hb0
  have a1 := hA.on hb
  have HC := Lib.hid (acopy_r s.v.ce cv s.v.C W.heap.size W a1.c.ints (Nat.le_refl _) hl)
  have HR := Lib.hid hr
  have HV := Lib.hid hv
  have HB := Lib.hid hb
  have HW := Lib.hid hW
  have HW0 := Lib.hid hW0
  have HS := Lib.hid hs
  have HS0 := Lib.hid hs0
  obtain ⟨_, _, _, x3, x4, x5, x6, x7, x8, x9⟩ := a0.b.cells
  obtain ⟨_, _, _, _, _, y5, y6⟩ := hv.cells
  obtain ⟨ax, cx, rfl⟩ := hA.c.shape
  clear hW hW0 hb hb0 hb1 hr hr0 hv hs hs0 a0 a1 hA
  rw [HW0.out] at x3 x4 x5 x6 x7 x8 x9
  rw [HW.out, HW0.out] at y5 y6
  go_enter Try.func12, Try.ntmps12
  go_wp2_with fail
  rw [← HW0.out, ← HW.out]
  refine HC.out.mono ?_
  rintro e w1 ⟨a, c, rfl, H1⟩
  have R1 := Lib.hid (HR.out.keep H1.out.2 HR.out.lt)
  have V1 := Lib.hid (HV.out.keep H1.out.2 HV.out.lt)
  have KL := H1.out.2.size
  have f5 := V1.out.free 5
  have f6 := V1.out.free 6
  clear x3 x4 x5 x6 x7 x8 x9 y5 y6
  obtain ⟨_, _, _, _, _, y5, y6⟩ := V1.out.cells
  obtain ⟨k1, k2⟩ := V1.out.chain (.slice a s.v.C.length c)
  obtain ⟨z0, z1, z2, z3, z4, z5, z6⟩ := k1.cells
  have R2 := Lib.hid (R1.out.keep (B := w.heap.size + 1) (k2.below (Below.refl _ w1) (fun x hx => by omega) (by have := HS.out; omega)) (by omega))
  have g0 := R2.out.free 0
  have g1 := R2.out.free 1
  have g2 := R2.out.free 2
  have g3 := R2.out.free 3
  have g4 := R2.out.free 4
  have g5 := R2.out.free 5
  have g6 := R2.out.free 6
  have K1 := Lib.hid k1
  have K2 := Lib.hid k2
  obtain ⟨j0, j1, j2, j3, j4, j5, j6⟩ := R2.out.cells
  unfold chainW at z0 z1 z2 z3 z4 z5 z6 g0 g1 g2 g3 g4 g5 g6 j0 j1 j2 j3 j4 j5 j6
  clear k1 k2
  go_wp2
  obtain ⟨m1, m2⟩ := R2.out.stored (v' := s.v) (cv' := .slice a s.v.C.length c)
  obtain ⟨e0, e1, e2, e3, e4, e5, e6⟩ := m1.cells
  unfold voteW chainW at e0 e1 e2 e3 e4 e5 e6
  refine bodyPost_ret (v := .agg #[.int .i64 s.v.pr, .int .i64 s.v.pn, .int .i64 s.v.ar, .int .i64 s.v.an, .bool s.v.has, .int .i64 s.v.ce, .slice a s.v.C.length c]) (by simp [results, Try.results12, go_sem, e0, e1, e2, e3, e4, e5, e6]) rfl ⟨a, c, rfl, (H1.out.1.beside V1.out (by decide) K2.out).beside R2.out (by decide) m2, ?_⟩
  have h2 := K2.out.below (HB.out.trans (H1.out.2.mono HB.out.size)) (fun x hx => by omega) (by have := HS.out; omega)
  exact m2.below h2 (fun x hx => by omega) h2.size

set_option maxRecDepth 100000 in
set_option maxHeartbeats 1000000 in
theorem anew_in (n : Nat) (h1 : 1 ≤ n) (h5 : n ≤ 5) (w : World) :
    Calls Try.prog 9 #[.int .i64 n] w fun e w' => ∃ p, e = .returned (.tuple #[.pointer (some ⟨p, 0, none⟩), .int .i64 0]) ∧ w.heap.size ≤ p ∧ Acc 63 w' p (AccV.first n) ∧ Below w.heap.size w w' := by
  have HF := Lib.hid (chfirst_in n h1 h5 w)
  go_enter Try.func9, Try.ntmps9
  go_wp2_with fail
  refine HF.out.mono ?_
  rintro e w1 ⟨a, c, rfl, O1, B1⟩
  have R1 := Lib.hid (RowI.own O1)
  have C1 := Lib.hid B1
  have hs := B1.size
  clear O1 B1
  go_wp2
  go_returns
  refine ⟨w1.heap.size + 1, rfl, by omega, ⟨.slice a n c, .slice none 0 0, ?_, ?_, RowI.none _⟩, (C1.out.alloc hs _).alloc (by simp; omega) _⟩
  · have h := heap_alloc_new (w1.alloc (.cells #[.int .i64 1, .slice a n c] 28)) (.cells #[.int .i64 n, .int .i64 1, .slice a n c, .int .i64 0, .int .i64 0, .int .i64 0, .int .i64 0, .bool false, .int .i64 0, .slice none 0 0] 63)
    rw [World.size_alloc] at h
    exact h
  · exact R1.out.on (by go_grown)
set_option maxHeartbeats 1000000 in
theorem anew_no (n : Int) (h : n < 1 ∨ 5 < n) (w : World) :
    Calls Try.prog 9 #[.int .i64 n] w fun e w' => e = .returned (.tuple #[.pointer none, .int .i64 1]) ∧ Below w.heap.size w w' := by
  have HF := Lib.hid (chfirst_no n h w)
  clear h
  go_enter Try.func9, Try.ntmps9
  go_wp2_with fail
  refine HF.out.mono ?_
  rintro e w1 ⟨rfl, B1⟩
  have C1 := Lib.hid B1
  have hs := B1.size
  clear B1
  go_wp2
  go_returns
  exact ⟨rfl, C1.out.alloc hs _⟩
end Go.Proofs.Ytaaffceanjpmbaa
