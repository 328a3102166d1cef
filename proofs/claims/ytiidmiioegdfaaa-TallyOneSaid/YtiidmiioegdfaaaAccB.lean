/-
  THE PROGRAM's ACCEPTOR: mayKnow, Known, Vote, New. No condition but that chains have at most a million nodes.
-/
import Derived.Test.YtiidmiioegdfaaaAccA
import Derived.Test.YtiidmiioegdfaaaChainA
namespace Go.Proofs.Ytiidmiioegdfaaa
open Go.RowKit

theorem max_ex : ∀ (L : List Int), L ≠ [] → ∃ M : Int, ∀ n, M < n ↔ ∀ x ∈ L, x < n
  | [], h => absurd rfl h
  | [a], _ => ⟨a, fun n => by simp⟩
  | a :: b :: L, _ => by
    obtain ⟨M, hM⟩ := max_ex (b :: L) (by simp)
    refine ⟨if M < a then a else M, fun n => ?_⟩
    rw [List.forall_mem_cons, ← hM n]
    split <;> omega
theorem max_one {M N : Int} {P : Int → Prop} (h : ∀ n, M < n ↔ P n) (g : ∀ n, N < n ↔ P n) : N = M := by
  have h1 := (g (M + 1)).2 ((h (M + 1)).1 (by omega))
  have h2 := (h (N + 1)).2 ((g (N + 1)).1 (by omega))
  omega

set_option maxRecDepth 100000 in
set_option maxHeartbeats 2000000 in
theorem avote_r {T : TypeId} {w : World} {p : Nat} {kv cv : Value} {s : AccV} (hA : AccR T w p kv cv s) (hl : s.v.C.length ≤ 1000000) :
    Calls Try.prog 42 #[.pointer (some ⟨p, 0, none⟩)] w fun e w' => ∃ a c, e = .returned (.agg #[.int .i64 s.v.pr, .int .i64 s.v.pn, .int .i64 s.v.ar, .int .i64 s.v.an, .bool s.v.has, .int .i64 s.v.ce, .slice a s.v.C.length c]) ∧ Hid (RowI w' (.slice a s.v.C.length c) s.v.C ∧ Below w.heap.size w w') := by
  obtain ⟨W0, hW0⟩ : ∃ W, W = w.alloc (.cells #[.int .i64 0, .int .i64 0, .int .i64 0, .int .i64 0, .bool false, .int .i64 0, .slice none 0 0] 40) := ⟨_, rfl⟩
  have hb0 : Below w.heap.size w W0 := by rw [hW0]; exact (Below.refl _ w).alloc (Nat.le_refl _) _
  have hr0 : VotB W0 w.heap.size VoteV.zero (.slice none 0 0) := by rw [hW0]; exact VotB.fresh w VoteV.zero _
  have hs0 : W0.heap.size = w.heap.size + 1 := by rw [hW0]; simp
  obtain ⟨W, hW⟩ : ∃ W, W = W0.alloc (.cells #[.int .i64 s.v.pr, .int .i64 s.v.pn, .int .i64 s.v.ar, .int .i64 s.v.an, .bool s.v.has, .int .i64 s.v.ce, cv] 40) := ⟨_, rfl⟩
  have hb1 : Below W0.heap.size W0 W := by rw [hW]; exact (Below.refl _ W0).alloc (Nat.le_refl _) _
  have hr : VotB W w.heap.size VoteV.zero (.slice none 0 0) := hr0.keep hb1 (by omega)
  have hv : VotB W (w.heap.size + 1) s.v cv := by rw [hW, ← hs0]; exact VotB.fresh W0 s.v cv
  have hs : W.heap.size = w.heap.size + 2 := by rw [hW]; simp [hs0]
  have hb : Below w.heap.size w W := hb0.trans (hb1.mono (by omega))
  have a0 := hA.on hb0
  have a1 := hA.on hb
  have HC := Lib.hid (acopy_r s.v.ce cv s.v.C W.heap.size W a1.c.ints (Nat.le_refl _) hl)
  have HR := Lib.hid hr
  have HV := Lib.hid hv
  have HB := Lib.hid hb
  have HW := Lib.hid hW
  have HW0 := Lib.hid hW0
  have HS := Lib.hid hs
  have HS0 := Lib.hid hs0
  obtain ⟨_, _, _, x3, x4, x5, x6, x7, x8, x9⟩ := a0.b.cells
  obtain ⟨_, _, _, _, _, y5, y6⟩ := hv.cells
  obtain ⟨ax, cx, rfl⟩ := hA.c.shape
  clear hW hW0 hb hb0 hb1 hr hr0 hv hs hs0 a0 a1 hA
  rw [HW0.out] at x3 x4 x5 x6 x7 x8 x9
  rw [HW.out, HW0.out] at y5 y6
  go_enter Try.func42, Try.ntmps42
  go_wp2_with fail
  rw [← HW0.out, ← HW.out]
  refine HC.out.mono ?_
  rintro e w1 ⟨a, c, rfl, H1⟩
  have R1 := Lib.hid (HR.out.keep H1.out.2 HR.out.lt)
  have V1 := Lib.hid (HV.out.keep H1.out.2 HV.out.lt)
  have KL := H1.out.2.size
  have f5 := V1.out.free 5
  have f6 := V1.out.free 6
  clear x3 x4 x5 x6 x7 x8 x9 y5 y6
  obtain ⟨_, _, _, _, _, y5, y6⟩ := V1.out.cells
  obtain ⟨k1, k2⟩ := V1.out.chain (.slice a s.v.C.length c)
  obtain ⟨z0, z1, z2, z3, z4, z5, z6⟩ := k1.cells
  have R2 := Lib.hid (R1.out.keep (B := w.heap.size + 1) (k2.below (Below.refl _ w1) (fun x hx => by omega) (by have := HS.out; omega)) (by omega))
  have g0 := R2.out.free 0
  have g1 := R2.out.free 1
  have g2 := R2.out.free 2
  have g3 := R2.out.free 3
  have g4 := R2.out.free 4
  have g5 := R2.out.free 5
  have g6 := R2.out.free 6
  have K1 := Lib.hid k1
  have K2 := Lib.hid k2
  obtain ⟨j0, j1, j2, j3, j4, j5, j6⟩ := R2.out.cells
  unfold chainW at z0 z1 z2 z3 z4 z5 z6 g0 g1 g2 g3 g4 g5 g6 j0 j1 j2 j3 j4 j5 j6
  clear k1 k2
  go_wp2
  obtain ⟨m1, m2⟩ := R2.out.stored (v' := s.v) (cv' := .slice a s.v.C.length c)
  obtain ⟨e0, e1, e2, e3, e4, e5, e6⟩ := m1.cells
  unfold voteW chainW at e0 e1 e2 e3 e4 e5 e6
  refine bodyPost_ret (v := .agg #[.int .i64 s.v.pr, .int .i64 s.v.pn, .int .i64 s.v.ar, .int .i64 s.v.an, .bool s.v.has, .int .i64 s.v.ce, .slice a s.v.C.length c]) (by simp [results, Try.results42, go_sem, e0, e1, e2, e3, e4, e5, e6]) rfl ⟨a, c, rfl, (H1.out.1.beside V1.out (by decide) K2.out).beside R2.out (by decide) m2, ?_⟩
  have h2 := K2.out.below (HB.out.trans (H1.out.2.mono HB.out.size)) (fun x hx => by omega) (by have := HS.out; omega)
  exact m2.below h2 (fun x hx => by omega) h2.size

set_option maxRecDepth 100000 in
set_option maxHeartbeats 1000000 in
theorem anew_in (n : Nat) (h1 : 1 ≤ n) (h5 : n ≤ 5) (w : World) :
    Calls Try.prog 23 #[.int .i64 n] w fun e w' => ∃ p, e = .returned (.tuple #[.pointer (some ⟨p, 0, none⟩), .int .i64 0]) ∧ w.heap.size ≤ p ∧ Acc 76 w' p (AccV.first n) ∧ Below w.heap.size w w' := by
  have HF := Lib.hid (chfirst_in n h1 h5 w)
  go_enter Try.func23, Try.ntmps23
  go_wp2_with fail
  refine HF.out.mono ?_
  rintro e w1 ⟨a, c, rfl, O1, B1⟩
  have R1 := Lib.hid (RowI.own O1)
  have C1 := Lib.hid B1
  have hs := B1.size
  clear O1 B1
  go_wp2
  go_returns
  refine ⟨w1.heap.size + 1, rfl, by omega, ⟨.slice a n c, .slice none 0 0, ?_, ?_, RowI.none _⟩, (C1.out.alloc hs _).alloc (by simp; omega) _⟩
  · have h := heap_alloc_new (w1.alloc (.cells #[.int .i64 1, .slice a n c] 26)) (.cells #[.int .i64 n, .int .i64 1, .slice a n c, .int .i64 0, .int .i64 0, .int .i64 0, .int .i64 0, .bool false, .int .i64 0, .slice none 0 0] 76)
    rw [World.size_alloc] at h
    exact h
  · exact R1.out.on (by go_grown)
set_option maxHeartbeats 1000000 in
theorem anew_no (n : Int) (h : n < 1 ∨ 5 < n) (w : World) :
    Calls Try.prog 23 #[.int .i64 n] w fun e w' => e = .returned (.tuple #[.pointer none, .int .i64 1]) ∧ Below w.heap.size w w' := by
  have HF := Lib.hid (chfirst_no n h w)
  clear h
  go_enter Try.func23, Try.ntmps23
  go_wp2_with fail
  refine HF.out.mono ?_
  rintro e w1 ⟨rfl, B1⟩
  have C1 := Lib.hid B1
  have hs := B1.size
  clear B1
  go_wp2
  go_returns
  exact ⟨rfl, C1.out.alloc hs _⟩
end Go.Proofs.Ytiidmiioegdfaaa
