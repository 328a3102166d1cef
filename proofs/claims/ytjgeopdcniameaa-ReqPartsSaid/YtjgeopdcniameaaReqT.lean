/-
  THE LAWS' told(): true, whatever the memory. No condition.
-/
import Derived.Test.YtjgeopdcniameaaReqA
namespace Go.Proofs.Ytjgeopdcniameaa
open Go.RowKit

theorem ints_one (w : World) (a : Int) (e : TypeId) : Ints (w.alloc (.cells #[.int .i64 a] e)) (w.alloc (.cells #[.int .i64 a] e)).heap.size (.slice (some ⟨w.heap.size, 0, none⟩) 1 1) [a] := by
  refine ⟨_, _, rfl, Nat.le_refl _, by decide, fun h => (by cases h), fun _ => ⟨w.heap.size, 0, rfl, by simp, fun j hj => ?_⟩⟩
  obtain rfl : j = 0 := by simp at hj; exact hj
  rw [cell_of_row _ _ 0 _ _ _ (heap_alloc_new w (.cells #[.int .i64 a] e))]
  rfl

theorem ints_zero (w : World) (B : Nat) (a : Addr) : Ints w B (.slice (some a) 0 0) [] :=
  ⟨_, _, rfl, Nat.le_refl _, Nat.zero_le _, fun h => (by cases h), fun h => absurd rfl h⟩

set_option maxHeartbeats 4000000 in
set_option maxRecDepth 100000 in
theorem told3_any (w : World) : Calls Try.prog 6 #[] w fun e w' => e = .returned (.bool true) ∧ Below w.heap.size w w' := by
  have HS : Hid (∀ u, Calls Try.prog 8 #[.agg #[.int .i64 1, .int .i64 5, .int .i64 4, .int .i64 3, .int .i64 0, .string ⟨#[]⟩], .agg #[.int .i64 1, .int .i64 5, .int .i64 4, .int .i64 3, .int .i64 0, .string ⟨#[]⟩]] u fun e w' =>
      e = .returned (.bool true) ∧ Below u.heap.size u w') := fun u => same_r 1 5 4 3 0 1 5 4 3 0 ⟨#[]⟩ ⟨#[]⟩ true (by simp) u
  have HN : Hid (∀ u, Calls Try.prog 8 #[.agg #[.int .i64 1, .int .i64 5, .int .i64 4, .int .i64 3, .int .i64 0, .string ⟨#[]⟩], .agg #[.int .i64 0, .int .i64 0, .int .i64 0, .int .i64 0, .int .i64 0, .string ⟨#[]⟩]] u fun e w' =>
      e = .returned (.bool false) ∧ Below u.heap.size u w') := fun u => same_r 1 5 4 3 0 0 0 0 0 0 ⟨#[]⟩ ⟨#[]⟩ false (by simp) u
  have HK : Hid (∀ u, Calls Try.prog 11 #[.agg #[.int .i64 1, .int .i64 5, .int .i64 4, .int .i64 3, .int .i64 0, .string ⟨#[]⟩]] u fun e w' =>
      e = .returned (.int .i64 3) ∧ Below u.heap.size u w') := fun u => key_r 1 5 4 3 0 ⟨#[]⟩ (by decide) 3 (show _ = _ by decide) u
  have HZ : Hid (∀ u, Calls Try.prog 11 #[.agg #[.int .i64 0, .int .i64 0, .int .i64 0, .int .i64 0, .int .i64 0, .string ⟨#[]⟩]] u fun e w' =>
      e = .returned (.int .i64 (-1)) ∧ Below u.heap.size u w') := fun u => key_r 0 0 0 0 0 ⟨#[]⟩ (by decide) (-1) (show _ = _ by decide) u
  have HW : Hid (∀ u, Calls Try.prog 12 #[.agg #[.int .i64 1, .int .i64 5, .int .i64 4, .int .i64 3, .int .i64 0, .string ⟨#[]⟩], .int .i64 5] u fun e w' =>
      e = .returned (.bool false) ∧ Below u.heap.size u w') := fun u => newer_r 1 5 4 3 0 5 ⟨#[]⟩ (by decide) false (show _ = _ by decide) u
  have HX : Hid (∀ u, Calls Try.prog 12 #[.agg #[.int .i64 1, .int .i64 5, .int .i64 4, .int .i64 3, .int .i64 0, .string ⟨#[]⟩], .int .i64 4] u fun e w' =>
      e = .returned (.bool true) ∧ Below u.heap.size u w') := fun u => newer_r 1 5 4 3 0 4 ⟨#[]⟩ (by decide) true (show _ = _ by decide) u
  have HP : Hid (∀ u : World, Calls Try.prog 9 #[.agg #[.int .i64 0, .int .i64 0, .string ⟨#[]⟩, .slice (some ⟨u.heap.size, 0, none⟩) 1 1], .agg #[.int .i64 0, .int .i64 0, .string ⟨#[]⟩, .slice (some ⟨u.heap.size + 1, 0, none⟩) 1 1]]
      ((u.alloc (.cells #[.int .i64 1] 3)).alloc (.cells #[.int .i64 2] 3)) fun e w' => e = .returned (.bool false) ∧ Below ((u.alloc (.cells #[.int .i64 1] 3)).alloc (.cells #[.int .i64 2] 3)).heap.size ((u.alloc (.cells #[.int .i64 1] 3)).alloc (.cells #[.int .i64 2] 3)) w') := by
    intro u
    have h2 := ints_one (u.alloc (.cells #[.int .i64 1] 3)) 2 3
    rw [show (u.alloc (.cells #[.int .i64 1] 3)).heap.size = u.heap.size + 1 by simp] at h2
    have h1 := ((ints_one u 1 3).keep ((Below.refl _ _).alloc (Nat.le_refl _) (.cells #[.int .i64 2] 3))).mono (B' := ((u.alloc (.cells #[.int .i64 1] 3)).alloc (.cells #[.int .i64 2] 3)).heap.size) (by simp)
    exact samereply_any 0 0 0 0 ⟨#[]⟩ ⟨#[]⟩ _ _ [1] [2] _ _ h1 h2 (Nat.le_refl _) (by decide) false (show _ = _ by simp)
  have HQ : Hid (∀ u : World, Calls Try.prog 9 #[.agg #[.int .i64 0, .int .i64 0, .string ⟨#[]⟩, .slice (some ⟨u.heap.size, 0, none⟩) 0 0], .agg #[.int .i64 0, .int .i64 0, .string ⟨#[]⟩, .slice none 0 0]]
      (u.alloc (.cells #[] 3)) fun e w' => e = .returned (.bool true) ∧ Below (u.alloc (.cells #[] 3)).heap.size (u.alloc (.cells #[] 3)) w') := by
    intro u
    exact samereply_any 0 0 0 0 ⟨#[]⟩ ⟨#[]⟩ _ _ [] [] _ _ (ints_zero _ _ _) (Ints.none _ _) (Nat.le_refl _) (by decide) true (show _ = _ by simp)
  go_enter Try.func6, Try.ntmps6
  go_wp2_with fail
  refine (HS.out _).mono ?_
  rintro e w1 ⟨rfl, B1⟩
  have D1 : Hid (ReqB w1 w.heap.size 1 5 4 3 0 ⟨#[]⟩) := (ReqB.fresh w _ _ _ _ _ _ 23).keep B1 (by simp)
  have C1 : Hid (Below w.heap.size w w1) := ((Below.refl _ w).alloc (Nat.le_refl _) _).trans (B1.mono (by simp))
  clear B1
  obtain ⟨c0, c1, c2, c3, c4, c5⟩ := D1.out.cells
  go_wp2_with fail
  refine (HN.out _).mono ?_
  rintro e w2 ⟨rfl, B2⟩
  have D2 : Hid (ReqB w2 w.heap.size 1 5 4 3 0 ⟨#[]⟩) := D1.out.keep B2 D1.out.lt
  have C2 : Hid (Below w.heap.size w w2) := C1.out.trans (B2.mono C1.out.size)
  clear B2 c0 c1 c2 c3 c4 c5 D1 C1
  obtain ⟨c0, c1, c2, c3, c4, c5⟩ := D2.out.cells
  go_wp2_with fail
  refine (HK.out _).mono ?_
  rintro e w3 ⟨rfl, B3⟩
  have D3 : Hid (ReqB w3 w.heap.size 1 5 4 3 0 ⟨#[]⟩) := D2.out.keep B3 D2.out.lt
  have C3 : Hid (Below w.heap.size w w3) := C2.out.trans (B3.mono C2.out.size)
  clear B3 c0 c1 c2 c3 c4 c5 D2 C2
  obtain ⟨c0, c1, c2, c3, c4, c5⟩ := D3.out.cells
  go_wp2_with fail
  refine (HZ.out _).mono ?_
  rintro e w4 ⟨rfl, B4⟩
  have D4 : Hid (ReqB w4 w.heap.size 1 5 4 3 0 ⟨#[]⟩) := D3.out.keep B4 D3.out.lt
  have C4 : Hid (Below w.heap.size w w4) := C3.out.trans (B4.mono C3.out.size)
  clear B4 c0 c1 c2 c3 c4 c5 D3 C3
  obtain ⟨c0, c1, c2, c3, c4, c5⟩ := D4.out.cells
  go_wp2_with fail
  refine (HW.out _).mono ?_
  rintro e w5 ⟨rfl, B5⟩
  have D5 : Hid (ReqB w5 w.heap.size 1 5 4 3 0 ⟨#[]⟩) := D4.out.keep B5 D4.out.lt
  have C5 : Hid (Below w.heap.size w w5) := C4.out.trans (B5.mono C4.out.size)
  clear B5 c0 c1 c2 c3 c4 c5 D4 C4
  obtain ⟨c0, c1, c2, c3, c4, c5⟩ := D5.out.cells
  go_wp2_with fail
  refine (HX.out _).mono ?_
  rintro e w6 ⟨rfl, B6⟩
  have D6 : Hid (ReqB w6 w.heap.size 1 5 4 3 0 ⟨#[]⟩) := D5.out.keep B6 D5.out.lt
  have C6 : Hid (Below w.heap.size w w6) := C5.out.trans (B6.mono C5.out.size)
  clear B6 c0 c1 c2 c3 c4 c5 D5 C5
  obtain ⟨c0, c1, c2, c3, c4, c5⟩ := D6.out.cells
  clear c0 c1 c2 c3 c4 c5 D6
  go_wp2_with fail
  refine (HP.out _).mono ?_
  rintro e w7 ⟨rfl, B7⟩
  have C7 : Hid (Below w.heap.size w w7) := ((C6.out.alloc C6.out.size _).alloc (by have := C6.out.size; simp; omega) _).trans (B7.mono (by have := C6.out.size; simp; omega))
  clear B7 C6
  go_wp2_with fail
  refine (HQ.out _).mono ?_
  rintro e w8 ⟨rfl, B8⟩
  have C8 : Hid (Below w.heap.size w w8) := (C7.out.alloc C7.out.size _).trans (B8.mono (by have := C7.out.size; simp; omega))
  clear B8 C7
  go_wp2
  go_returns
  exact ⟨rfl, C8.out⟩
end Go.Proofs.Ytjgeopdcniameaa
