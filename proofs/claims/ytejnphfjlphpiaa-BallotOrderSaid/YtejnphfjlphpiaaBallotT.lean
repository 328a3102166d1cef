/-
  WHAT THE PROGRAM TELLS OF A FEW BALLOTS. No condition.
-/
import Derived.Test.YtejnphfjlphpiaaBallotA
namespace Go.Proofs.Ytejnphfjlphpiaa
open Go.RowKit

set_option maxRecDepth 100000 in
set_option maxHeartbeats 4000000 in
theorem told11_any (w : World) : Calls Try.prog 9 #[] w fun e w' => e = .returned (.bool true) ∧ Below w.heap.size w w' := by
  have H1 := Lib.hid (fun u => vnext_r 3 1 2 u (r' := 3) (n' := 2) (ok := true) (by decide))
  have H2 := Lib.hid (fun u => vnext_r 3 1 0 u (r' := 4) (n' := 0) (ok := true) (by decide))
  have M1 := Lib.hid (fun u => vmay_r 3 2 u (R := true) (by decide))
  have M2 := Lib.hid (fun u => vmay_r (-1) 0 u (R := false) (by decide))
  have K := Lib.hid (fun u => vcmp_r 3 2 4 0 u (R := -1) (by decide))
  go_enter Try.func9, Try.ntmps9
  go_wp2_with fail
  refine (H1.out _).mono ?_
  rintro e w1 ⟨rfl, B1⟩
  have C1 := Lib.hid B1
  clear B1
  go_wp2_with fail
  refine (H2.out _).mono ?_
  rintro e w2 ⟨rfl, B2⟩
  have D2 : Hid (BalB w2 w1.heap.size 3 2) := (BalB.fresh w1 _ _).keep B2 (by simp)
  have C2 : Hid (Below w.heap.size w w2) := (C1.out.alloc C1.out.size _).trans (B2.mono (by have := C1.out.size; simp; omega))
  have lt2 := D2.out.lt
  clear B2
  have D3 : Hid (∀ o, BalB (w2.alloc o) w1.heap.size 3 2) := fun o => D2.out.alloc o
  obtain ⟨c0, c1, _, _⟩ := D2.out.cells
  have C3 : Hid (∀ o, Below w.heap.size w (w2.alloc o)) := fun o => C2.out.alloc C2.out.size o
  go_wp2_with fail
  refine (M1.out _).mono ?_
  rintro e w3 ⟨rfl, B3⟩
  have D4 : Hid (BalB w3 w1.heap.size 3 2) := (D3.out _).keep B3 (D3.out _).lt
  have E4 : Hid (BalB w3 w2.heap.size 4 0) := (BalB.fresh w2 _ _).keep B3 (by simp)
  have C4 : Hid (Below w.heap.size w w3) := (C3.out _).trans (B3.mono (C3.out _).size)
  clear B3 c0 c1
  go_wp2_with fail
  refine (M2.out _).mono ?_
  rintro e w4 ⟨rfl, B4⟩
  have D5 : Hid (BalB w4 w1.heap.size 3 2) := D4.out.keep B4 D4.out.lt
  have E5 : Hid (BalB w4 w2.heap.size 4 0) := E4.out.keep B4 E4.out.lt
  have C5 : Hid (Below w.heap.size w w4) := C4.out.trans (B4.mono C4.out.size)
  clear B4
  obtain ⟨c0, c1, _, _⟩ := D5.out.cells
  obtain ⟨d0, d1, _, _⟩ := E5.out.cells
  go_wp2_with fail
  refine (K.out _).mono ?_
  rintro e w5 ⟨rfl, B5⟩
  have C6 : Hid (Below w.heap.size w w5) := C5.out.trans (B5.mono C5.out.size)
  clear B5
  go_wp2
  go_returns
  exact ⟨rfl, C6.out⟩
end Go.Proofs.Ytejnphfjlphpiaa
