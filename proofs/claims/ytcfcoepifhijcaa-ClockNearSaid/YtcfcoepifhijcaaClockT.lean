/-
  WHAT THE PROGRAM TELLS OF A FEW CLOCKS. No condition.
-/
import Derived.Test.YtcfcoepifhijcaaClockF
namespace Go.Proofs.Ytcfcoepifhijcaa
open Go.RowKit

theorem ints_lit (u : World) (L : List Int) (h : L.length ≤ maxLen) : Ints (u.alloc (.cells (intCells L).toArray 3)) (u.heap.size + 1) (.slice (some ⟨u.heap.size, 0, none⟩) L.length L.length) L := by
  refine ⟨_, _, rfl, Nat.le_refl _, h, fun e => (by cases e), fun _ => ⟨_, _, rfl, by omega, fun j hj => ?_⟩⟩
  have hb := heap_alloc_new u (.cells (intCells L).toArray 3)
  rw [cell_of_row _ _ _ _ _ _ hb]
  simp [intCells, hj]

def t1 : CkS := tickS 2 .zero 0
def t2 : CkS := tickS 2 t1 0
def t3 : CkS := tickS 2 t2 1
def t4 : CkS := roundS 2 t3
theorem t2_stay : tickS 2 t2 0 = t2 := rfl
theorem t2_round : roundS 2 t2 = t2 := rfl
theorem t1_le : t1.upto 1 := upto_zero.tick 0
theorem t2_le : t2.upto 2 := t1_le.tick 0
theorem t4_at : t4.f 0 = 2 ∧ t4.f 1 = 1 := ⟨rfl, rfl⟩

set_option maxRecDepth 100000 in
set_option maxHeartbeats 4000000 in
theorem told10_any (w : World) : Calls Try.prog 12 #[] w fun e w' => e = .returned (.bool true) ∧ Below w.heap.size w w' := by
  have HN := Lib.hid (cknew_yes 2 w (by decide) (by decide))
  have HN2 := Lib.hid (fun u => cknew_no 10 u (by decide))
  have HF1 : Hid (∀ u : World, Calls Try.prog 16 #[.slice (some ⟨u.heap.size, 0, none⟩) 4 4, .int .i64 2] (u.alloc (.cells #[.int .i64 0, .int .i64 0, .int .i64 1, .int .i64 0] 3)) fun e w' => e = .returned (.bool true) ∧ Below u.heap.size u w') := fun u =>
    (ckfair (w := u.alloc (.cells #[.int .i64 0, .int .i64 0, .int .i64 1, .int .i64 0] 3)) (ints_lit u [0, 0, 1, 0] (by decide)) (by simp) 2 (r := true) (by decide)).mono fun e w' ⟨he, hw⟩ => ⟨he, ((Below.refl _ u).alloc (Nat.le_refl _) _).trans (hw.mono (by simp))⟩
  have HF2 : Hid (∀ u : World, Calls Try.prog 16 #[.slice (some ⟨u.heap.size, 0, none⟩) 3 3, .int .i64 2] (u.alloc (.cells #[.int .i64 0, .int .i64 0, .int .i64 0] 3)) fun e w' => e = .returned (.bool false) ∧ Below u.heap.size u w') := fun u =>
    (ckfair (w := u.alloc (.cells #[.int .i64 0, .int .i64 0, .int .i64 0] 3)) (ints_lit u [0, 0, 0] (by decide)) (by simp) 2 (r := false) (by decide)).mono fun e w' ⟨he, hw⟩ => ⟨he, ((Below.refl _ u).alloc (Nat.le_refl _) _).trans (hw.mono (by simp))⟩
  obtain ⟨b, hb⟩ : ∃ b, b = w.heap.size := ⟨_, rfl⟩
  rw [← hb] at HN ⊢
  have HB := Lib.hid hb
  clear hb
  go_enter Try.func12, Try.ntmps12
  go_wp2_with fail
  refine HN.out.mono ?_
  rintro e w1 ⟨rfl, C1, B1⟩
  have HC1 : Hid (CkA w1 b 2 .zero) := C1
  have HB1 := Lib.hid B1
  clear C1 B1 HN
  go_wp2_with fail
  refine (HN2.out _).mono ?_
  rintro e w2 ⟨rfl, rfl⟩
  go_wp2_with fail
  refine (cktick HC1.out 0 upto_zero (by decide) (r := true) (by decide)).mono ?_
  rintro e w2 ⟨rfl, C2, O2⟩
  have HC2 : Hid (CkA w2 b 2 t1) := C2
  have HB2 := Lib.hid (O2.below HB1.out (fun x hx => hx ▸ Nat.le_refl _) (Nat.le_of_lt HC1.out.lt))
  clear C2 O2 HC1 HB1
  go_wp2_with fail
  refine (cktick HC2.out 0 t1_le (by decide) (r := true) (by decide)).mono ?_
  rintro e w3 ⟨rfl, C3, O3⟩
  have HC3 : Hid (CkA w3 b 2 t2) := C3
  have HB3 := Lib.hid (O3.below HB2.out (fun x hx => hx ▸ Nat.le_refl _) (Nat.le_of_lt HC2.out.lt))
  clear C3 O3 HC2 HB2
  go_wp2_with fail
  refine (cktick HC3.out 0 t2_le (by decide) (r := false) (by decide)).mono ?_
  rintro e w4 ⟨rfl, C4, O4⟩
  have HC4 : Hid (CkA w4 b 2 t2) := C4
  have HB4 := Lib.hid (O4.below HB3.out (fun x hx => hx ▸ Nat.le_refl _) (Nat.le_of_lt HC3.out.lt))
  clear C4 O4 HC3 HB3
  go_wp2_with fail
  refine (ckround HC4.out (r := false) (by decide)).mono ?_
  rintro e w5 ⟨rfl, C5, O5⟩
  have HC5 : Hid (CkA w5 b 2 t2) := C5
  have HB5 := Lib.hid (O5.below HB4.out (fun x hx => hx ▸ Nat.le_refl _) (Nat.le_of_lt HC4.out.lt))
  clear C5 O5 HC4 HB4
  go_wp2_with fail
  refine (cktick HC5.out 1 t2_le (by decide) (r := true) (by decide)).mono ?_
  rintro e w6 ⟨rfl, C6, O6⟩
  have HC6 : Hid (CkA w6 b 2 t3) := C6
  have HB6 := Lib.hid (O6.below HB5.out (fun x hx => hx ▸ Nat.le_refl _) (Nat.le_of_lt HC5.out.lt))
  clear C6 O6 HC5 HB5
  go_wp2_with fail
  refine (ckround HC6.out (r := true) (by decide)).mono ?_
  rintro e w7 ⟨rfl, C7, O7⟩
  have HC7 : Hid (CkA w7 b 2 t4) := C7
  have HB7 := Lib.hid (O7.below HB6.out (fun x hx => hx ▸ Nat.le_refl _) (Nat.le_of_lt HC6.out.lt))
  have HA : Hid (Calls Try.prog 10 #[.pointer (some ⟨b, 0, none⟩), .int .i64 0] w7 fun e w' => e = .returned (.int .i64 2) ∧ w7 = w') := ckat_yes C7 0 (by decide)
  have HA2 : Hid (Calls Try.prog 10 #[.pointer (some ⟨b, 0, none⟩), .int .i64 1] w7 fun e w' => e = .returned (.int .i64 1) ∧ w7 = w') := ckat_yes C7 1 (by decide)
  clear C7 O7 HC6 HB6
  go_wp2_with fail
  refine HA.out.mono ?_
  rintro e w8 ⟨rfl, rfl⟩
  go_wp2_with fail
  refine HA2.out.mono ?_
  rintro e w8 ⟨rfl, rfl⟩
  go_wp2_with fail
  refine (HF1.out _).mono ?_
  rintro e w9 ⟨rfl, B9⟩
  have HB9 := Lib.hid (HB7.out.trans (B9.mono (by have := HB7.out.size; have := HB.out; omega)))
  clear B9
  go_wp2_with fail
  refine (HF2.out _).mono ?_
  rintro e w10 ⟨rfl, B10⟩
  have HB10 := Lib.hid (HB9.out.trans (B10.mono (by have := HB9.out.size; have := HB.out; omega)))
  clear B10
  go_wp2
  go_returns
  exact ⟨rfl, HB10.out⟩
end Go.Proofs.Ytcfcoepifhijcaa
