/-
  WHICH BALLOTS MAY BE, THEIR ORDER, THE NEXT ONES: the program's and the reference's answers, for any numbers. No condition.
-/
import Derived.Test.YtiidmiioegdfaaaBallotV
namespace Go.Proofs.Ytiidmiioegdfaaa
open Go.RowKit

set_option maxHeartbeats 1000000 in
theorem run_eq_ballot (r n r' n' : Int) (w : World) :
    (binOp .eql 23 (.agg #[.int .i64 r, .int .i64 n]) (.agg #[.int .i64 r', .int .i64 n'])).run Try.prog w = .ok (.bool (r == r' && n == n')) w := by
  rw [run_eql_struct, run_equalIn_agg _ _ _ _ _ (by kernel_rfl) (by kernel_rfl)]
  simp [Program.fieldsOf, Try.underlying23, Op.eqFields, go_sem]
  repeat' split
  all_goals simp_all

set_option maxHeartbeats 1000000 in
theorem vmay_r (r n : Int) (w : World) {R : Bool} (hR : mayV r n = R) :
    Calls Try.prog 27 #[.agg #[.int .i64 r, .int .i64 n]] w fun e w' => e = .returned (.bool R) ∧ Below w.heap.size w w' := by
  have HR : Hid (R = mayV r n) := hR.symm
  clear hR
  go_enter Try.func27, Try.ntmps27
  go_wp2
  all_goals
    go_returns
    exact ⟨ret_bool (by rw [HR.out, Bool.eq_iff_iff]; simp [mayV]; try omega), by go_grown⟩

set_option maxHeartbeats 1000000 in
theorem rvmay_r (r n : Int) (w : World) {R : Bool} (hR : mayV r n = R) :
    Calls Try.prog 10 #[.agg #[.int .i64 r, .int .i64 n]] w fun e w' => e = .returned (.bool R) ∧ Below w.heap.size w w' := by
  have HR : Hid (R = mayV r n) := hR.symm
  clear hR
  go_enter Try.func10, Try.ntmps10
  go_wp2
  all_goals
    go_returns
    exact ⟨ret_bool (by rw [HR.out, Bool.eq_iff_iff]; simp [mayV]; try omega), by go_grown⟩

set_option maxHeartbeats 2000000 in
theorem vcmp_r (r n r' n' : Int) (w : World) {R : Int} (hR : cmpV r n r' n' = R) :
    Calls Try.prog 33 #[.agg #[.int .i64 r, .int .i64 n], .agg #[.int .i64 r', .int .i64 n']] w fun e w' => e = .returned (.int .i64 R) ∧ Below w.heap.size w w' := by
  have HR := Lib.hid hR
  clear hR
  by_cases hr : r = r'
  · subst hr
    by_cases hn : n = n'
    · subst hn
      have HF : Hid (R = 0) := by show _ = _; rw [← HR.out]; exact cmpV_same r n
      clear HR
      go_enter Try.func33, Try.ntmps33
      go_wp2
      go_returns
      exact ⟨ret_num HF.out.symm, by go_grown⟩
    · have hb : (n == n') = false := beq_eq_false_iff_ne.2 hn
      have h0 : ¬ r < r := by omega
      by_cases hl : n < n'
      · have HF : Hid (R = -1) := by show _ = _; rw [← HR.out]; exact cmpV_lt (by omega)
        clear HR hn
        go_enter Try.func33, Try.ntmps33
        go_wp2
        go_returns
        exact ⟨ret_num HF.out.symm, by go_grown⟩
      · have HF : Hid (R = 1) := by show _ = _; rw [← HR.out]; exact cmpV_gt (by omega)
        clear HR hn
        go_enter Try.func33, Try.ntmps33
        go_wp2
        go_returns
        exact ⟨ret_num HF.out.symm, by go_grown⟩
  · have hb : (r == r') = false := beq_eq_false_iff_ne.2 hr
    by_cases hl : r < r'
    · have HF : Hid (R = -1) := by show _ = _; rw [← HR.out]; exact cmpV_lt (by omega)
      clear HR hr
      go_enter Try.func33, Try.ntmps33
      go_wp2
      go_returns
      exact ⟨ret_num HF.out.symm, by go_grown⟩
    · have HF : Hid (R = 1) := by show _ = _; rw [← HR.out]; exact cmpV_gt (by omega)
      clear HR hr
      go_enter Try.func33, Try.ntmps33
      go_wp2
      go_returns
      exact ⟨ret_num HF.out.symm, by go_grown⟩

set_option maxHeartbeats 2000000 in
theorem rvcmp_r (r n r' n' : Int) (w : World) {R : Int} (hR : cmpV r n r' n' = R) :
    Calls Try.prog 37 #[.agg #[.int .i64 r, .int .i64 n], .agg #[.int .i64 r', .int .i64 n']] w fun e w' => e = .returned (.int .i64 R) ∧ Below w.heap.size w w' := by
  have HR := Lib.hid hR
  clear hR
  by_cases hr : r = r'
  · subst hr
    by_cases hn : n = n'
    · subst hn
      have HF : Hid (R = 0) := by show _ = _; rw [← HR.out]; exact cmpV_same r n
      clear HR
      go_enter Try.func37, Try.ntmps37
      go_wp2
      go_returns
      exact ⟨ret_num HF.out.symm, by go_grown⟩
    · have hb : (n == n') = false := beq_eq_false_iff_ne.2 hn
      have h0 : ¬ r < r := by omega
      by_cases hl : n < n'
      · have HF : Hid (R = -1) := by show _ = _; rw [← HR.out]; exact cmpV_lt (by omega)
        clear HR hn
        go_enter Try.func37, Try.ntmps37
        go_wp2
        go_returns
        exact ⟨ret_num HF.out.symm, by go_grown⟩
      · have HF : Hid (R = 1) := by show _ = _; rw [← HR.out]; exact cmpV_gt (by omega)
        clear HR hn
        go_enter Try.func37, Try.ntmps37
        go_wp2
        go_returns
        exact ⟨ret_num HF.out.symm, by go_grown⟩
  · have hb : (r == r') = false := beq_eq_false_iff_ne.2 hr
    by_cases hl : r < r'
    · have HF : Hid (R = -1) := by show _ = _; rw [← HR.out]; exact cmpV_lt (by omega)
      clear HR hr
      go_enter Try.func37, Try.ntmps37
      go_wp2
      go_returns
      exact ⟨ret_num HF.out.symm, by go_grown⟩
    · have HF : Hid (R = 1) := by show _ = _; rw [← HR.out]; exact cmpV_gt (by omega)
      clear HR hr
      go_enter Try.func37, Try.ntmps37
      go_wp2
      go_returns
      exact ⟨ret_num HF.out.symm, by go_grown⟩

set_option maxHeartbeats 4000000 in
set_option maxRecDepth 100000 in
theorem rvnext_may (r n k : Int) (w : World) (hm : mayV r n = false) :
    Calls Try.prog 24 #[.agg #[.int .i64 r, .int .i64 n], .int .i64 k] w fun e w' => e = .returned (.tuple #[.agg #[.int .i64 0, .int .i64 0], .bool false]) ∧ Below w.heap.size w w' := by
  have HM := Lib.hid (fun u => rvmay_r r n u hm)
  clear hm
  go_enter Try.func24, Try.ntmps24
  go_wp2_with fail
  refine (HM.out _).mono ?_
  rintro e w1 ⟨rfl, B1⟩
  have D1 : Hid (BalB w1 w.heap.size r n) := ((BalB.fresh w _ _).alloc _).keep B1 (by simp; omega)
  have R1 : Hid (BalB w1 (w.heap.size + 1) 0 0) := (show BalB _ (w.heap.size + 1) 0 0 by have := BalB.fresh (w.alloc (.cells #[.int .i64 r, .int .i64 n] 23)) 0 0; simpa using this).keep B1 (by simp)
  have C1 : Hid (Below w.heap.size w w1) := (((Below.refl _ w).alloc (Nat.le_refl _) _).alloc (by simp) _).trans (B1.mono (by simp; omega))
  clear B1
  go_wp2_with (refine store_bal rfl (.tmp 4) (.tmp 18) rfl (w.heap.size + 1) rfl 0 0 rfl R1.out ?_)
  intro w8 H8 G8
  obtain ⟨e0, e1, _, _⟩ := H8.cells
  have BF : Hid (Below w.heap.size w w8) := C1.out.grown G8 (Nat.le_of_lt D1.out.lt) (fun j hj => by cases hj; omega)
  clear G8
  go_wp2
  refine bodyPost_ret (v := .tuple #[.agg #[.int .i64 0, .int .i64 0], .bool false]) (by simp [results, Try.results24, go_sem, e0, e1]) rfl ⟨rfl, BF.out⟩

set_option maxHeartbeats 4000000 in
set_option maxRecDepth 100000 in
theorem rvnext_neg (r n k : Int) (w : World) (hm : mayV r n = true) (hk : k < 0) :
    Calls Try.prog 24 #[.agg #[.int .i64 r, .int .i64 n], .int .i64 k] w fun e w' => e = .returned (.tuple #[.agg #[.int .i64 0, .int .i64 0], .bool false]) ∧ Below w.heap.size w w' := by
  have HM := Lib.hid (fun u => rvmay_r r n u hm)
  clear hm
  go_enter Try.func24, Try.ntmps24
  go_wp2_with fail
  refine (HM.out _).mono ?_
  rintro e w1 ⟨rfl, B1⟩
  have D1 : Hid (BalB w1 w.heap.size r n) := ((BalB.fresh w _ _).alloc _).keep B1 (by simp; omega)
  have R1 : Hid (BalB w1 (w.heap.size + 1) 0 0) := (show BalB _ (w.heap.size + 1) 0 0 by have := BalB.fresh (w.alloc (.cells #[.int .i64 r, .int .i64 n] 23)) 0 0; simpa using this).keep B1 (by simp)
  have C1 : Hid (Below w.heap.size w w1) := (((Below.refl _ w).alloc (Nat.le_refl _) _).alloc (by simp) _).trans (B1.mono (by simp; omega))
  clear B1
  go_wp2_with (refine store_bal rfl (.tmp 4) (.tmp 18) rfl (w.heap.size + 1) rfl 0 0 rfl R1.out ?_)
  intro w8 H8 G8
  obtain ⟨e0, e1, _, _⟩ := H8.cells
  have BF : Hid (Below w.heap.size w w8) := C1.out.grown G8 (Nat.le_of_lt D1.out.lt) (fun j hj => by cases hj; omega)
  clear G8
  go_wp2
  refine bodyPost_ret (v := .tuple #[.agg #[.int .i64 0, .int .i64 0], .bool false]) (by simp [results, Try.results24, go_sem, e0, e1]) rfl ⟨rfl, BF.out⟩

set_option maxHeartbeats 4000000 in
set_option maxRecDepth 100000 in
theorem rvnext_far (r n k : Int) (w : World) (hm : mayV r n = true) (hk : 5 ≤ k) :
    Calls Try.prog 24 #[.agg #[.int .i64 r, .int .i64 n], .int .i64 k] w fun e w' => e = .returned (.tuple #[.agg #[.int .i64 0, .int .i64 0], .bool false]) ∧ Below w.heap.size w w' := by
  have HM := Lib.hid (fun u => rvmay_r r n u hm)
  clear hm
  have hk0 : 0 ≤ k := by omega
  go_enter Try.func24, Try.ntmps24
  go_wp2_with fail
  refine (HM.out _).mono ?_
  rintro e w1 ⟨rfl, B1⟩
  have D1 : Hid (BalB w1 w.heap.size r n) := ((BalB.fresh w _ _).alloc _).keep B1 (by simp; omega)
  have R1 : Hid (BalB w1 (w.heap.size + 1) 0 0) := (show BalB _ (w.heap.size + 1) 0 0 by have := BalB.fresh (w.alloc (.cells #[.int .i64 r, .int .i64 n] 23)) 0 0; simpa using this).keep B1 (by simp)
  have C1 : Hid (Below w.heap.size w w1) := (((Below.refl _ w).alloc (Nat.le_refl _) _).alloc (by simp) _).trans (B1.mono (by simp; omega))
  clear B1
  go_wp2_with (refine store_bal rfl (.tmp 4) (.tmp 18) rfl (w.heap.size + 1) rfl 0 0 rfl R1.out ?_)
  intro w8 H8 G8
  obtain ⟨e0, e1, _, _⟩ := H8.cells
  have BF : Hid (Below w.heap.size w w8) := C1.out.grown G8 (Nat.le_of_lt D1.out.lt) (fun j hj => by cases hj; omega)
  clear G8
  go_wp2
  refine bodyPost_ret (v := .tuple #[.agg #[.int .i64 0, .int .i64 0], .bool false]) (by simp [results, Try.results24, go_sem, e0, e1]) rfl ⟨rfl, BF.out⟩

set_option maxHeartbeats 4000000 in
set_option maxRecDepth 100000 in
theorem rvnext_stay_yes (r n k : Int) (w : World) (hm : mayV r n = true) (hk0 : 0 ≤ k) (hk1 : k < 5) (hk : n < k) (hM : mayV r k = true) :
    Calls Try.prog 24 #[.agg #[.int .i64 r, .int .i64 n], .int .i64 k] w fun e w' => e = .returned (.tuple #[.agg #[.int .i64 r, .int .i64 k], .bool true]) ∧ Below w.heap.size w w' := by
  have HM := Lib.hid (fun u => rvmay_r r n u hm)
  have hr := mayV_yes.1 hm
  have HM2 := Lib.hid (fun u => rvmay_r r k u hM)
  obtain ⟨C, hC, hC0⟩ : ∃ C, cmpV r k r n = C ∧ 0 < C := ⟨_, cmpV_gt (by omega), by omega⟩
  have HC := Lib.hid (fun u => rvcmp_r r k r n u hC)
  have HKN := Lib.hid hk
  clear hm hM hC hk hr
  go_enter Try.func24, Try.ntmps24
  go_wp2_with fail
  refine (HM.out _).mono ?_
  rintro e w1 ⟨rfl, B1⟩
  have D1 : Hid (BalB w1 w.heap.size r n) := ((BalB.fresh w _ _).alloc _).keep B1 (by simp; omega)
  have R1 : Hid (BalB w1 (w.heap.size + 1) 0 0) := (show BalB _ (w.heap.size + 1) 0 0 by have := BalB.fresh (w.alloc (.cells #[.int .i64 r, .int .i64 n] 23)) 0 0; simpa using this).keep B1 (by simp)
  have C1 : Hid (Below w.heap.size w w1) := (((Below.refl _ w).alloc (Nat.le_refl _) _).alloc (by simp) _).trans (B1.mono (by simp; omega))
  clear B1
  obtain ⟨d0, d1, _, _⟩ := D1.out.cells
  have hdl := D1.out.lt
  have hrl := R1.out.lt
  go_wp2_with fail
  refine (HC.out _).mono ?_
  rintro e w2 ⟨rfl, B2⟩
  have N2 : Hid (BalB w2 w1.heap.size r k) := (BalB.fresh w1 _ _).keep B2 (by simp)
  have R2 : Hid (BalB w2 (w.heap.size + 1) 0 0) := (R1.out.alloc _).keep B2 (by simp; omega)
  have C2 : Hid (Below w.heap.size w w2) := (C1.out.alloc C1.out.size _).trans (B2.mono (by have := C1.out.size; simp; omega))
  have hs2 : w1.heap.size < w2.heap.size := N2.out.lt
  clear B2 d0 d1
  obtain ⟨d0, d1, f0, f1⟩ := N2.out.cells
  go_wp2_with fail
  refine (HM2.out _).mono ?_
  rintro e w4 ⟨rfl, B4⟩
  have N4 : Hid (BalB w4 w1.heap.size r k) := N2.out.keep B4 N2.out.lt
  have R4 : Hid (BalB w4 (w.heap.size + 1) 0 0) := R2.out.keep B4 R2.out.lt
  have C4 : Hid (Below w.heap.size w w4) := C2.out.trans (B4.mono C2.out.size)
  have hl4 : w.heap.size < w4.heap.size := by have := R4.out.lt; omega
  clear B4 d0 d1 f0 f1
  obtain ⟨d0, d1, _, _⟩ := N4.out.cells
  go_wp2_with (refine store_bal rfl (.tmp 4) (.tmp 35) rfl (w.heap.size + 1) rfl r k rfl R4.out ?_)
  intro w8 H8 G8
  obtain ⟨e0, e1, _, _⟩ := H8.cells
  have BF : Hid (Below w.heap.size w w8) := C4.out.grown G8 (Nat.le_of_lt hl4) (fun j hj => by cases hj; omega)
  clear G8
  go_wp2
  refine bodyPost_ret (v := .tuple #[.agg #[.int .i64 r, .int .i64 k], .bool true]) (by simp [results, Try.results24, go_sem, e0, e1]) rfl ⟨rfl, BF.out⟩

set_option maxHeartbeats 4000000 in
set_option maxRecDepth 100000 in
theorem rvnext_stay_no (r n k : Int) (w : World) (hm : mayV r n = true) (hk0 : 0 ≤ k) (hk1 : k < 5) (hk : n < k) (hM : mayV r k = false) :
    Calls Try.prog 24 #[.agg #[.int .i64 r, .int .i64 n], .int .i64 k] w fun e w' => e = .returned (.tuple #[.agg #[.int .i64 0, .int .i64 0], .bool false]) ∧ Below w.heap.size w w' := by
  have HM := Lib.hid (fun u => rvmay_r r n u hm)
  have hr := mayV_yes.1 hm
  have HM2 := Lib.hid (fun u => rvmay_r r k u hM)
  obtain ⟨C, hC, hC0⟩ : ∃ C, cmpV r k r n = C ∧ 0 < C := ⟨_, cmpV_gt (by omega), by omega⟩
  have HC := Lib.hid (fun u => rvcmp_r r k r n u hC)
  have HKN := Lib.hid hk
  clear hm hM hC hk hr
  go_enter Try.func24, Try.ntmps24
  go_wp2_with fail
  refine (HM.out _).mono ?_
  rintro e w1 ⟨rfl, B1⟩
  have D1 : Hid (BalB w1 w.heap.size r n) := ((BalB.fresh w _ _).alloc _).keep B1 (by simp; omega)
  have R1 : Hid (BalB w1 (w.heap.size + 1) 0 0) := (show BalB _ (w.heap.size + 1) 0 0 by have := BalB.fresh (w.alloc (.cells #[.int .i64 r, .int .i64 n] 23)) 0 0; simpa using this).keep B1 (by simp)
  have C1 : Hid (Below w.heap.size w w1) := (((Below.refl _ w).alloc (Nat.le_refl _) _).alloc (by simp) _).trans (B1.mono (by simp; omega))
  clear B1
  obtain ⟨d0, d1, _, _⟩ := D1.out.cells
  have hdl := D1.out.lt
  have hrl := R1.out.lt
  go_wp2_with fail
  refine (HC.out _).mono ?_
  rintro e w2 ⟨rfl, B2⟩
  have N2 : Hid (BalB w2 w1.heap.size r k) := (BalB.fresh w1 _ _).keep B2 (by simp)
  have R2 : Hid (BalB w2 (w.heap.size + 1) 0 0) := (R1.out.alloc _).keep B2 (by simp; omega)
  have C2 : Hid (Below w.heap.size w w2) := (C1.out.alloc C1.out.size _).trans (B2.mono (by have := C1.out.size; simp; omega))
  have hs2 : w1.heap.size < w2.heap.size := N2.out.lt
  clear B2 d0 d1
  obtain ⟨d0, d1, f0, f1⟩ := N2.out.cells
  go_wp2_with fail
  refine (HM2.out _).mono ?_
  rintro e w4 ⟨rfl, B4⟩
  have N4 : Hid (BalB w4 w1.heap.size r k) := N2.out.keep B4 N2.out.lt
  have R4 : Hid (BalB w4 (w.heap.size + 1) 0 0) := R2.out.keep B4 R2.out.lt
  have C4 : Hid (Below w.heap.size w w4) := C2.out.trans (B4.mono C2.out.size)
  have hl4 : w.heap.size < w4.heap.size := by have := R4.out.lt; omega
  clear B4 d0 d1 f0 f1
  obtain ⟨d0, d1, _, _⟩ := N4.out.cells
  go_wp2_with (refine store_bal rfl (.tmp 4) (.tmp 34) rfl (w.heap.size + 1) rfl 0 0 rfl R4.out ?_)
  intro w8 H8 G8
  obtain ⟨e0, e1, _, _⟩ := H8.cells
  have BF : Hid (Below w.heap.size w w8) := C4.out.grown G8 (Nat.le_of_lt hl4) (fun j hj => by cases hj; omega)
  clear G8
  go_wp2
  refine bodyPost_ret (v := .tuple #[.agg #[.int .i64 0, .int .i64 0], .bool false]) (by simp [results, Try.results24, go_sem, e0, e1]) rfl ⟨rfl, BF.out⟩

set_option maxHeartbeats 4000000 in
set_option maxRecDepth 100000 in
theorem rvnext_up_yes (r n k : Int) (w : World) (hm : mayV r n = true) (hk0 : 0 ≤ k) (hk1 : k < 5) (hk : k ≤ n) (hM : mayV (r + 1) k = true) :
    Calls Try.prog 24 #[.agg #[.int .i64 r, .int .i64 n], .int .i64 k] w fun e w' => e = .returned (.tuple #[.agg #[.int .i64 (r + 1), .int .i64 k], .bool true]) ∧ Below w.heap.size w w' := by
  have HM := Lib.hid (fun u => rvmay_r r n u hm)
  have hr := mayV_yes.1 hm
  have HM2 := Lib.hid (fun u => rvmay_r (r + 1) k u hM)
  obtain ⟨C, hC, hC0⟩ : ∃ C, cmpV r k r n = C ∧ C ≤ 0 := by
    by_cases h : k = n
    · exact ⟨_, cmpV_eq (by omega), by omega⟩
    · exact ⟨_, cmpV_lt (by omega), by omega⟩
  have hw : wrap64 (r + 1) = r + 1 := IntWalk.wrap64_in _ (by omega)
  have HC := Lib.hid (fun u => rvcmp_r r k r n u hC)
  have HKN := Lib.hid hk
  clear hm hM hC hk hr
  go_enter Try.func24, Try.ntmps24
  go_wp2_with fail
  refine (HM.out _).mono ?_
  rintro e w1 ⟨rfl, B1⟩
  have D1 : Hid (BalB w1 w.heap.size r n) := ((BalB.fresh w _ _).alloc _).keep B1 (by simp; omega)
  have R1 : Hid (BalB w1 (w.heap.size + 1) 0 0) := (show BalB _ (w.heap.size + 1) 0 0 by have := BalB.fresh (w.alloc (.cells #[.int .i64 r, .int .i64 n] 23)) 0 0; simpa using this).keep B1 (by simp)
  have C1 : Hid (Below w.heap.size w w1) := (((Below.refl _ w).alloc (Nat.le_refl _) _).alloc (by simp) _).trans (B1.mono (by simp; omega))
  clear B1
  obtain ⟨d0, d1, _, _⟩ := D1.out.cells
  have hdl := D1.out.lt
  have hrl := R1.out.lt
  go_wp2_with fail
  refine (HC.out _).mono ?_
  rintro e w2 ⟨rfl, B2⟩
  have N2 : Hid (BalB w2 w1.heap.size r k) := (BalB.fresh w1 _ _).keep B2 (by simp)
  have R2 : Hid (BalB w2 (w.heap.size + 1) 0 0) := (R1.out.alloc _).keep B2 (by simp; omega)
  have C2 : Hid (Below w.heap.size w w2) := (C1.out.alloc C1.out.size _).trans (B2.mono (by have := C1.out.size; simp; omega))
  have hs2 : w1.heap.size < w2.heap.size := N2.out.lt
  clear B2 d0 d1
  obtain ⟨d0, d1, f0, f1⟩ := N2.out.cells
  have N3 : Hid (BalB (w2.setCell ⟨w1.heap.size, 0, none⟩ (.int .i64 (r + 1))) w1.heap.size (r + 1) k) := by
    exact N2.out.set0 _
  have R3 : Hid (BalB (w2.setCell ⟨w1.heap.size, 0, none⟩ (.int .i64 (r + 1))) (w.heap.size + 1) 0 0) := R2.out.kept (grownBy_setCell _ _ _ _) (by simp; omega)
  have C3 : Hid (Below w.heap.size w (w2.setCell ⟨w1.heap.size, 0, none⟩ (.int .i64 (r + 1)))) := C2.out.setCell (p := ⟨w1.heap.size, 0, none⟩) (by show _ ≤ w1.heap.size; exact C1.out.size) _
  have hs3 : (w2.setCell ⟨w1.heap.size, 0, none⟩ (.int .i64 (r + 1))).heap.size = w2.heap.size := by simp [World.setCell]
  go_wp2_with fail
  refine (HM2.out _).mono ?_
  rintro e w4 ⟨rfl, B4⟩
  have N4 : Hid (BalB w4 w1.heap.size (r + 1) k) := N3.out.keep B4 N3.out.lt
  have R4 : Hid (BalB w4 (w.heap.size + 1) 0 0) := R3.out.keep B4 R3.out.lt
  have C4 : Hid (Below w.heap.size w w4) := C3.out.trans (B4.mono C3.out.size)
  have hl4 : w.heap.size < w4.heap.size := by have := R4.out.lt; omega
  clear B4 d0 d1 f0 f1
  obtain ⟨d0, d1, _, _⟩ := N4.out.cells
  go_wp2_with (refine store_bal rfl (.tmp 4) (.tmp 35) rfl (w.heap.size + 1) rfl (r + 1) k rfl R4.out ?_)
  intro w8 H8 G8
  obtain ⟨e0, e1, _, _⟩ := H8.cells
  have BF : Hid (Below w.heap.size w w8) := C4.out.grown G8 (Nat.le_of_lt hl4) (fun j hj => by cases hj; omega)
  clear G8
  go_wp2
  refine bodyPost_ret (v := .tuple #[.agg #[.int .i64 (r + 1), .int .i64 k], .bool true]) (by simp [results, Try.results24, go_sem, e0, e1]) rfl ⟨rfl, BF.out⟩

set_option maxHeartbeats 4000000 in
set_option maxRecDepth 100000 in
theorem rvnext_up_no (r n k : Int) (w : World) (hm : mayV r n = true) (hk0 : 0 ≤ k) (hk1 : k < 5) (hk : k ≤ n) (hM : mayV (r + 1) k = false) :
    Calls Try.prog 24 #[.agg #[.int .i64 r, .int .i64 n], .int .i64 k] w fun e w' => e = .returned (.tuple #[.agg #[.int .i64 0, .int .i64 0], .bool false]) ∧ Below w.heap.size w w' := by
  have HM := Lib.hid (fun u => rvmay_r r n u hm)
  have hr := mayV_yes.1 hm
  have HM2 := Lib.hid (fun u => rvmay_r (r + 1) k u hM)
  obtain ⟨C, hC, hC0⟩ : ∃ C, cmpV r k r n = C ∧ C ≤ 0 := by
    by_cases h : k = n
    · exact ⟨_, cmpV_eq (by omega), by omega⟩
    · exact ⟨_, cmpV_lt (by omega), by omega⟩
  have hw : wrap64 (r + 1) = r + 1 := IntWalk.wrap64_in _ (by omega)
  have HC := Lib.hid (fun u => rvcmp_r r k r n u hC)
  have HKN := Lib.hid hk
  clear hm hM hC hk hr
  go_enter Try.func24, Try.ntmps24
  go_wp2_with fail
  refine (HM.out _).mono ?_
  rintro e w1 ⟨rfl, B1⟩
  have D1 : Hid (BalB w1 w.heap.size r n) := ((BalB.fresh w _ _).alloc _).keep B1 (by simp; omega)
  have R1 : Hid (BalB w1 (w.heap.size + 1) 0 0) := (show BalB _ (w.heap.size + 1) 0 0 by have := BalB.fresh (w.alloc (.cells #[.int .i64 r, .int .i64 n] 23)) 0 0; simpa using this).keep B1 (by simp)
  have C1 : Hid (Below w.heap.size w w1) := (((Below.refl _ w).alloc (Nat.le_refl _) _).alloc (by simp) _).trans (B1.mono (by simp; omega))
  clear B1
  obtain ⟨d0, d1, _, _⟩ := D1.out.cells
  have hdl := D1.out.lt
  have hrl := R1.out.lt
  go_wp2_with fail
  refine (HC.out _).mono ?_
  rintro e w2 ⟨rfl, B2⟩
  have N2 : Hid (BalB w2 w1.heap.size r k) := (BalB.fresh w1 _ _).keep B2 (by simp)
  have R2 : Hid (BalB w2 (w.heap.size + 1) 0 0) := (R1.out.alloc _).keep B2 (by simp; omega)
  have C2 : Hid (Below w.heap.size w w2) := (C1.out.alloc C1.out.size _).trans (B2.mono (by have := C1.out.size; simp; omega))
  have hs2 : w1.heap.size < w2.heap.size := N2.out.lt
  clear B2 d0 d1
  obtain ⟨d0, d1, f0, f1⟩ := N2.out.cells
  have N3 : Hid (BalB (w2.setCell ⟨w1.heap.size, 0, none⟩ (.int .i64 (r + 1))) w1.heap.size (r + 1) k) := by
    exact N2.out.set0 _
  have R3 : Hid (BalB (w2.setCell ⟨w1.heap.size, 0, none⟩ (.int .i64 (r + 1))) (w.heap.size + 1) 0 0) := R2.out.kept (grownBy_setCell _ _ _ _) (by simp; omega)
  have C3 : Hid (Below w.heap.size w (w2.setCell ⟨w1.heap.size, 0, none⟩ (.int .i64 (r + 1)))) := C2.out.setCell (p := ⟨w1.heap.size, 0, none⟩) (by show _ ≤ w1.heap.size; exact C1.out.size) _
  have hs3 : (w2.setCell ⟨w1.heap.size, 0, none⟩ (.int .i64 (r + 1))).heap.size = w2.heap.size := by simp [World.setCell]
  go_wp2_with fail
  refine (HM2.out _).mono ?_
  rintro e w4 ⟨rfl, B4⟩
  have N4 : Hid (BalB w4 w1.heap.size (r + 1) k) := N3.out.keep B4 N3.out.lt
  have R4 : Hid (BalB w4 (w.heap.size + 1) 0 0) := R3.out.keep B4 R3.out.lt
  have C4 : Hid (Below w.heap.size w w4) := C3.out.trans (B4.mono C3.out.size)
  have hl4 : w.heap.size < w4.heap.size := by have := R4.out.lt; omega
  clear B4 d0 d1 f0 f1
  obtain ⟨d0, d1, _, _⟩ := N4.out.cells
  go_wp2_with (refine store_bal rfl (.tmp 4) (.tmp 34) rfl (w.heap.size + 1) rfl 0 0 rfl R4.out ?_)
  intro w8 H8 G8
  obtain ⟨e0, e1, _, _⟩ := H8.cells
  have BF : Hid (Below w.heap.size w w8) := C4.out.grown G8 (Nat.le_of_lt hl4) (fun j hj => by cases hj; omega)
  clear G8
  go_wp2
  refine bodyPost_ret (v := .tuple #[.agg #[.int .i64 0, .int .i64 0], .bool false]) (by simp [results, Try.results24, go_sem, e0, e1]) rfl ⟨rfl, BF.out⟩

theorem rvnext_r (r n k : Int) (w : World) {r' n' : Int} {ok : Bool} (h : nextV r n k = (r', n', ok)) :
    Calls Try.prog 24 #[.agg #[.int .i64 r, .int .i64 n], .int .i64 k] w fun e w' => e = .returned (.tuple #[.agg #[.int .i64 r', .int .i64 n'], .bool ok]) ∧ Below w.heap.size w w' := by
  cases hm : mayV r n with
  | false =>
    rw [nextV_may hm] at h
    obtain ⟨rfl, rfl, rfl⟩ : 0 = r' ∧ 0 = n' ∧ false = ok := by simpa using h
    exact rvnext_may r n k w hm
  | true =>
    have hr := mayV_yes.1 hm
    by_cases hk0 : k < 0
    · rw [nextV_out (.inl hk0)] at h
      obtain ⟨rfl, rfl, rfl⟩ : 0 = r' ∧ 0 = n' ∧ false = ok := by simpa using h
      exact rvnext_neg r n k w hm hk0
    by_cases hk1 : 5 ≤ k
    · rw [nextV_out (.inr hk1)] at h
      obtain ⟨rfl, rfl, rfl⟩ : 0 = r' ∧ 0 = n' ∧ false = ok := by simpa using h
      exact rvnext_far r n k w hm hk1
    by_cases hk : n < k
    · have hu : upV r n k = r := if_pos hk
      cases hM : mayV r k with
      | true =>
        have hq := mayV_yes.1 hM
        rw [nextV_yes hm hq.2.2.1 hq.2.2.2 (by rw [hu]; omega), hu] at h
        obtain ⟨rfl, rfl, rfl⟩ : r = r' ∧ k = n' ∧ true = ok := by simpa using h
        exact rvnext_stay_yes r n k w hm (by omega) (by omega) hk hM
      | false =>
        have hq := mayV_no.1 hM
        rw [nextV_out (by omega)] at h
        obtain ⟨rfl, rfl, rfl⟩ : 0 = r' ∧ 0 = n' ∧ false = ok := by simpa using h
        exact rvnext_stay_no r n k w hm (by omega) (by omega) hk hM
    · have hu : upV r n k = r + 1 := if_neg hk
      cases hM : mayV (r + 1) k with
      | true =>
        have hq := mayV_yes.1 hM
        rw [nextV_yes hm hq.2.2.1 hq.2.2.2 (by rw [hu]; omega), hu] at h
        obtain ⟨rfl, rfl, rfl⟩ : r + 1 = r' ∧ k = n' ∧ true = ok := by simpa using h
        exact rvnext_up_yes r n k w hm (by omega) (by omega) (by omega) hM
      | false =>
        have hq := mayV_no.1 hM
        have h0 : nextV r n k = (0, 0, false) := by
          by_cases hb : 0 ≤ k ∧ k < 5
          · exact nextV_full (by rw [hu]; omega)
          · exact nextV_out (by omega)
        rw [h0] at h
        obtain ⟨rfl, rfl, rfl⟩ : 0 = r' ∧ 0 = n' ∧ false = ok := by simpa using h
        exact rvnext_up_no r n k w hm (by omega) (by omega) (by omega) hM

end Go.Proofs.Ytiidmiioegdfaaa
