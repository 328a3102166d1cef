/-
  WHICH BALLOTS MAY BE, THEIR ORDER, THE NEXT ONES: the program's and the reference's answers, for any numbers. No condition.
-/
import Derived.Test.YtaaffceanjpmbaaBallotV
namespace Go.Proofs.Ytaaffceanjpmbaa
open Go.RowKit

set_option maxHeartbeats 1000000 in
theorem run_eq_ballot (r n r' n' : Int) (w : World) :
    (binOp .eql 30 (.agg #[.int .i64 r, .int .i64 n]) (.agg #[.int .i64 r', .int .i64 n'])).run Try.prog w = .ok (.bool (r == r' && n == n')) w := by
  rw [run_eql_struct, run_equalIn_agg _ _ _ _ _ (by kernel_rfl) (by kernel_rfl)]
  simp [Program.fieldsOf, Try.underlying30, Op.eqFields, go_sem]
  repeat' split
  all_goals simp_all

set_option maxHeartbeats 1000000 in
theorem vmay_r (r n : Int) (w : World) {R : Bool} (hR : mayV r n = R) :
    Calls Try.prog 29 #[.agg #[.int .i64 r, .int .i64 n]] w fun e w' => e = .returned (.bool R) ∧ Below w.heap.size w w' := by
  have HR : Hid (R = mayV r n) := hR.symm
  clear hR
  go_enter Try.func29, Try.ntmps29
  go_wp2
  all_goals
    go_returns
    exact ⟨ret_bool (by rw [HR.out, Bool.eq_iff_iff]; simp [mayV]; try omega), by go_grown⟩

set_option maxHeartbeats 1000000 in
theorem rvmay_r (r n : Int) (w : World) {R : Bool} (hR : mayV r n = R) :
    Calls Try.prog 42 #[.agg #[.int .i64 r, .int .i64 n]] w fun e w' => e = .returned (.bool R) ∧ Below w.heap.size w w' := by
  have HR : Hid (R = mayV r n) := hR.symm
  clear hR
  go_enter Try.func42, Try.ntmps42
  go_wp2
  all_goals
    go_returns
    exact ⟨ret_bool (by rw [HR.out, Bool.eq_iff_iff]; simp [mayV]; try omega), by go_grown⟩

set_option maxHeartbeats 2000000 in
theorem vcmp_r (r n r' n' : Int) (w : World) {R : Int} (hR : cmpV r n r' n' = R) :
    Calls Try.prog 54 #[.agg #[.int .i64 r, .int .i64 n], .agg #[.int .i64 r', .int .i64 n']] w fun e w' => e = .returned (.int .i64 R) ∧ Below w.heap.size w w' := by
  have HR := Lib.hid hR
  clear hR
  by_cases hr : r = r'
  · subst hr
    by_cases hn : n = n'
    · subst hn
      have HF : Hid (R = 0) := by show _ = _; rw [← HR.out]; exact cmpV_same r n
      clear HR
      go_enter Try.func54, Try.ntmps54
      go_wp2
      go_returns
      exact ⟨ret_num HF.out.symm, by go_grown⟩
    · have hb : (n == n') = false := beq_eq_false_iff_ne.2 hn
      have h0 : ¬ r < r := by omega
      by_cases hl : n < n'
      · have HF : Hid (R = -1) := by show _ = _; rw [← HR.out]; exact cmpV_lt (by omega)
        clear HR hn
        go_enter Try.func54, Try.ntmps54
        go_wp2
        go_returns
        exact ⟨ret_num HF.out.symm, by go_grown⟩
      · have HF : Hid (R = 1) := by show _ = _; rw [← HR.out]; exact cmpV_gt (by omega)
        clear HR hn
        go_enter Try.func54, Try.ntmps54
        go_wp2
        go_returns
        exact ⟨ret_num HF.out.symm, by go_grown⟩
  · have hb : (r == r') = false := beq_eq_false_iff_ne.2 hr
    by_cases hl : r < r'
    · have HF : Hid (R = -1) := by show _ = _; rw [← HR.out]; exact cmpV_lt (by omega)
      clear HR hr
      go_enter Try.func54, Try.ntmps54
      go_wp2
      go_returns
      exact ⟨ret_num HF.out.symm, by go_grown⟩
    · have HF : Hid (R = 1) := by show _ = _; rw [← HR.out]; exact cmpV_gt (by omega)
      clear HR hr
      go_enter Try.func54, Try.ntmps54
      go_wp2
      go_returns
      exact ⟨ret_num HF.out.symm, by go_grown⟩

set_option maxHeartbeats 2000000 in
theorem rvcmp_r (r n r' n' : Int) (w : World) {R : Int} (hR : cmpV r n r' n' = R) :
    Calls Try.prog 25 #[.agg #[.int .i64 r, .int .i64 n], .agg #[.int .i64 r', .int .i64 n']] w fun e w' => e = .returned (.int .i64 R) ∧ Below w.heap.size w w' := by
  have HR := Lib.hid hR
  clear hR
  by_cases hr : r = r'
  · subst hr
    by_cases hn : n = n'
    · subst hn
      have HF : Hid (R = 0) := by show _ = _; rw [← HR.out]; exact cmpV_same r n
      clear HR
      go_enter Try.func25, Try.ntmps25
      go_wp2
      go_returns
      exact ⟨ret_num HF.out.symm, by go_grown⟩
    · have hb : (n == n') = false := beq_eq_false_iff_ne.2 hn
      have h0 : ¬ r < r := by omega
      by_cases hl : n < n'
      · have HF : Hid (R = -1) := by show _ = _; rw [← HR.out]; exact cmpV_lt (by omega)
        clear HR hn
        go_enter Try.func25, Try.ntmps25
        go_wp2
        go_returns
        exact ⟨ret_num HF.out.symm, by go_grown⟩
      · have HF : Hid (R = 1) := by show _ = _; rw [← HR.out]; exact cmpV_gt (by omega)
        clear HR hn
        go_enter Try.func25, Try.ntmps25
        go_wp2
        go_returns
        exact ⟨ret_num HF.out.symm, by go_grown⟩
  · have hb : (r == r') = false := beq_eq_false_iff_ne.2 hr
    by_cases hl : r < r'
    · have HF : Hid (R = -1) := by show _ = _; rw [← HR.out]; exact cmpV_lt (by omega)
      clear HR hr
      go_enter Try.func25, Try.ntmps25
      go_wp2
      go_returns
      exact ⟨ret_num HF.out.symm, by go_grown⟩
    · have HF : Hid (R = 1) := by show _ = _; rw [← HR.out]; exact cmpV_gt (by omega)
      clear HR hr
      go_enter Try.func25, Try.ntmps25
      go_wp2
      go_returns
      exact ⟨ret_num HF.out.symm, by go_grown⟩

end Go.Proofs.Ytaaffceanjpmbaa
