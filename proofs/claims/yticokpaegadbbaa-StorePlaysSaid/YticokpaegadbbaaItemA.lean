/-
  THE PROGRAM's SMALL TESTS: isWithin, mayData, mayMatch, Writes, and the law's few. No condition but that the request can be read.
-/
import Derived.Test.YticokpaegadbbaaItemV
namespace Go.Proofs.Yticokpaegadbbaa
open Go.RowKit

set_option maxHeartbeats 400000 in
theorem within_yes (n l m : Int) (w : World) (h1 : l ≤ n) (h2 : n ≤ m) :
    Calls Try.prog 49 #[.int .i64 n, .int .i64 l, .int .i64 m] w fun e w' => e = .returned (.bool true) ∧ w = w' := by
  go_enter Try.func49, Try.ntmps49
  go_wp2
  go_returns
  exact ⟨by first | exact ret_bool (decide_eq_true h2) | rfl, rfl⟩

set_option maxHeartbeats 400000 in
theorem within_no (n l m : Int) (w : World) (h : n < l ∨ m < n) :
    Calls Try.prog 49 #[.int .i64 n, .int .i64 l, .int .i64 m] w fun e w' => e = .returned (.bool false) ∧ w = w' := by
  by_cases h1 : n < l
  · clear h
    go_enter Try.func49, Try.ntmps49
    go_wp2
    go_returns
    exact ⟨rfl, rfl⟩
  · have h2 : m < n := by omega
    have h3 : l ≤ n := by omega
    have h4 : ¬ n ≤ m := by omega
    have H4 := Lib.hid h4
    clear h h1 h4
    go_enter Try.func49, Try.ntmps49
    go_wp2
    go_returns
    exact ⟨ret_bool (decide_eq_false (by have := H4.out; omega)), rfl⟩

theorem within_any (n l m : Int) (w : World) :
    Calls Try.prog 49 #[.int .i64 n, .int .i64 l, .int .i64 m] w fun e w' => e = .returned (.bool (decide (l ≤ n ∧ n ≤ m))) ∧ w = w' := by
  by_cases h : l ≤ n ∧ n ≤ m
  · rw [decide_eq_true h]
    exact within_yes n l m w h.1 h.2
  · rw [decide_eq_false h]
    exact within_no n l m w (by omega)

set_option maxHeartbeats 1000000 in
theorem maydata_r (cl sq kd id mt : Int) (dt : ByteArray) (hd : dt.size ≤ 9223372036854775807) (R : Bool) (HR : Hid (R = decide (if kd = 1 ∨ kd = 2 then dt.size ≤ 64 else dt.size = 0))) (w : World) :
    Calls Try.prog 50 #[.agg #[.int .i64 cl, .int .i64 sq, .int .i64 kd, .int .i64 id, .int .i64 mt, .string dt]] w fun e w' => e = .returned (.bool R) ∧ Below w.heap.size w w' := by
  by_cases h1 : kd = 1
  · subst h1
    go_enter Try.func50, Try.ntmps50
    go_wp2
    go_returns
    exact ⟨ret_bool (by rw [HR.out, Bool.eq_iff_iff]; simp; try omega), by first | exact (Below.refl _ _).alloc (Nat.le_refl _) _ | go_grown⟩
  by_cases h2 : kd = 2
  · subst h2
    go_enter Try.func50, Try.ntmps50
    go_wp2
    go_returns
    exact ⟨ret_bool (by rw [HR.out, Bool.eq_iff_iff]; simp; try omega), by first | exact (Below.refl _ _).alloc (Nat.le_refl _) _ | go_grown⟩
  have b1 : (kd == 1) = false := beq_eq_false_iff_ne.2 h1
  have b2 : (kd == 2) = false := beq_eq_false_iff_ne.2 h2
  have hno : ¬ (kd = 1 ∨ kd = 2) := by omega
  have HN := Lib.hid hno
  clear h1 h2 hno
  by_cases h0 : dt.size = 0
  · obtain rfl := empty_eq dt h0
    clear h0
    go_enter Try.func50, Try.ntmps50
    go_wp2
    go_returns
    exact ⟨ret_bool (by rw [HR.out]; exact (decide_eq_true (by rw [if_neg HN.out]; rfl)).symm), by first | exact (Below.refl _ _).alloc (Nat.le_refl _) _ | go_grown⟩
  · have hf := full_test dt h0
    have H0 := Lib.hid h0
    clear h0
    go_enter Try.func50, Try.ntmps50
    go_wp2
    go_returns
    exact ⟨ret_bool (by rw [HR.out]; exact (decide_eq_false (by rw [if_neg HN.out]; exact H0.out)).symm), by first | exact (Below.refl _ _).alloc (Nat.le_refl _) _ | go_grown⟩

set_option maxHeartbeats 1000000 in
theorem maymatch_r (cl sq kd id mt : Int) (dt : ByteArray) (R : Bool) (HR : Hid (R = decide (if kd = 2 ∨ kd = 3 then 0 ≤ mt ∧ mt ≤ 100 else if kd = 5 then 1 ≤ mt ∧ mt ≤ 100 else mt = 0))) (w : World) :
    Calls Try.prog 51 #[.agg #[.int .i64 cl, .int .i64 sq, .int .i64 kd, .int .i64 id, .int .i64 mt, .string dt]] w fun e w' => e = .returned (.bool R) ∧ Below w.heap.size w w' := by
  by_cases h2 : kd = 2
  · subst h2
    have H := Lib.hid (fun w => within_any mt 0 100 w)
    go_enter Try.func51, Try.ntmps51
    go_wp2_with fail
    refine (H.out _).mono ?_
    rintro e w1 ⟨rfl, rfl⟩
    go_wp2
    go_returns
    exact ⟨ret_bool (by rw [HR.out, Bool.eq_iff_iff]; simp; try omega), by first | exact (Below.refl _ _).alloc (Nat.le_refl _) _ | go_grown⟩
  by_cases h3 : kd = 3
  · subst h3
    have H := Lib.hid (fun w => within_any mt 0 100 w)
    go_enter Try.func51, Try.ntmps51
    go_wp2_with fail
    refine (H.out _).mono ?_
    rintro e w1 ⟨rfl, rfl⟩
    go_wp2
    go_returns
    exact ⟨ret_bool (by rw [HR.out, Bool.eq_iff_iff]; simp; try omega), by first | exact (Below.refl _ _).alloc (Nat.le_refl _) _ | go_grown⟩
  by_cases h5 : kd = 5
  · subst h5
    have H := Lib.hid (fun w => within_any mt 1 100 w)
    go_enter Try.func51, Try.ntmps51
    go_wp2_with fail
    refine (H.out _).mono ?_
    rintro e w1 ⟨rfl, rfl⟩
    go_wp2
    go_returns
    exact ⟨ret_bool (by rw [HR.out, Bool.eq_iff_iff]; simp; try omega), by first | exact (Below.refl _ _).alloc (Nat.le_refl _) _ | go_grown⟩
  have b2 : (kd == 2) = false := beq_eq_false_iff_ne.2 h2
  have b3 : (kd == 3) = false := beq_eq_false_iff_ne.2 h3
  have b5 : (kd == 5) = false := beq_eq_false_iff_ne.2 h5
  have hno : ¬ (kd = 2 ∨ kd = 3) := by omega
  have HN := Lib.hid hno
  have H5 := Lib.hid h5
  clear h2 h3 h5 hno
  go_enter Try.func51, Try.ntmps51
  go_wp2
  go_returns
  exact ⟨ret_bool (by rw [HR.out, Bool.eq_iff_iff, decide_eq_true_iff, if_neg HN.out, if_neg H5.out]; simp), by first | exact (Below.refl _ _).alloc (Nat.le_refl _) _ | go_grown⟩

set_option maxHeartbeats 400000 in
theorem writes_any (cl sq kd id mt : Int) (dt : ByteArray) (w : World) :
    Calls Try.prog 30 #[.agg #[.int .i64 cl, .int .i64 sq, .int .i64 kd, .int .i64 id, .int .i64 mt, .string dt]] w fun e w' => e = .returned (.bool (decide (1 ≤ kd ∧ kd ≤ 3))) ∧ Below w.heap.size w w' := by
  have H := Lib.hid (fun w => within_any kd 1 3 w)
  go_enter Try.func30, Try.ntmps30
  go_wp2_with fail
  refine (H.out _).mono ?_
  rintro e w1 ⟨rfl, rfl⟩
  go_wp2
  go_returns
  exact ⟨ret_bool (by rw [Bool.eq_iff_iff]; simp), by first | exact (Below.refl _ _).alloc (Nat.le_refl _) _ | go_grown⟩

end Go.Proofs.Yticokpaegadbbaa
