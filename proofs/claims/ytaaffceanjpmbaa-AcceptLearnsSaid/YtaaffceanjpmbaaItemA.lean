/-
  THE PROGRAM's SMALL TESTS: isWithin, mayData, mayMatch, Writes, and the law's few. No condition but that the request can be read.
-/
import Derived.Test.YtaaffceanjpmbaaItemV
namespace Go.Proofs.Ytaaffceanjpmbaa
open Go.RowKit

set_option maxHeartbeats 400000 in
theorem within_yes (n l m : Int) (w : World) (h1 : l ≤ n) (h2 : n ≤ m) :
    Calls Try.prog 57 #[.int .i64 n, .int .i64 l, .int .i64 m] w fun e w' => e = .returned (.bool true) ∧ w = w' := by
  go_enter Try.func57, Try.ntmps57
  go_wp2
  go_returns
  exact ⟨by first | exact ret_bool (decide_eq_true h2) | rfl, rfl⟩

set_option maxHeartbeats 400000 in
theorem within_no (n l m : Int) (w : World) (h : n < l ∨ m < n) :
    Calls Try.prog 57 #[.int .i64 n, .int .i64 l, .int .i64 m] w fun e w' => e = .returned (.bool false) ∧ w = w' := by
  by_cases h1 : n < l
  · clear h
    go_enter Try.func57, Try.ntmps57
    go_wp2
    go_returns
    exact ⟨rfl, rfl⟩
  · have h2 : m < n := by omega
    have h3 : l ≤ n := by omega
    have h4 : ¬ n ≤ m := by omega
    have H4 := Lib.hid h4
    clear h h1 h4
    go_enter Try.func57, Try.ntmps57
    go_wp2
    go_returns
    exact ⟨ret_bool (decide_eq_false (by have := H4.out; omega)), rfl⟩

theorem within_any (n l m : Int) (w : World) :
    Calls Try.prog 57 #[.int .i64 n, .int .i64 l, .int .i64 m] w fun e w' => e = .returned (.bool (decide (l ≤ n ∧ n ≤ m))) ∧ w = w' := by
  by_cases h : l ≤ n ∧ n ≤ m
  · rw [decide_eq_true h]
    exact within_yes n l m w h.1 h.2
  · rw [decide_eq_false h]
    exact within_no n l m w (by omega)

end Go.Proofs.Ytaaffceanjpmbaa
