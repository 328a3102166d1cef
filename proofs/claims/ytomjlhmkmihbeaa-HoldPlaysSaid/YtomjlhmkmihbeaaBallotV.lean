/-
  BALLOTS AS PLAIN DATA: which may be, their order, the next one of a node; and the mathematics of it. No condition.
-/
import Derived.Test.YtomjlhmkmihbeaaPackQ
import Derived.Test.YtomjlhmkmihbeaaPackBase
namespace Go.Proofs.Ytomjlhmkmihbeaa
open Go.RowKit


/-- May a ballot of this round and node be? -/
def mayV (r n : Int) : Bool := decide (0 ≤ r ∧ r ≤ 1099511627776 ∧ 0 ≤ n ∧ n < 5)
/-- -1, 0, 1: by round, then by node. -/
def cmpV (r n r' n' : Int) : Int := if r = r' ∧ n = n' then 0 else if r < r' ∨ r = r' ∧ n < n' then -1 else 1
/-- The round in which node k comes behind (r, n). -/
def upV (r n k : Int) : Int := if n < k then r else r + 1
/-- The next ballot of node k behind (r, n), and whether there is one. -/
def nextV (r n k : Int) : Int × Int × Bool := if mayV r n = true ∧ 0 ≤ k ∧ k < 5 ∧ upV r n k ≤ 1099511627776 then (upV r n k, k, true) else (0, 0, false)

theorem mayV_yes {r n : Int} : mayV r n = true ↔ 0 ≤ r ∧ r ≤ 1099511627776 ∧ 0 ≤ n ∧ n < 5 := by simp [mayV]
theorem mayV_no {r n : Int} : mayV r n = false ↔ ¬ (0 ≤ r ∧ r ≤ 1099511627776 ∧ 0 ≤ n ∧ n < 5) := by simp only [mayV, decide_eq_false_iff_not]
theorem cmpV_same (r n : Int) : cmpV r n r n = 0 := by simp [cmpV]
theorem cmpV_eq {r n r' n' : Int} (h : r = r' ∧ n = n') : cmpV r n r' n' = 0 := by rw [cmpV, if_pos h]
theorem cmpV_lt {r n r' n' : Int} (h : r < r' ∨ r = r' ∧ n < n') : cmpV r n r' n' = -1 := by rw [cmpV, if_neg (by omega), if_pos h]
theorem cmpV_gt {r n r' n' : Int} (h : r' < r ∨ r = r' ∧ n' < n) : cmpV r n r' n' = 1 := by rw [cmpV, if_neg (by omega), if_neg (by omega)]

theorem nextV_yes {r n k : Int} (h : mayV r n = true) (h0 : 0 ≤ k) (h1 : k < 5) (hu : upV r n k ≤ 1099511627776) : nextV r n k = (upV r n k, k, true) := by rw [nextV, if_pos ⟨h, h0, h1, hu⟩]
theorem nextV_may {r n k : Int} (h : mayV r n = false) : nextV r n k = (0, 0, false) := by rw [nextV, if_neg (by rw [h]; simp)]
theorem nextV_out {r n k : Int} (h : k < 0 ∨ 5 ≤ k) : nextV r n k = (0, 0, false) := by rw [nextV, if_neg (by omega)]
theorem nextV_full {r n k : Int} (h : 1099511627776 < upV r n k) : nextV r n k = (0, 0, false) := by rw [nextV, if_neg (by omega)]

end Go.Proofs.Ytomjlhmkmihbeaa
