/-
  BALLOTS AS PLAIN DATA: which may be, their order, the next one of a node; and the mathematics of it. No condition.
-/
import Derived.Test.YtiidmiioegdfaaaPackQ
import Derived.Test.YtiidmiioegdfaaaPackBase
namespace Go.Proofs.Ytiidmiioegdfaaa
open Go.RowKit


/-- May a ballot of this round and node be? -/
def mayV (r n : Int) : Bool := decide (0 ≤ r ∧ r ≤ 1099511627776 ∧ 0 ≤ n ∧ n < 5)
/-- -1, 0, 1: by round, then by node. -/
def cmpV (r n r' n' : Int) : Int := if r = r' ∧ n = n' then 0 else if r < r' ∨ r = r' ∧ n < n' then -1 else 1
/-- The round in which node k comes behind (r, n). -/
def upV (r n k : Int) : Int := if n < k then r else r + 1
/-- The next ballot of node k behind (r, n), and whether there is one. -/
def nextV (r n k : Int) : Int × Int × Bool := if mayV r n = true ∧ 0 ≤ k ∧ k < 5 ∧ upV r n k ≤ 1099511627776 then (upV r n k, k, true) else (0, 0, false)

theorem mayV_yes {r n : Int} : mayV r n = true ↔ 0 ≤ r ∧ r ≤ 1099511627776 ∧ 0 ≤ n ∧ n < 5 := by simp [mayV]
theorem mayV_no {r n : Int} : mayV r n = false ↔ ¬ (0 ≤ r ∧ r ≤ 1099511627776 ∧ 0 ≤ n ∧ n < 5) := by simp only [mayV, decide_eq_false_iff_not]
theorem cmpV_same (r n : Int) : cmpV r n r n = 0 := by simp [cmpV]
theorem cmpV_eq {r n r' n' : Int} (h : r = r' ∧ n = n') : cmpV r n r' n' = 0 := by rw [cmpV, if_pos h]
theorem cmpV_lt {r n r' n' : Int} (h : r < r' ∨ r = r' ∧ n < n') : cmpV r n r' n' = -1 := by rw [cmpV, if_neg (by omega), if_pos h]
theorem cmpV_gt {r n r' n' : Int} (h : r' < r ∨ r = r' ∧ n' < n) : cmpV r n r' n' = 1 := by rw [cmpV, if_neg (by omega), if_neg (by omega)]

theorem nextV_yes {r n k : Int} (h : mayV r n = true) (h0 : 0 ≤ k) (h1 : k < 5) (hu : upV r n k ≤ 1099511627776) : nextV r n k = (upV r n k, k, true) := by rw [nextV, if_pos ⟨h, h0, h1, hu⟩]
theorem nextV_may {r n k : Int} (h : mayV r n = false) : nextV r n k = (0, 0, false) := by rw [nextV, if_neg (by rw [h]; simp)]
theorem nextV_out {r n k : Int} (h : k < 0 ∨ 5 ≤ k) : nextV r n k = (0, 0, false) := by rw [nextV, if_neg (by omega)]
theorem nextV_full {r n k : Int} (h : 1099511627776 < upV r n k) : nextV r n k = (0, 0, false) := by rw [nextV, if_neg (by omega)]

/-- Block b holds a ballot. -/
def BalB (w : World) (b : Nat) (r n : Int) : Prop := w.heap[b]? = some (.cells #[.int .i64 r, .int .i64 n] 23 (0, 0))
theorem BalB.lt {w : World} {b : Nat} {r n : Int} (h : BalB w b r n) : b < w.heap.size := lt_of_block h
theorem BalB.cells {w : World} {b : Nat} {r n : Int} (h : BalB w b r n) : w.cell? ⟨b, 0, none⟩ = some (.int .i64 r) ∧ w.cell? ⟨b, 1, none⟩ = some (.int .i64 n) ∧ w.frozen? ⟨b, 0, none⟩ = false ∧ w.frozen? ⟨b, 1, none⟩ = false := by
  have h' : w.heap[b]? = some (.cells #[.int .i64 r, .int .i64 n] 23 (0, 0)) := h
  refine ⟨?_, ?_, ?_, ?_⟩ <;> simp [World.cell?, World.frozen?, h']
theorem BalB.keep {w w' : World} {b B : Nat} {r n : Int} (h : BalB w b r n) (hb : Below B w w') (hB : b < B) : BalB w' b r n := (hb.block b hB).trans h
theorem BalB.kept {w w' : World} {row : Option Nat} {b : Nat} {r n : Int} (h : BalB w b r n) (hg : w.grownBy w' row) (hne : some b ≠ row) : BalB w' b r n := (hg.block b h.lt hne).trans h
theorem BalB.fresh (w : World) (r n : Int) : BalB (w.alloc (.cells #[.int .i64 r, .int .i64 n] 23)) w.heap.size r n := heap_alloc_new w _
theorem BalB.drew {w : World} {b : Nat} {r n : Int} (h : BalB w b r n) : BalB w.drew b r n := h
theorem BalB.alloc {w : World} {b : Nat} {r n : Int} (h : BalB w b r n) (o : Obj) : BalB (w.alloc o) b r n := h.keep ((Below.refl _ _).alloc (Nat.le_refl _) _) h.lt
theorem BalB.set0 {w : World} {b : Nat} {r n : Int} (h : BalB w b r n) (x : Int) : BalB (w.setCell ⟨b, 0, none⟩ (.int .i64 x)) b x n := two_setCell0 h
theorem BalB.set1 {w : World} {b : Nat} {r n : Int} (h : BalB w b r n) (x : Int) : BalB (w.setCell ⟨b, 1, none⟩ (.int .i64 x)) b r x := two_setCell1 h

theorem size_Ballot : (Try.prog.info? 23).map (·.size) = some 2 := by kernel_rfl

/-- A ballot stored whole into a block that holds one. -/
theorem store_bal {ops : Array Oper} {rest : List Oper} {o : Oper} {a : Act} {w : World} {Q : Exit → Act → World → Prop} (hgd : o.guard = none) (x y : Operand) (ho : o.op = .store 23 x y)
    (g : Nat) (hx : a.eval x = .pointer (some ⟨g, 0, none⟩)) (r n : Int) (hy : a.eval y = .agg #[.int .i64 r, .int .i64 n]) {r0 n0 : Int} (hg : BalB w g r0 n0)
    (h : ∀ w', BalB w' g r n → w.grownBy w' (some g) → wpList Try.prog ops Q rest (a.put o.dst undef) w') : wpList Try.prog ops Q (o :: rest) a w := by
  refine wpList_store_row hgd 23 x y ho g #[.int .i64 r, .int .i64 n] hx hy 23 _ hg size_Ballot rfl (by simp [Value.oneCell']) (h _ ?_ ?_)
  · exact setRow_heap w g _ _ 23 _ hg
  · exact ⟨rfl, rfl, rfl, by simp, fun k _ hk => setRow_other w g k _ (fun e => hk (by rw [e]))⟩
end Go.Proofs.Ytiidmiioegdfaaa
