/-
  THE PROGRAM's COUNT, its small calls: Most, the sets, isMajority, hasNode, Ready, Done, copyOf, Chain, mayChain, mayCount; of none. For counts as they may be; chains of at most a million nodes.
-/
import Derived.Test.YtomjlhmkmihbeaaTalV
import Derived.Test.YtomjlhmkmihbeaaAccA
import Derived.Test.YtomjlhmkmihbeaaChainA
namespace Go.Proofs.Ytomjlhmkmihbeaa
open Go.RowKit Go.Maps

/-- How many are a majority, by the program and by the reference. -/
theorem most_in {n : Int} (h1 : 1 ≤ n) (h2 : n ≤ 9223372036854775807) : wrap64 (wrap64 (n.tdiv 2) + 1) = mostV n := by
  have e : n.tdiv 2 = n / 2 := Int.tdiv_eq_ediv_of_nonneg (by omega)
  rw [e, mostV, if_neg (by omega), show wrap64 (n / 2) = n / 2 from IntWalk.wrap64_in _ (by omega)]
  exact IntWalk.wrap64_in _ (by omega)
set_option maxHeartbeats 1000000 in
theorem tymost_r (n : Int) (w : World) (h : n ≤ 9223372036854775807) {R : Int} (hR : mostV n = R) :
    Calls Try.prog 47 #[.int .i64 n] w fun e w' => e = .returned (.int .i64 R) ∧ w = w' := by
  by_cases h1 : n < 1
  · obtain rfl : R = 0 := by rw [← hR, mostV, if_pos h1]
    clear hR h
    go_enter Try.func47, Try.ntmps47
    go_wp2
    go_returns
    exact ⟨rfl, rfl⟩
  · have HR : Hid (wrap64 (wrap64 (n.tdiv 2) + 1) = R) := (most_in (by omega) h).trans hR
    clear hR h
    go_enter Try.func47, Try.ntmps47
    go_wp2
    go_returns
    exact ⟨ret_num HR.out, rfl⟩
set_option maxHeartbeats 1000000 in
theorem rymost_r (n : Int) (w : World) (h : n ≤ 9223372036854775807) {R : Int} (hR : mostV n = R) :
    Calls Try.prog 43 #[.int .i64 n] w fun e w' => e = .returned (.int .i64 R) ∧ w = w' := by
  by_cases h1 : n < 1
  · obtain rfl : R = 0 := by rw [← hR, mostV, if_pos h1]
    clear hR h
    go_enter Try.func43, Try.ntmps43
    go_wp2
    go_returns
    exact ⟨rfl, rfl⟩
  · have HR : Hid (wrap64 (wrap64 (n.tdiv 2) + 1) = R) := (most_in (by omega) h).trans hR
    clear hR h
    go_enter Try.func43, Try.ntmps43
    go_wp2
    go_returns
    exact ⟨ret_num HR.out, rfl⟩
/-- With one more. -/
def addL (P : List Int) (x : Int) : List Int := if x ∈ P then P else P ++ [x]
/-- The block in which a slice's row lies. -/
def blkOf : Value → Option Nat
  | .slice (some a) _ _ => some a.block
  | _ => none
/-- A slice's row lies in no block below n. -/
def Fresh (n : Nat) (v : Value) : Prop := ∀ b, blkOf v = some b → n ≤ b
theorem Fresh.mono {n m : Nat} {v : Value} (h : Fresh m v) (hn : n ≤ m) : Fresh n v := fun b hb => Nat.le_trans hn (h b hb)
theorem Fresh.none (n a b : Nat) : Fresh n (.slice none a b) := fun _ h => by cases h
theorem Fresh.own {w : World} {base : Nat} {T : TypeId} {k n : Nat} {v : Value} {cells : List Value} (h : w.ownsRow base T k v n cells) : Fresh base v := by
  rcases h.2 with ⟨rfl, _⟩ | ⟨g, cap, cur, rfl, hg, _⟩
  · exact .none _ _ _
  · intro b hb
    cases hb
    exact hg
/-- A comparison (!=) of two structs whose run lies as a fact. -/
theorem exec_neq_agg {P : Program} {o : Oper} {a : Act} {t t2 : TypeId} {x y : Operand} {v : Value} {w : World} (cx cy : Array Value) (hg : P.eqGuardType P.depth t = false) (ho : o.op = .binOp .neq t x y t2) (hx : a.eval x = .agg cx) (hy : a.eval y = .agg cy)
    (h : (binOp .neq t (.agg cx) (.agg cy)).run P w = .ok v w) :
    (execOp a.eval o).run P w = .ok (.value v) w := by
  unfold execOp
  rw [ho]
  simp only [hx, hy]
  have hge := run_eqGuard_agg (P := P) (w := w) BinOp.neq t x y cx cy hg
  generalize binOp .neq t (.agg cx) (.agg cy) = B at h ⊢
  generalize eqGuard .neq t x y (.agg cx) (.agg cy) = E at hge ⊢
  simp [go_sem, hge, h]
end Go.Proofs.Ytomjlhmkmihbeaa
