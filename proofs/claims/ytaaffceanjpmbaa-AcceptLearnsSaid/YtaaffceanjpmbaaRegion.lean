/-
  A REGION THAT DRAWS ITS ORDER, walked once in the text's order, for any class of worlds that its calls keep. No condition of its own.
-/
import Derived.Test.YtaaffceanjpmbaaPackBase
import Derived.Deep.Quiet
import Derived.BigQuiet
namespace Go.Proofs.Ytaaffceanjpmbaa
open Go.RowKit

theorem region_quiet {P : Program} (C : World → Prop) {id : Nat} {Q : Exit → Act → World → Prop} {a : Act} {w : World} {l : List Oper} (hm : P.follows .mixedOrders = true) (hB : Region.lexB .any l.toArray = true) (hC : C w.drew)
    (h : wpQuiet P l.toArray C (fun a' => ∀ w', C w' → Q .normal a' w') l a) : (Code.region id l.toArray true).wp P Q a w :=
  wp_region_quiet (C := C) hm hB hC (by simpa using h)

theorem quiet_run {P : Program} {C : World → Prop} {o : Oper} {a : Act} {K : Act → Prop} {v : Value} (h : ∀ w, C w → (execOp a.eval o).run P w = .ok (.value v) w) (hk : K (a.put o.dst v)) : o.quiet P a C K :=
  ⟨v, fun w hw => by unfold Oper.quietAt; rw [h w hw]; exact ⟨rfl, rfl⟩, hk⟩

theorem quiet_enter {P : Program} {C : World → Prop} {o : Oper} {a : Act} {K : Act → Prop} {v : Value} (f : FuncId) (args : Array Value) (h : ∀ w, (execOp a.eval o).run P w = .ok (.enter f args) w)
    (hc : ∀ w, C w → Calls P f args w fun e w' => e = .returned v ∧ C w') (hk : K (a.put o.dst v)) : o.quiet P a C K :=
  ⟨v, fun w hw => by unfold Oper.quietAt; rw [h w]; exact ⟨rfl, hc w hw⟩, hk⟩

/-- A comparison of two structs whose run lies as a fact. -/
theorem exec_eq_agg {P : Program} {o : Oper} {a : Act} {t t2 : TypeId} {x y : Operand} {v : Value} {w : World} (cx cy : Array Value) (hg : P.eqGuardType P.depth t = false) (ho : o.op = .binOp .eql t x y t2) (hx : a.eval x = .agg cx) (hy : a.eval y = .agg cy)
    (h : (binOp .eql t (.agg cx) (.agg cy)).run P w = .ok v w) :
    (execOp a.eval o).run P w = .ok (.value v) w := by
  unfold execOp
  rw [ho]
  simp only [hx, hy]
  have hge := run_eqGuard_agg (P := P) (w := w) BinOp.eql t x y cx cy hg
  generalize binOp .eql t (.agg cx) (.agg cy) = B at h ⊢
  generalize eqGuard .eql t x y (.agg cx) (.agg cy) = E at hge ⊢
  simp [go_sem, hge, h]
end Go.Proofs.Ytaaffceanjpmbaa
