/-
  A CONFIGURATION THAT CAME IN, as plain data. No condition.
-/
import Derived.Test.YtpcbpimlakehcaaPackT
import Derived.Test.YtpcbpimlakehcaaBoR
import Derived.Deep.Slices
import Derived.Deep.Fields
namespace Go.Proofs.Ytpcbpimlakehcaa
open Go.ChangeShapes Go.WideShapes Go.ChangeAt Go.RowKit

theorem cells_cnum : Try.prog.cellsOf 3 = 1 := by kernel_rfl
theorem cells_Conf : Try.prog.cellsOf 81 = 3 := by kernel_rfl

set_option maxRecDepth 100000 in
theorem conf_open {H : Type} {enc : TypeId × Value → H} {w : World} {r : Reach} {b0 base : Nat} {spare : Nat → Bool} {held : Bool} {v : Value} {d : DataW H} {p : List MemPlace}
    (hv : Value.okWide Try.prog w r b0 81 v) (h : DataW.Trod enc Try.prog w base spare held 81 v d p) : ∃ x y z : Int, v = .agg #[.int .i64 x, .int .i64 y, .int .i64 z] ∧ (Lit.int .i64 x).wf = true ∧ (Lit.int .i64 y).wf = true ∧ (Lit.int .i64 z).wf = true := by
  obtain ⟨cs, rfl, hsz⟩ := okWide_struct Try.underlying81 hv
  rw [cells_Conf] at hsz
  obtain ⟨l⟩ := cs
  match l, hsz with
  | [x0, x1, x2], _ =>
    obtain ⟨fuel, hf⟩ := h
    obtain ⟨xs, m, _, _, _, hxl, hg⟩ := DataW.trod_struct Try.underlying81 hf
    match xs, hxl with
    | [y0, y1, y2], _ =>
      have h0 : DataW.trod enc Try.prog w base spare held m 3 [x0] = some y0 := by simpa [Value.cells, cells_cnum] using hg 0 _ rfl
      have h1 : DataW.trod enc Try.prog w base spare held m 3 [x1] = some y1 := by simpa [Value.cells, cells_cnum] using hg 1 _ rfl
      have h2 : DataW.trod enc Try.prog w base spare held m 3 [x2] = some y2 := by simpa [Value.cells, cells_cnum] using hg 2 _ rfl
      obtain ⟨a0, e0, _, w0⟩ := DataW.trod_int Try.underlying3 h0
      obtain ⟨a1, e1, _, w1⟩ := DataW.trod_int Try.underlying3 h1
      obtain ⟨a2, e2, _, w2⟩ := DataW.trod_int Try.underlying3 h2
      simp only [List.cons.injEq, and_true] at e0 e1 e2
      subst e0 e1 e2
      exact ⟨a0, a1, a2, rfl, w0, w1, w2⟩
end Go.Proofs.Ytpcbpimlakehcaa
