/-
  A BALLOT THAT CAME IN, as plain data. No condition.
-/
import Derived.Test.YtiidmiioegdfaaaPackT
import Derived.Test.YtiidmiioegdfaaaBallotV
import Derived.Deep.Slices
import Derived.Deep.Fields
namespace Go.Proofs.Ytiidmiioegdfaaa
open Go.ChangeShapes Go.WideShapes Go.ChangeAt Go.RowKit

theorem cells_num : Try.prog.cellsOf 3 = 1 := by kernel_rfl
theorem cells_Ballot : Try.prog.cellsOf 23 = 2 := by kernel_rfl

set_option maxRecDepth 100000 in
theorem ballot_open {H : Type} {enc : TypeId × Value → H} {w : World} {r : Reach} {b0 base : Nat} {spare : Nat → Bool} {held : Bool} {v : Value} {d : DataW H} {p : List MemPlace}
    (hv : Value.okWide Try.prog w r b0 23 v) (h : DataW.Trod enc Try.prog w base spare held 23 v d p) : ∃ x y : Int, v = .agg #[.int .i64 x, .int .i64 y] ∧ (Lit.int .i64 x).wf = true ∧ (Lit.int .i64 y).wf = true := by
  obtain ⟨cs, rfl, hsz⟩ := okWide_struct Try.underlying23 hv
  rw [cells_Ballot] at hsz
  obtain ⟨l⟩ := cs
  match l, hsz with
  | [x0, x1], _ =>
    obtain ⟨fuel, hf⟩ := h
    obtain ⟨xs, m, _, _, _, hxl, hg⟩ := DataW.trod_struct Try.underlying23 hf
    match xs, hxl with
    | [y0, y1], _ =>
      have h0 : DataW.trod enc Try.prog w base spare held m 3 [x0] = some y0 := by simpa [Value.cells, cells_num] using hg 0 _ rfl
      have h1 : DataW.trod enc Try.prog w base spare held m 3 [x1] = some y1 := by simpa [Value.cells, cells_num] using hg 1 _ rfl
      obtain ⟨a0, e0, _, w0⟩ := DataW.trod_int Try.underlying3 h0
      obtain ⟨a1, e1, _, w1⟩ := DataW.trod_int Try.underlying3 h1
      simp only [List.cons.injEq, and_true] at e0 e1
      subst e0 e1
      exact ⟨a0, a1, rfl, w0, w1⟩
end Go.Proofs.Ytiidmiioegdfaaa
