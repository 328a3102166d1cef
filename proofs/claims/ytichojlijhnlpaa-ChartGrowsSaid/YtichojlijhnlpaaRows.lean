/-
  No cell of these rows narrows 'for every input' (looked for: loops, veiled, ifaces, maps, wideKeys, modest, calm, conditions, laid).
  DERIVED. THE GIVEN ROWS OF THIS SEAT. 7 by the template 'for every input the law returns true; each argument reads behind the call as it read before'; 0 by the template 'total and deterministic' (their statements: YtichojlijhnlpaaTotals.lean).
  GIVEN WITH THE SEED: the statements are not yours to turn. If you find one false, say at which input.
  Laid BY PROGRAM, IN A SANDBOX (cutbox-rows.mjs): the forced cells as the released guide's own fill.sh prints them over the translation d7010b250550ca28… (all of the seat's roots in one cut). By AI agents, Wed Nov 11 2026. No macro, syntax, notation, axiom, sorry.
-/
import Derived.Test.YtichojlijhnlpaaChecked
import GoSem.Claim
import GoSem.ClaimJoined
import GoSem.ClaimMapViews
import Derived.JoinedTies
import Derived.KernelRfl
namespace Go.Proofs.Ytichojlijhnlpaa
/- THE CELL 'sum', in the pinned program and in every row, IS THE sha256 OF THE DUMP (.gsa) THAT YtichojlijhnlpaaProg.lean LOADS. Nothing in Lean hashes anything: it is a label: what it is worth is what the hold of that sum in a sandbox is worth. -/
noncomputable def Try.pinned : Pinned := { name := "ytichojlijhnlpaa", sum := "d7010b250550ca281d3b3afca73df1ba194e20bf4a24bc979de5296060b6e792", checked := Try.checked }
namespace Rows
def none {H : Type} : Left H := { results := [], args := [] }

/-- 'casebooklaw4.ChartDoes': WHATEVER THE INPUT: true; the input reads as it did. -/
def chartDoesSpec : ChangeSpec := { name := "chartDoes", fn := fun _ => fun
  | [d1, d2, d3] => { results := [.lit (.bool true)], args := [d1, d2, d3] }
  | _ => none }
def chartDoesRow : OpenClaim := { program := "ytichojlijhnlpaa", sum := "d7010b250550ca281d3b3afca73df1ba194e20bf4a24bc979de5296060b6e792", func := "casebook/casebooklaw4.ChartDoes", spec := "chartDoes", unfollowed := true, recurses := true, apart := false }
def ChartDoesSaid : Prop := chartDoesRow.holds Try.pinned (OpenSpec.ofChange chartDoesSpec)

/-- ITS FALSE NEIGHBOUR: 'it returns false'. Refute it at one input. -/
def chartDoesWrong : ChangeSpec := { name := "chartDoes", fn := fun _ => fun
  | [d1, d2, d3] => { results := [.lit (.bool false)], args := [d1, d2, d3] }
  | _ => none }
def ChartDoesWrongFalsely : Prop := chartDoesRow.holds Try.pinned (OpenSpec.ofChange chartDoesWrong)

/-- 'casebooklaw4.ChartGrows': WHATEVER THE INPUT: true; the input reads as it did. -/
def chartGrowsSpec : ChangeSpec := { name := "chartGrows", fn := fun _ => fun
  | [d1, d2, d3] => { results := [.lit (.bool true)], args := [d1, d2, d3] }
  | _ => none }
def chartGrowsRow : OpenClaim := { program := "ytichojlijhnlpaa", sum := "d7010b250550ca281d3b3afca73df1ba194e20bf4a24bc979de5296060b6e792", func := "casebook/casebooklaw4.ChartGrows", spec := "chartGrows", unfollowed := true, recurses := true, apart := false }
def ChartGrowsSaid : Prop := chartGrowsRow.holds Try.pinned (OpenSpec.ofChange chartGrowsSpec)

/-- ITS FALSE NEIGHBOUR: 'it returns false'. Refute it at one input. -/
def chartGrowsWrong : ChangeSpec := { name := "chartGrows", fn := fun _ => fun
  | [d1, d2, d3] => { results := [.lit (.bool false)], args := [d1, d2, d3] }
  | _ => none }
def ChartGrowsWrongFalsely : Prop := chartGrowsRow.holds Try.pinned (OpenSpec.ofChange chartGrowsWrong)

/-- 'casebooklaw4.ChartHistory': WHATEVER THE INPUT: true; the input reads as it did. -/
def chartHistorySpec : ChangeSpec := { name := "chartHistory", fn := fun _ => fun
  | [d] => { results := [.lit (.bool true)], args := [d] }
  | _ => none }
def chartHistoryRow : OpenClaim := { program := "ytichojlijhnlpaa", sum := "d7010b250550ca281d3b3afca73df1ba194e20bf4a24bc979de5296060b6e792", func := "casebook/casebooklaw4.ChartHistory", spec := "chartHistory", unfollowed := true, recurses := true, apart := false }
def ChartHistorySaid : Prop := chartHistoryRow.holds Try.pinned (OpenSpec.ofChange chartHistorySpec)

/-- ITS FALSE NEIGHBOUR: 'it returns false'. Refute it at one input. -/
def chartHistoryWrong : ChangeSpec := { name := "chartHistory", fn := fun _ => fun
  | [d] => { results := [.lit (.bool false)], args := [d] }
  | _ => none }
def ChartHistoryWrongFalsely : Prop := chartHistoryRow.holds Try.pinned (OpenSpec.ofChange chartHistoryWrong)

/-- 'casebooklaw4.ChartMatch': WHATEVER THE INPUT: true; the input reads as it did. -/
def chartMatchSpec : ChangeSpec := { name := "chartMatch", fn := fun _ => fun
  | [d1, d2, d3] => { results := [.lit (.bool true)], args := [d1, d2, d3] }
  | _ => none }
def chartMatchRow : OpenClaim := { program := "ytichojlijhnlpaa", sum := "d7010b250550ca281d3b3afca73df1ba194e20bf4a24bc979de5296060b6e792", func := "casebook/casebooklaw4.ChartMatch", spec := "chartMatch", unfollowed := true, recurses := true, apart := false }
def ChartMatchSaid : Prop := chartMatchRow.holds Try.pinned (OpenSpec.ofChange chartMatchSpec)

/-- ITS FALSE NEIGHBOUR: 'it returns false'. Refute it at one input. -/
def chartMatchWrong : ChangeSpec := { name := "chartMatch", fn := fun _ => fun
  | [d1, d2, d3] => { results := [.lit (.bool false)], args := [d1, d2, d3] }
  | _ => none }
def ChartMatchWrongFalsely : Prop := chartMatchRow.holds Try.pinned (OpenSpec.ofChange chartMatchWrong)

/-- 'casebooklaw4.ChartRuns': WHATEVER THE INPUT: true; the input reads as it did. -/
def chartRunsSpec : ChangeSpec := { name := "chartRuns", fn := fun _ => fun
  | [d1, d2] => { results := [.lit (.bool true)], args := [d1, d2] }
  | _ => none }
def chartRunsRow : OpenClaim := { program := "ytichojlijhnlpaa", sum := "d7010b250550ca281d3b3afca73df1ba194e20bf4a24bc979de5296060b6e792", func := "casebook/casebooklaw4.ChartRuns", spec := "chartRuns", unfollowed := true, recurses := true, apart := false }
def ChartRunsSaid : Prop := chartRunsRow.holds Try.pinned (OpenSpec.ofChange chartRunsSpec)

/-- ITS FALSE NEIGHBOUR: 'it returns false'. Refute it at one input. -/
def chartRunsWrong : ChangeSpec := { name := "chartRuns", fn := fun _ => fun
  | [d1, d2] => { results := [.lit (.bool false)], args := [d1, d2] }
  | _ => none }
def ChartRunsWrongFalsely : Prop := chartRunsRow.holds Try.pinned (OpenSpec.ofChange chartRunsWrong)

/-- 'casebooklaw4.ChartTurns': WHATEVER THE INPUT: true; the input reads as it did. -/
def chartTurnsSpec : ChangeSpec := { name := "chartTurns", fn := fun _ => fun
  | [d] => { results := [.lit (.bool true)], args := [d] }
  | _ => none }
def chartTurnsRow : OpenClaim := { program := "ytichojlijhnlpaa", sum := "d7010b250550ca281d3b3afca73df1ba194e20bf4a24bc979de5296060b6e792", func := "casebook/casebooklaw4.ChartTurns", spec := "chartTurns", unfollowed := true, recurses := true, apart := false }
def ChartTurnsSaid : Prop := chartTurnsRow.holds Try.pinned (OpenSpec.ofChange chartTurnsSpec)

/-- ITS FALSE NEIGHBOUR: 'it returns false'. Refute it at one input. -/
def chartTurnsWrong : ChangeSpec := { name := "chartTurns", fn := fun _ => fun
  | [d] => { results := [.lit (.bool false)], args := [d] }
  | _ => none }
def ChartTurnsWrongFalsely : Prop := chartTurnsRow.holds Try.pinned (OpenSpec.ofChange chartTurnsWrong)

/-- 'casebooklaw4.ChartFull': WHATEVER THE INPUT: true; the input reads as it did. -/
def chartFullSpec : ChangeSpec := { name := "chartFull", fn := fun _ => fun
  | [d1, d2] => { results := [.lit (.bool true)], args := [d1, d2] }
  | _ => none }
def chartFullRow : OpenClaim := { program := "ytichojlijhnlpaa", sum := "d7010b250550ca281d3b3afca73df1ba194e20bf4a24bc979de5296060b6e792", func := "casebook/casebooklaw4.ChartFull", spec := "chartFull", unfollowed := true, recurses := true, apart := false }
def ChartFullSaid : Prop := chartFullRow.holds Try.pinned (OpenSpec.ofChange chartFullSpec)

/-- ITS FALSE NEIGHBOUR: 'it returns false'. Refute it at one input. -/
def chartFullWrong : ChangeSpec := { name := "chartFull", fn := fun _ => fun
  | [d1, d2] => { results := [.lit (.bool false)], args := [d1, d2] }
  | _ => none }
def ChartFullWrongFalsely : Prop := chartFullRow.holds Try.pinned (OpenSpec.ofChange chartFullWrong)

/- THE SECOND FORM. 'bulk': how many values and letters a reading holds, each counted each time it is reached (what is shared counts as often as it is met; a slice's spare places count too). A statement '..UptoSaid' is the law's where the arguments, and the package variables that the reading takes, are together of bulk at most 1048576: NARROWER than '..Said'. Prove '..Said' where nothing that the law and all that it calls make is longer than what came in: it says more and counts as full. Else prove '..UptoSaid'. A law counts once. -/
mutual
def uptoBulk {H : Type} : DataW H → Nat
  | .lit (.string bytes) => bytes.length + 1
  | .lit _ => 1
  | .nil => 1
  | .ptr d => uptoBulk d + 1
  | .slice elems spare => uptoBulkAll elems + uptoBulkAll spare + 1
  | .agg parts => uptoBulkAll parts + 1
  | .iface _ d => uptoBulk d + 1
  | .map entries => uptoBulkEntries entries + 1
  | .held _ => 1
def uptoBulkAll {H : Type} : List (DataW H) → Nat
  | [] => 0
  | d :: r => uptoBulk d + uptoBulkAll r
def uptoBulkEntries {H : Type} : List (Lit × DataW H) → Nat
  | [] => 0
  | x :: r => uptoBulkEntry x + uptoBulkEntries r
def uptoBulkEntry {H : Type} : Lit × DataW H → Nat
  | (.string bytes, d) => bytes.length + uptoBulk d + 1
  | (_, d) => uptoBulk d + 1
 end
def uptoSmall : (H : Type) → List (DataW H) → Bool := fun _ ds => decide (uptoBulkAll ds ≤ 1048576)
def OpenSpec.upto (s : _root_.Go.ChangeSpec) : _root_.Go.OpenSpec := { _root_.Go.OpenSpec.ofChange s with cond := some uptoSmall }

/-- 'casebooklaw4.ChartDoes', WHERE WHAT IT READS IS OF BULK AT MOST 1048576: true; the input reads as it did. -/
def chartDoesUptoRow : OpenClaim := { program := "ytichojlijhnlpaa", sum := "d7010b250550ca281d3b3afca73df1ba194e20bf4a24bc979de5296060b6e792", func := "casebook/casebooklaw4.ChartDoes", spec := "chartDoes", unfollowed := true, recurses := true, apart := false, narrowed := true }
def ChartDoesUptoSaid : Prop := chartDoesUptoRow.holds Try.pinned (OpenSpec.upto chartDoesSpec)

/-- 'casebooklaw4.ChartGrows', WHERE WHAT IT READS IS OF BULK AT MOST 1048576: true; the input reads as it did. -/
def chartGrowsUptoRow : OpenClaim := { program := "ytichojlijhnlpaa", sum := "d7010b250550ca281d3b3afca73df1ba194e20bf4a24bc979de5296060b6e792", func := "casebook/casebooklaw4.ChartGrows", spec := "chartGrows", unfollowed := true, recurses := true, apart := false, narrowed := true }
def ChartGrowsUptoSaid : Prop := chartGrowsUptoRow.holds Try.pinned (OpenSpec.upto chartGrowsSpec)

/-- 'casebooklaw4.ChartHistory', WHERE WHAT IT READS IS OF BULK AT MOST 1048576: true; the input reads as it did. -/
def chartHistoryUptoRow : OpenClaim := { program := "ytichojlijhnlpaa", sum := "d7010b250550ca281d3b3afca73df1ba194e20bf4a24bc979de5296060b6e792", func := "casebook/casebooklaw4.ChartHistory", spec := "chartHistory", unfollowed := true, recurses := true, apart := false, narrowed := true }
def ChartHistoryUptoSaid : Prop := chartHistoryUptoRow.holds Try.pinned (OpenSpec.upto chartHistorySpec)

/-- 'casebooklaw4.ChartMatch', WHERE WHAT IT READS IS OF BULK AT MOST 1048576: true; the input reads as it did. -/
def chartMatchUptoRow : OpenClaim := { program := "ytichojlijhnlpaa", sum := "d7010b250550ca281d3b3afca73df1ba194e20bf4a24bc979de5296060b6e792", func := "casebook/casebooklaw4.ChartMatch", spec := "chartMatch", unfollowed := true, recurses := true, apart := false, narrowed := true }
def ChartMatchUptoSaid : Prop := chartMatchUptoRow.holds Try.pinned (OpenSpec.upto chartMatchSpec)

/-- 'casebooklaw4.ChartRuns', WHERE WHAT IT READS IS OF BULK AT MOST 1048576: true; the input reads as it did. -/
def chartRunsUptoRow : OpenClaim := { program := "ytichojlijhnlpaa", sum := "d7010b250550ca281d3b3afca73df1ba194e20bf4a24bc979de5296060b6e792", func := "casebook/casebooklaw4.ChartRuns", spec := "chartRuns", unfollowed := true, recurses := true, apart := false, narrowed := true }
def ChartRunsUptoSaid : Prop := chartRunsUptoRow.holds Try.pinned (OpenSpec.upto chartRunsSpec)

/-- 'casebooklaw4.ChartTurns', WHERE WHAT IT READS IS OF BULK AT MOST 1048576: true; the input reads as it did. -/
def chartTurnsUptoRow : OpenClaim := { program := "ytichojlijhnlpaa", sum := "d7010b250550ca281d3b3afca73df1ba194e20bf4a24bc979de5296060b6e792", func := "casebook/casebooklaw4.ChartTurns", spec := "chartTurns", unfollowed := true, recurses := true, apart := false, narrowed := true }
def ChartTurnsUptoSaid : Prop := chartTurnsUptoRow.holds Try.pinned (OpenSpec.upto chartTurnsSpec)

/-- 'casebooklaw4.ChartFull', WHERE WHAT IT READS IS OF BULK AT MOST 1048576: true; the input reads as it did. -/
def chartFullUptoRow : OpenClaim := { program := "ytichojlijhnlpaa", sum := "d7010b250550ca281d3b3afca73df1ba194e20bf4a24bc979de5296060b6e792", func := "casebook/casebooklaw4.ChartFull", spec := "chartFull", unfollowed := true, recurses := true, apart := false, narrowed := true }
def ChartFullUptoSaid : Prop := chartFullUptoRow.holds Try.pinned (OpenSpec.upto chartFullSpec)

end Rows
end Go.Proofs.Ytichojlijhnlpaa
