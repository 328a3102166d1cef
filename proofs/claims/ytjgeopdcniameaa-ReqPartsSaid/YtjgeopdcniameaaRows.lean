/-
  No cell of these rows narrows 'for every input' (looked for: loops, veiled, ifaces, maps, wideKeys, modest, calm, conditions, laid).
  DERIVED. THE GIVEN ROWS OF THIS SEAT. 3 by the template 'for every input the law returns true; each argument reads behind the call as it read before'; 0 by the template 'total and deterministic' (their statements: YtjgeopdcniameaaTotals.lean).
  GIVEN WITH THE SEED: the statements are not yours to turn. If you find one false, say at which input.
  Laid BY PROGRAM, IN A SANDBOX (cutbox-rows.mjs): the forced cells as the released guide's own fill.sh prints them over the translation 516e3ad18ed15250… (all of the seat's roots in one cut). By AI agents, Wed Nov 11 2026. No macro, syntax, notation, axiom, sorry.
-/
import Derived.Test.YtjgeopdcniameaaChecked
import GoSem.Claim
import GoSem.ClaimJoined
import GoSem.ClaimMapViews
import Derived.JoinedTies
import Derived.KernelRfl
namespace Go.Proofs.Ytjgeopdcniameaa
/- THE CELL 'sum', in the pinned program and in every row, IS THE sha256 OF THE DUMP (.gsa) THAT YtjgeopdcniameaaProg.lean LOADS. Nothing in Lean hashes anything: it is a label: what it is worth is what the hold of that sum in a sandbox is worth. -/
noncomputable def Try.pinned : Pinned := { name := "ytjgeopdcniameaa", sum := "516e3ad18ed15250650385d95aac80a060719412f396472a913c540851470c54", checked := Try.checked }
namespace Rows
def none {H : Type} : Left H := { results := [], args := [] }

/-- 'casebooklaw3.ReqSame': WHATEVER THE INPUT: true; the input reads as it did. -/
def reqSameSpec : ChangeSpec := { name := "reqSame", fn := fun _ => fun
  | [d1, d2, d3, d4, d5] => { results := [.lit (.bool true)], args := [d1, d2, d3, d4, d5] }
  | _ => none }
def reqSameRow : OpenClaim := { program := "ytjgeopdcniameaa", sum := "516e3ad18ed15250650385d95aac80a060719412f396472a913c540851470c54", func := "casebook/casebooklaw3.ReqSame", spec := "reqSame", apart := false }
def ReqSameSaid : Prop := reqSameRow.holds Try.pinned (OpenSpec.ofChange reqSameSpec)

/-- ITS FALSE NEIGHBOUR: 'it returns false'. Refute it at one input. -/
def reqSameWrong : ChangeSpec := { name := "reqSame", fn := fun _ => fun
  | [d1, d2, d3, d4, d5] => { results := [.lit (.bool false)], args := [d1, d2, d3, d4, d5] }
  | _ => none }
def ReqSameWrongFalsely : Prop := reqSameRow.holds Try.pinned (OpenSpec.ofChange reqSameWrong)

/-- 'casebooklaw3.ReqParts': WHATEVER THE INPUT: true; the input reads as it did. -/
def reqPartsSpec : ChangeSpec := { name := "reqParts", fn := fun _ => fun
  | [d1, d2, d3] => { results := [.lit (.bool true)], args := [d1, d2, d3] }
  | _ => none }
def reqPartsRow : OpenClaim := { program := "ytjgeopdcniameaa", sum := "516e3ad18ed15250650385d95aac80a060719412f396472a913c540851470c54", func := "casebook/casebooklaw3.ReqParts", spec := "reqParts", apart := false }
def ReqPartsSaid : Prop := reqPartsRow.holds Try.pinned (OpenSpec.ofChange reqPartsSpec)

/-- ITS FALSE NEIGHBOUR: 'it returns false'. Refute it at one input. -/
def reqPartsWrong : ChangeSpec := { name := "reqParts", fn := fun _ => fun
  | [d1, d2, d3] => { results := [.lit (.bool false)], args := [d1, d2, d3] }
  | _ => none }
def ReqPartsWrongFalsely : Prop := reqPartsRow.holds Try.pinned (OpenSpec.ofChange reqPartsWrong)

/-- 'casebooklaw3.ReqNewer': WHATEVER THE INPUT: true; the input reads as it did. -/
def reqNewerSpec : ChangeSpec := { name := "reqNewer", fn := fun _ => fun
  | [d1, d2, d3] => { results := [.lit (.bool true)], args := [d1, d2, d3] }
  | _ => none }
def reqNewerRow : OpenClaim := { program := "ytjgeopdcniameaa", sum := "516e3ad18ed15250650385d95aac80a060719412f396472a913c540851470c54", func := "casebook/casebooklaw3.ReqNewer", spec := "reqNewer", apart := false }
def ReqNewerSaid : Prop := reqNewerRow.holds Try.pinned (OpenSpec.ofChange reqNewerSpec)

/-- ITS FALSE NEIGHBOUR: 'it returns false'. Refute it at one input. -/
def reqNewerWrong : ChangeSpec := { name := "reqNewer", fn := fun _ => fun
  | [d1, d2, d3] => { results := [.lit (.bool false)], args := [d1, d2, d3] }
  | _ => none }
def ReqNewerWrongFalsely : Prop := reqNewerRow.holds Try.pinned (OpenSpec.ofChange reqNewerWrong)

/- THE SECOND FORM. 'bulk': how many values and letters a reading holds, each counted each time it is reached (what is shared counts as often as it is met; a slice's spare places count too). A statement '..UptoSaid' is the law's where the arguments, and the package variables that the reading takes, are together of bulk at most 1048576: NARROWER than '..Said'. Prove '..Said' where nothing that the law and all that it calls make is longer than what came in: it says more and counts as full. Else prove '..UptoSaid'. A law counts once. -/
mutual
def uptoBulk {H : Type} : DataW H → Nat
  | .lit (.string bytes) => bytes.length + 1
  | .lit _ => 1
  | .nil => 1
  | .ptr d => uptoBulk d + 1
  | .slice elems spare => uptoBulkAll elems + uptoBulkAll spare + 1
  | .agg parts => uptoBulkAll parts + 1
  | .iface _ d => uptoBulk d + 1
  | .map entries => uptoBulkEntries entries + 1
  | .held _ => 1
def uptoBulkAll {H : Type} : List (DataW H) → Nat
  | [] => 0
  | d :: r => uptoBulk d + uptoBulkAll r
def uptoBulkEntries {H : Type} : List (Lit × DataW H) → Nat
  | [] => 0
  | x :: r => uptoBulkEntry x + uptoBulkEntries r
def uptoBulkEntry {H : Type} : Lit × DataW H → Nat
  | (.string bytes, d) => bytes.length + uptoBulk d + 1
  | (_, d) => uptoBulk d + 1
 end
def uptoSmall : (H : Type) → List (DataW H) → Bool := fun _ ds => decide (uptoBulkAll ds ≤ 1048576)
def OpenSpec.upto (s : _root_.Go.ChangeSpec) : _root_.Go.OpenSpec := { _root_.Go.OpenSpec.ofChange s with cond := some uptoSmall }

/-- 'casebooklaw3.ReqSame', WHERE WHAT IT READS IS OF BULK AT MOST 1048576: true; the input reads as it did. -/
def reqSameUptoRow : OpenClaim := { program := "ytjgeopdcniameaa", sum := "516e3ad18ed15250650385d95aac80a060719412f396472a913c540851470c54", func := "casebook/casebooklaw3.ReqSame", spec := "reqSame", apart := false, narrowed := true }
def ReqSameUptoSaid : Prop := reqSameUptoRow.holds Try.pinned (OpenSpec.upto reqSameSpec)

/-- 'casebooklaw3.ReqParts', WHERE WHAT IT READS IS OF BULK AT MOST 1048576: true; the input reads as it did. -/
def reqPartsUptoRow : OpenClaim := { program := "ytjgeopdcniameaa", sum := "516e3ad18ed15250650385d95aac80a060719412f396472a913c540851470c54", func := "casebook/casebooklaw3.ReqParts", spec := "reqParts", apart := false, narrowed := true }
def ReqPartsUptoSaid : Prop := reqPartsUptoRow.holds Try.pinned (OpenSpec.upto reqPartsSpec)

/-- 'casebooklaw3.ReqNewer', WHERE WHAT IT READS IS OF BULK AT MOST 1048576: true; the input reads as it did. -/
def reqNewerUptoRow : OpenClaim := { program := "ytjgeopdcniameaa", sum := "516e3ad18ed15250650385d95aac80a060719412f396472a913c540851470c54", func := "casebook/casebooklaw3.ReqNewer", spec := "reqNewer", apart := false, narrowed := true }
def ReqNewerUptoSaid : Prop := reqNewerUptoRow.holds Try.pinned (OpenSpec.upto reqNewerSpec)

end Rows
end Go.Proofs.Ytjgeopdcniameaa
