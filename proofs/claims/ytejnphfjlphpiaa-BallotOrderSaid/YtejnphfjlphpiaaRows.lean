/-
  No cell of these rows narrows 'for every input' (looked for: loops, veiled, ifaces, maps, wideKeys, modest, calm, conditions, laid).
  DERIVED. THE GIVEN ROWS OF THIS SEAT. 4 by the template 'for every input the law returns true; each argument reads behind the call as it read before'; 0 by the template 'total and deterministic' (their statements: YtejnphfjlphpiaaTotals.lean).
  GIVEN WITH THE SEED: the statements are not yours to turn. If you find one false, say at which input.
  Laid BY PROGRAM, IN A SANDBOX (cutbox-rows.mjs): the forced cells as the released guide's own fill.sh prints them over the translation 51b428c645dc5925… (all of the seat's roots in one cut). By AI agents, Wed Nov 11 2026. No macro, syntax, notation, axiom, sorry.
-/
import Derived.Test.YtejnphfjlphpiaaChecked
import GoSem.Claim
import GoSem.ClaimJoined
import GoSem.ClaimMapViews
import Derived.JoinedTies
import Derived.KernelRfl
namespace Go.Proofs.Ytejnphfjlphpiaa
/- THE CELL 'sum', in the pinned program and in every row, IS THE sha256 OF THE DUMP (.gsa) THAT YtejnphfjlphpiaaProg.lean LOADS. Nothing in Lean hashes anything: it is a label: what it is worth is what the hold of that sum in a sandbox is worth. -/
noncomputable def Try.pinned : Pinned := { name := "ytejnphfjlphpiaa", sum := "51b428c645dc5925cf2a5c9185aee828b69ec495675f134103f1ee9b30e13f00", checked := Try.checked }
namespace Rows
def none {H : Type} : Left H := { results := [], args := [] }

/-- 'casebooklaw11.BallotAsks': WHATEVER THE INPUT: true; the input reads as it did. -/
def ballotAsksSpec : ChangeSpec := { name := "ballotAsks", fn := fun _ => fun
  | [d1, d2, d3] => { results := [.lit (.bool true)], args := [d1, d2, d3] }
  | _ => none }
def ballotAsksRow : OpenClaim := { program := "ytejnphfjlphpiaa", sum := "51b428c645dc5925cf2a5c9185aee828b69ec495675f134103f1ee9b30e13f00", func := "casebook/casebooklaw11.BallotAsks", spec := "ballotAsks", apart := false }
def BallotAsksSaid : Prop := ballotAsksRow.holds Try.pinned (OpenSpec.ofChange ballotAsksSpec)

/-- ITS FALSE NEIGHBOUR: 'it returns false'. Refute it at one input. -/
def ballotAsksWrong : ChangeSpec := { name := "ballotAsks", fn := fun _ => fun
  | [d1, d2, d3] => { results := [.lit (.bool false)], args := [d1, d2, d3] }
  | _ => none }
def BallotAsksWrongFalsely : Prop := ballotAsksRow.holds Try.pinned (OpenSpec.ofChange ballotAsksWrong)

/-- 'casebooklaw11.BallotOrder': WHATEVER THE INPUT: true; the input reads as it did. -/
def ballotOrderSpec : ChangeSpec := { name := "ballotOrder", fn := fun _ => fun
  | [d1, d2, d3] => { results := [.lit (.bool true)], args := [d1, d2, d3] }
  | _ => none }
def ballotOrderRow : OpenClaim := { program := "ytejnphfjlphpiaa", sum := "51b428c645dc5925cf2a5c9185aee828b69ec495675f134103f1ee9b30e13f00", func := "casebook/casebooklaw11.BallotOrder", spec := "ballotOrder", apart := false }
def BallotOrderSaid : Prop := ballotOrderRow.holds Try.pinned (OpenSpec.ofChange ballotOrderSpec)

/-- ITS FALSE NEIGHBOUR: 'it returns false'. Refute it at one input. -/
def ballotOrderWrong : ChangeSpec := { name := "ballotOrder", fn := fun _ => fun
  | [d1, d2, d3] => { results := [.lit (.bool false)], args := [d1, d2, d3] }
  | _ => none }
def BallotOrderWrongFalsely : Prop := ballotOrderRow.holds Try.pinned (OpenSpec.ofChange ballotOrderWrong)

/-- 'casebooklaw11.BallotBytes': WHATEVER THE INPUT: true; the input reads as it did. -/
def ballotBytesSpec : ChangeSpec := { name := "ballotBytes", fn := fun _ => fun
  | [d1, d2] => { results := [.lit (.bool true)], args := [d1, d2] }
  | _ => none }
def ballotBytesRow : OpenClaim := { program := "ytejnphfjlphpiaa", sum := "51b428c645dc5925cf2a5c9185aee828b69ec495675f134103f1ee9b30e13f00", func := "casebook/casebooklaw11.BallotBytes", spec := "ballotBytes", apart := false }
def BallotBytesSaid : Prop := ballotBytesRow.holds Try.pinned (OpenSpec.ofChange ballotBytesSpec)

/-- ITS FALSE NEIGHBOUR: 'it returns false'. Refute it at one input. -/
def ballotBytesWrong : ChangeSpec := { name := "ballotBytes", fn := fun _ => fun
  | [d1, d2] => { results := [.lit (.bool false)], args := [d1, d2] }
  | _ => none }
def BallotBytesWrongFalsely : Prop := ballotBytesRow.holds Try.pinned (OpenSpec.ofChange ballotBytesWrong)

/-- 'casebooklaw11.BallotRise': WHATEVER THE INPUT: true; the input reads as it did. -/
def ballotRiseSpec : ChangeSpec := { name := "ballotRise", fn := fun _ => fun
  | [d] => { results := [.lit (.bool true)], args := [d] }
  | _ => none }
def ballotRiseRow : OpenClaim := { program := "ytejnphfjlphpiaa", sum := "51b428c645dc5925cf2a5c9185aee828b69ec495675f134103f1ee9b30e13f00", func := "casebook/casebooklaw11.BallotRise", spec := "ballotRise", apart := false }
def BallotRiseSaid : Prop := ballotRiseRow.holds Try.pinned (OpenSpec.ofChange ballotRiseSpec)

/-- ITS FALSE NEIGHBOUR: 'it returns false'. Refute it at one input. -/
def ballotRiseWrong : ChangeSpec := { name := "ballotRise", fn := fun _ => fun
  | [d] => { results := [.lit (.bool false)], args := [d] }
  | _ => none }
def BallotRiseWrongFalsely : Prop := ballotRiseRow.holds Try.pinned (OpenSpec.ofChange ballotRiseWrong)

/- THE SECOND FORM. 'bulk': how many values and letters a reading holds, each counted each time it is reached (what is shared counts as often as it is met; a slice's spare places count too). A statement '..UptoSaid' is the law's where the arguments, and the package variables that the reading takes, are together of bulk at most 1048576: NARROWER than '..Said'. Prove '..Said' where nothing that the law and all that it calls make is longer than what came in: it says more and counts as full. Else prove '..UptoSaid'. A law counts once. -/
mutual
def uptoBulk {H : Type} : DataW H → Nat
  | .lit (.string bytes) => bytes.length + 1
  | .lit _ => 1
  | .nil => 1
  | .ptr d => uptoBulk d + 1
  | .slice elems spare => uptoBulkAll elems + uptoBulkAll spare + 1
  | .agg parts => uptoBulkAll parts + 1
  | .iface _ d => uptoBulk d + 1
  | .map entries => uptoBulkEntries entries + 1
  | .held _ => 1
def uptoBulkAll {H : Type} : List (DataW H) → Nat
  | [] => 0
  | d :: r => uptoBulk d + uptoBulkAll r
def uptoBulkEntries {H : Type} : List (Lit × DataW H) → Nat
  | [] => 0
  | x :: r => uptoBulkEntry x + uptoBulkEntries r
def uptoBulkEntry {H : Type} : Lit × DataW H → Nat
  | (.string bytes, d) => bytes.length + uptoBulk d + 1
  | (_, d) => uptoBulk d + 1
 end
def uptoSmall : (H : Type) → List (DataW H) → Bool := fun _ ds => decide (uptoBulkAll ds ≤ 1048576)
def OpenSpec.upto (s : _root_.Go.ChangeSpec) : _root_.Go.OpenSpec := { _root_.Go.OpenSpec.ofChange s with cond := some uptoSmall }

/-- 'casebooklaw11.BallotAsks', WHERE WHAT IT READS IS OF BULK AT MOST 1048576: true; the input reads as it did. -/
def ballotAsksUptoRow : OpenClaim := { program := "ytejnphfjlphpiaa", sum := "51b428c645dc5925cf2a5c9185aee828b69ec495675f134103f1ee9b30e13f00", func := "casebook/casebooklaw11.BallotAsks", spec := "ballotAsks", apart := false, narrowed := true }
def BallotAsksUptoSaid : Prop := ballotAsksUptoRow.holds Try.pinned (OpenSpec.upto ballotAsksSpec)

/-- 'casebooklaw11.BallotOrder', WHERE WHAT IT READS IS OF BULK AT MOST 1048576: true; the input reads as it did. -/
def ballotOrderUptoRow : OpenClaim := { program := "ytejnphfjlphpiaa", sum := "51b428c645dc5925cf2a5c9185aee828b69ec495675f134103f1ee9b30e13f00", func := "casebook/casebooklaw11.BallotOrder", spec := "ballotOrder", apart := false, narrowed := true }
def BallotOrderUptoSaid : Prop := ballotOrderUptoRow.holds Try.pinned (OpenSpec.upto ballotOrderSpec)

/-- 'casebooklaw11.BallotBytes', WHERE WHAT IT READS IS OF BULK AT MOST 1048576: true; the input reads as it did. -/
def ballotBytesUptoRow : OpenClaim := { program := "ytejnphfjlphpiaa", sum := "51b428c645dc5925cf2a5c9185aee828b69ec495675f134103f1ee9b30e13f00", func := "casebook/casebooklaw11.BallotBytes", spec := "ballotBytes", apart := false, narrowed := true }
def BallotBytesUptoSaid : Prop := ballotBytesUptoRow.holds Try.pinned (OpenSpec.upto ballotBytesSpec)

/-- 'casebooklaw11.BallotRise', WHERE WHAT IT READS IS OF BULK AT MOST 1048576: true; the input reads as it did. -/
def ballotRiseUptoRow : OpenClaim := { program := "ytejnphfjlphpiaa", sum := "51b428c645dc5925cf2a5c9185aee828b69ec495675f134103f1ee9b30e13f00", func := "casebook/casebooklaw11.BallotRise", spec := "ballotRise", apart := false, narrowed := true }
def BallotRiseUptoSaid : Prop := ballotRiseUptoRow.holds Try.pinned (OpenSpec.upto ballotRiseSpec)

end Rows
end Go.Proofs.Ytejnphfjlphpiaa
