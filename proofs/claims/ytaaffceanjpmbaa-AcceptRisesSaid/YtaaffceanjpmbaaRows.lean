/-
  No cell of these rows narrows 'for every input' (looked for: loops, veiled, ifaces, maps, wideKeys, modest, calm, conditions, laid).
  DERIVED. THE GIVEN ROWS OF THIS SEAT. 6 by the template 'for every input the law returns true; each argument reads behind the call as it read before'; 0 by the template 'total and deterministic' (their statements: YtaaffceanjpmbaaTotals.lean).
  GIVEN WITH THE SEED: the statements are not yours to turn. If you find one false, say at which input.
  Laid BY PROGRAM, IN A SANDBOX (cutbox-rows.mjs): the forced cells as the released guide's own fill.sh prints them over the translation 1b6fd7e4f5663dc9… (all of the seat's roots in one cut). By AI agents, Wed Nov 11 2026. No macro, syntax, notation, axiom, sorry.
-/
import Derived.Test.YtaaffceanjpmbaaChecked
import GoSem.Claim
import GoSem.ClaimJoined
import GoSem.ClaimMapViews
import Derived.JoinedTies
import Derived.KernelRfl
namespace Go.Proofs.Ytaaffceanjpmbaa
/- THE CELL 'sum', in the pinned program and in every row, IS THE sha256 OF THE DUMP (.gsa) THAT YtaaffceanjpmbaaProg.lean LOADS. Nothing in Lean hashes anything: it is a label: what it is worth is what the hold of that sum in a sandbox is worth. -/
noncomputable def Try.pinned : Pinned := { name := "ytaaffceanjpmbaa", sum := "1b6fd7e4f5663dc99713566c4fbf1bfac37cf1b749df8cbcff50b3c0ad886a38", checked := Try.checked }
namespace Rows
def none {H : Type} : Left H := { results := [], args := [] }

/-- 'casebooklaw13.AcceptLearns': WHATEVER THE INPUT: true; the input reads as it did. -/
def acceptLearnsSpec : ChangeSpec := { name := "acceptLearns", fn := fun _ => fun
  | [d] => { results := [.lit (.bool true)], args := [d] }
  | _ => none }
def acceptLearnsRow : OpenClaim := { program := "ytaaffceanjpmbaa", sum := "1b6fd7e4f5663dc99713566c4fbf1bfac37cf1b749df8cbcff50b3c0ad886a38", func := "casebook/casebooklaw13.AcceptLearns", spec := "acceptLearns", unfollowed := true, recurses := true, apart := false }
def AcceptLearnsSaid : Prop := acceptLearnsRow.holds Try.pinned (OpenSpec.ofChange acceptLearnsSpec)

/-- ITS FALSE NEIGHBOUR: 'it returns false'. Refute it at one input. -/
def acceptLearnsWrong : ChangeSpec := { name := "acceptLearns", fn := fun _ => fun
  | [d] => { results := [.lit (.bool false)], args := [d] }
  | _ => none }
def AcceptLearnsWrongFalsely : Prop := acceptLearnsRow.holds Try.pinned (OpenSpec.ofChange acceptLearnsWrong)

/-- 'casebooklaw13.AcceptNobody': WHATEVER THE INPUT: true; the input reads as it did. -/
def acceptNobodySpec : ChangeSpec := { name := "acceptNobody", fn := fun _ => fun
  | [d1, d2] => { results := [.lit (.bool true)], args := [d1, d2] }
  | _ => none }
def acceptNobodyRow : OpenClaim := { program := "ytaaffceanjpmbaa", sum := "1b6fd7e4f5663dc99713566c4fbf1bfac37cf1b749df8cbcff50b3c0ad886a38", func := "casebook/casebooklaw13.AcceptNobody", spec := "acceptNobody", unfollowed := true, recurses := true, apart := false }
def AcceptNobodySaid : Prop := acceptNobodyRow.holds Try.pinned (OpenSpec.ofChange acceptNobodySpec)

/-- ITS FALSE NEIGHBOUR: 'it returns false'. Refute it at one input. -/
def acceptNobodyWrong : ChangeSpec := { name := "acceptNobody", fn := fun _ => fun
  | [d1, d2] => { results := [.lit (.bool false)], args := [d1, d2] }
  | _ => none }
def AcceptNobodyWrongFalsely : Prop := acceptNobodyRow.holds Try.pinned (OpenSpec.ofChange acceptNobodyWrong)

/-- 'casebooklaw13.AcceptPlays': WHATEVER THE INPUT: true; the input reads as it did. -/
def acceptPlaysSpec : ChangeSpec := { name := "acceptPlays", fn := fun _ => fun
  | [d1, d2] => { results := [.lit (.bool true)], args := [d1, d2] }
  | _ => none }
def acceptPlaysRow : OpenClaim := { program := "ytaaffceanjpmbaa", sum := "1b6fd7e4f5663dc99713566c4fbf1bfac37cf1b749df8cbcff50b3c0ad886a38", func := "casebook/casebooklaw13.AcceptPlays", spec := "acceptPlays", unfollowed := true, recurses := true, apart := false }
def AcceptPlaysSaid : Prop := acceptPlaysRow.holds Try.pinned (OpenSpec.ofChange acceptPlaysSpec)

/-- ITS FALSE NEIGHBOUR: 'it returns false'. Refute it at one input. -/
def acceptPlaysWrong : ChangeSpec := { name := "acceptPlays", fn := fun _ => fun
  | [d1, d2] => { results := [.lit (.bool false)], args := [d1, d2] }
  | _ => none }
def AcceptPlaysWrongFalsely : Prop := acceptPlaysRow.holds Try.pinned (OpenSpec.ofChange acceptPlaysWrong)

/-- 'casebooklaw13.AcceptRises': WHATEVER THE INPUT: true; the input reads as it did. -/
def acceptRisesSpec : ChangeSpec := { name := "acceptRises", fn := fun _ => fun
  | [d] => { results := [.lit (.bool true)], args := [d] }
  | _ => none }
def acceptRisesRow : OpenClaim := { program := "ytaaffceanjpmbaa", sum := "1b6fd7e4f5663dc99713566c4fbf1bfac37cf1b749df8cbcff50b3c0ad886a38", func := "casebook/casebooklaw13.AcceptRises", spec := "acceptRises", unfollowed := true, recurses := true, apart := false }
def AcceptRisesSaid : Prop := acceptRisesRow.holds Try.pinned (OpenSpec.ofChange acceptRisesSpec)

/-- ITS FALSE NEIGHBOUR: 'it returns false'. Refute it at one input. -/
def acceptRisesWrong : ChangeSpec := { name := "acceptRises", fn := fun _ => fun
  | [d] => { results := [.lit (.bool false)], args := [d] }
  | _ => none }
def AcceptRisesWrongFalsely : Prop := acceptRisesRow.holds Try.pinned (OpenSpec.ofChange acceptRisesWrong)

/-- 'casebooklaw13.AcceptBytes': WHATEVER THE INPUT: true; the input reads as it did. -/
def acceptBytesSpec : ChangeSpec := { name := "acceptBytes", fn := fun _ => fun
  | [d1, d2] => { results := [.lit (.bool true)], args := [d1, d2] }
  | _ => none }
def acceptBytesRow : OpenClaim := { program := "ytaaffceanjpmbaa", sum := "1b6fd7e4f5663dc99713566c4fbf1bfac37cf1b749df8cbcff50b3c0ad886a38", func := "casebook/casebooklaw13.AcceptBytes", spec := "acceptBytes", unfollowed := true, recurses := true, apart := false }
def AcceptBytesSaid : Prop := acceptBytesRow.holds Try.pinned (OpenSpec.ofChange acceptBytesSpec)

/-- ITS FALSE NEIGHBOUR: 'it returns false'. Refute it at one input. -/
def acceptBytesWrong : ChangeSpec := { name := "acceptBytes", fn := fun _ => fun
  | [d1, d2] => { results := [.lit (.bool false)], args := [d1, d2] }
  | _ => none }
def AcceptBytesWrongFalsely : Prop := acceptBytesRow.holds Try.pinned (OpenSpec.ofChange acceptBytesWrong)

/-- 'casebooklaw13.AcceptVetoes': WHATEVER THE INPUT: true; the input reads as it did. -/
def acceptVetoesSpec : ChangeSpec := { name := "acceptVetoes", fn := fun _ => fun
  | [d1, d2, d3] => { results := [.lit (.bool true)], args := [d1, d2, d3] }
  | _ => none }
def acceptVetoesRow : OpenClaim := { program := "ytaaffceanjpmbaa", sum := "1b6fd7e4f5663dc99713566c4fbf1bfac37cf1b749df8cbcff50b3c0ad886a38", func := "casebook/casebooklaw13.AcceptVetoes", spec := "acceptVetoes", unfollowed := true, recurses := true, apart := false }
def AcceptVetoesSaid : Prop := acceptVetoesRow.holds Try.pinned (OpenSpec.ofChange acceptVetoesSpec)

/-- ITS FALSE NEIGHBOUR: 'it returns false'. Refute it at one input. -/
def acceptVetoesWrong : ChangeSpec := { name := "acceptVetoes", fn := fun _ => fun
  | [d1, d2, d3] => { results := [.lit (.bool false)], args := [d1, d2, d3] }
  | _ => none }
def AcceptVetoesWrongFalsely : Prop := acceptVetoesRow.holds Try.pinned (OpenSpec.ofChange acceptVetoesWrong)

/- THE SECOND FORM. 'bulk': how many values and letters a reading holds, each counted each time it is reached (what is shared counts as often as it is met; a slice's spare places count too). A statement '..UptoSaid' is the law's where the arguments, and the package variables that the reading takes, are together of bulk at most 1048576: NARROWER than '..Said'. Prove '..Said' where nothing that the law and all that it calls make is longer than what came in: it says more and counts as full. Else prove '..UptoSaid'. A law counts once. -/
mutual
def uptoBulk {H : Type} : DataW H → Nat
  | .lit (.string bytes) => bytes.length + 1
  | .lit _ => 1
  | .nil => 1
  | .ptr d => uptoBulk d + 1
  | .slice elems spare => uptoBulkAll elems + uptoBulkAll spare + 1
  | .agg parts => uptoBulkAll parts + 1
  | .iface _ d => uptoBulk d + 1
  | .map entries => uptoBulkEntries entries + 1
  | .held _ => 1
def uptoBulkAll {H : Type} : List (DataW H) → Nat
  | [] => 0
  | d :: r => uptoBulk d + uptoBulkAll r
def uptoBulkEntries {H : Type} : List (Lit × DataW H) → Nat
  | [] => 0
  | x :: r => uptoBulkEntry x + uptoBulkEntries r
def uptoBulkEntry {H : Type} : Lit × DataW H → Nat
  | (.string bytes, d) => bytes.length + uptoBulk d + 1
  | (_, d) => uptoBulk d + 1
 end
def uptoSmall : (H : Type) → List (DataW H) → Bool := fun _ ds => decide (uptoBulkAll ds ≤ 1048576)
def OpenSpec.upto (s : _root_.Go.ChangeSpec) : _root_.Go.OpenSpec := { _root_.Go.OpenSpec.ofChange s with cond := some uptoSmall }

/-- 'casebooklaw13.AcceptLearns', WHERE WHAT IT READS IS OF BULK AT MOST 1048576: true; the input reads as it did. -/
def acceptLearnsUptoRow : OpenClaim := { program := "ytaaffceanjpmbaa", sum := "1b6fd7e4f5663dc99713566c4fbf1bfac37cf1b749df8cbcff50b3c0ad886a38", func := "casebook/casebooklaw13.AcceptLearns", spec := "acceptLearns", unfollowed := true, recurses := true, apart := false, narrowed := true }
def AcceptLearnsUptoSaid : Prop := acceptLearnsUptoRow.holds Try.pinned (OpenSpec.upto acceptLearnsSpec)

/-- 'casebooklaw13.AcceptNobody', WHERE WHAT IT READS IS OF BULK AT MOST 1048576: true; the input reads as it did. -/
def acceptNobodyUptoRow : OpenClaim := { program := "ytaaffceanjpmbaa", sum := "1b6fd7e4f5663dc99713566c4fbf1bfac37cf1b749df8cbcff50b3c0ad886a38", func := "casebook/casebooklaw13.AcceptNobody", spec := "acceptNobody", unfollowed := true, recurses := true, apart := false, narrowed := true }
def AcceptNobodyUptoSaid : Prop := acceptNobodyUptoRow.holds Try.pinned (OpenSpec.upto acceptNobodySpec)

/-- 'casebooklaw13.AcceptPlays', WHERE WHAT IT READS IS OF BULK AT MOST 1048576: true; the input reads as it did. -/
def acceptPlaysUptoRow : OpenClaim := { program := "ytaaffceanjpmbaa", sum := "1b6fd7e4f5663dc99713566c4fbf1bfac37cf1b749df8cbcff50b3c0ad886a38", func := "casebook/casebooklaw13.AcceptPlays", spec := "acceptPlays", unfollowed := true, recurses := true, apart := false, narrowed := true }
def AcceptPlaysUptoSaid : Prop := acceptPlaysUptoRow.holds Try.pinned (OpenSpec.upto acceptPlaysSpec)

/-- 'casebooklaw13.AcceptRises', WHERE WHAT IT READS IS OF BULK AT MOST 1048576: true; the input reads as it did. -/
def acceptRisesUptoRow : OpenClaim := { program := "ytaaffceanjpmbaa", sum := "1b6fd7e4f5663dc99713566c4fbf1bfac37cf1b749df8cbcff50b3c0ad886a38", func := "casebook/casebooklaw13.AcceptRises", spec := "acceptRises", unfollowed := true, recurses := true, apart := false, narrowed := true }
def AcceptRisesUptoSaid : Prop := acceptRisesUptoRow.holds Try.pinned (OpenSpec.upto acceptRisesSpec)

/-- 'casebooklaw13.AcceptBytes', WHERE WHAT IT READS IS OF BULK AT MOST 1048576: true; the input reads as it did. -/
def acceptBytesUptoRow : OpenClaim := { program := "ytaaffceanjpmbaa", sum := "1b6fd7e4f5663dc99713566c4fbf1bfac37cf1b749df8cbcff50b3c0ad886a38", func := "casebook/casebooklaw13.AcceptBytes", spec := "acceptBytes", unfollowed := true, recurses := true, apart := false, narrowed := true }
def AcceptBytesUptoSaid : Prop := acceptBytesUptoRow.holds Try.pinned (OpenSpec.upto acceptBytesSpec)

/-- 'casebooklaw13.AcceptVetoes', WHERE WHAT IT READS IS OF BULK AT MOST 1048576: true; the input reads as it did. -/
def acceptVetoesUptoRow : OpenClaim := { program := "ytaaffceanjpmbaa", sum := "1b6fd7e4f5663dc99713566c4fbf1bfac37cf1b749df8cbcff50b3c0ad886a38", func := "casebook/casebooklaw13.AcceptVetoes", spec := "acceptVetoes", unfollowed := true, recurses := true, apart := false, narrowed := true }
def AcceptVetoesUptoSaid : Prop := acceptVetoesUptoRow.holds Try.pinned (OpenSpec.upto acceptVetoesSpec)

end Rows
end Go.Proofs.Ytaaffceanjpmbaa
