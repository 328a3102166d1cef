/-
  No cell of these rows narrows 'for every input' (looked for: loops, veiled, ifaces, maps, wideKeys, modest, calm, conditions, laid).
  DERIVED. THE GIVEN ROWS OF THIS SEAT. 8 by the template 'for every input the law returns true; each argument reads behind the call as it read before'; 0 by the template 'total and deterministic' (their statements: YtenjjgghoacboaaTotals.lean).
  GIVEN WITH THE SEED: the statements are not yours to turn. If you find one false, say at which input.
  Laid BY PROGRAM, IN A SANDBOX (cutbox-rows.mjs): the forced cells as the released guide's own fill.sh prints them over the translation 2d3aa40642006a41… (all of the seat's roots in one cut). By AI agents, Wed Nov 11 2026. No macro, syntax, notation, axiom, sorry.
-/
import Derived.Test.YtenjjgghoacboaaChecked
import GoSem.Claim
import GoSem.ClaimJoined
import GoSem.ClaimMapViews
import Derived.JoinedTies
import Derived.KernelRfl
namespace Go.Proofs.Ytenjjgghoacboaa
/- THE CELL 'sum', in the pinned program and in every row, IS THE sha256 OF THE DUMP (.gsa) THAT YtenjjgghoacboaaProg.lean LOADS. Nothing in Lean hashes anything: it is a label: what it is worth is what the hold of that sum in a sandbox is worth. -/
noncomputable def Try.pinned : Pinned := { name := "ytenjjgghoacboaa", sum := "2d3aa40642006a415b22b6d93b15c297ec8771e17e122fff2492ffa7327d6633", checked := Try.checked }
namespace Rows
def none {H : Type} : Left H := { results := [], args := [] }

/-- 'casebooklaw18.LinePlays': WHATEVER THE INPUT: true; the input reads as it did. -/
def linePlaysSpec : ChangeSpec := { name := "linePlays", fn := fun _ => fun
  | [d1, d2] => { results := [.lit (.bool true)], args := [d1, d2] }
  | _ => none }
def linePlaysRow : OpenClaim := { program := "ytenjjgghoacboaa", sum := "2d3aa40642006a415b22b6d93b15c297ec8771e17e122fff2492ffa7327d6633", func := "casebook/casebooklaw18.LinePlays", spec := "linePlays", unfollowed := true, recurses := true, apart := false }
def LinePlaysSaid : Prop := linePlaysRow.holds Try.pinned (OpenSpec.ofChange linePlaysSpec)

/-- ITS FALSE NEIGHBOUR: 'it returns false'. Refute it at one input. -/
def linePlaysWrong : ChangeSpec := { name := "linePlays", fn := fun _ => fun
  | [d1, d2] => { results := [.lit (.bool false)], args := [d1, d2] }
  | _ => none }
def LinePlaysWrongFalsely : Prop := linePlaysRow.holds Try.pinned (OpenSpec.ofChange linePlaysWrong)

/-- 'casebooklaw18.LineFollows': WHATEVER THE INPUT: true; the input reads as it did. -/
def lineFollowsSpec : ChangeSpec := { name := "lineFollows", fn := fun _ => fun
  | [d1, d2] => { results := [.lit (.bool true)], args := [d1, d2] }
  | _ => none }
def lineFollowsRow : OpenClaim := { program := "ytenjjgghoacboaa", sum := "2d3aa40642006a415b22b6d93b15c297ec8771e17e122fff2492ffa7327d6633", func := "casebook/casebooklaw18.LineFollows", spec := "lineFollows", unfollowed := true, recurses := true, apart := false }
def LineFollowsSaid : Prop := lineFollowsRow.holds Try.pinned (OpenSpec.ofChange lineFollowsSpec)

/-- ITS FALSE NEIGHBOUR: 'it returns false'. Refute it at one input. -/
def lineFollowsWrong : ChangeSpec := { name := "lineFollows", fn := fun _ => fun
  | [d1, d2] => { results := [.lit (.bool false)], args := [d1, d2] }
  | _ => none }
def LineFollowsWrongFalsely : Prop := lineFollowsRow.holds Try.pinned (OpenSpec.ofChange lineFollowsWrong)

/-- 'casebooklaw19.DirtyHolds': WHATEVER THE INPUT: true; the input reads as it did. -/
def dirtyHoldsSpec : ChangeSpec := { name := "dirtyHolds", fn := fun _ => fun
  | [d1, d2, d3, d4] => { results := [.lit (.bool true)], args := [d1, d2, d3, d4] }
  | _ => none }
def dirtyHoldsRow : OpenClaim := { program := "ytenjjgghoacboaa", sum := "2d3aa40642006a415b22b6d93b15c297ec8771e17e122fff2492ffa7327d6633", func := "casebook/casebooklaw19.DirtyHolds", spec := "dirtyHolds", unfollowed := true, recurses := true, apart := false }
def DirtyHoldsSaid : Prop := dirtyHoldsRow.holds Try.pinned (OpenSpec.ofChange dirtyHoldsSpec)

/-- ITS FALSE NEIGHBOUR: 'it returns false'. Refute it at one input. -/
def dirtyHoldsWrong : ChangeSpec := { name := "dirtyHolds", fn := fun _ => fun
  | [d1, d2, d3, d4] => { results := [.lit (.bool false)], args := [d1, d2, d3, d4] }
  | _ => none }
def DirtyHoldsWrongFalsely : Prop := dirtyHoldsRow.holds Try.pinned (OpenSpec.ofChange dirtyHoldsWrong)

/-- 'casebooklaw19.DirtyNone': WHATEVER THE INPUT: true; the input reads as it did. -/
def dirtyNoneSpec : ChangeSpec := { name := "dirtyNone", fn := fun _ => fun
  | [d1, d2] => { results := [.lit (.bool true)], args := [d1, d2] }
  | _ => none }
def dirtyNoneRow : OpenClaim := { program := "ytenjjgghoacboaa", sum := "2d3aa40642006a415b22b6d93b15c297ec8771e17e122fff2492ffa7327d6633", func := "casebook/casebooklaw19.DirtyNone", spec := "dirtyNone", unfollowed := true, recurses := true, apart := false }
def DirtyNoneSaid : Prop := dirtyNoneRow.holds Try.pinned (OpenSpec.ofChange dirtyNoneSpec)

/-- ITS FALSE NEIGHBOUR: 'it returns false'. Refute it at one input. -/
def dirtyNoneWrong : ChangeSpec := { name := "dirtyNone", fn := fun _ => fun
  | [d1, d2] => { results := [.lit (.bool false)], args := [d1, d2] }
  | _ => none }
def DirtyNoneWrongFalsely : Prop := dirtyNoneRow.holds Try.pinned (OpenSpec.ofChange dirtyNoneWrong)

/-- 'casebooklaw22.PastPlays': WHATEVER THE INPUT: true; the input reads as it did. -/
def pastPlaysSpec : ChangeSpec := { name := "pastPlays", fn := fun _ => fun
  | [d] => { results := [.lit (.bool true)], args := [d] }
  | _ => none }
def pastPlaysRow : OpenClaim := { program := "ytenjjgghoacboaa", sum := "2d3aa40642006a415b22b6d93b15c297ec8771e17e122fff2492ffa7327d6633", func := "casebook/casebooklaw22.PastPlays", spec := "pastPlays", unfollowed := true, recurses := true, apart := false }
def PastPlaysSaid : Prop := pastPlaysRow.holds Try.pinned (OpenSpec.ofChange pastPlaysSpec)

/-- ITS FALSE NEIGHBOUR: 'it returns false'. Refute it at one input. -/
def pastPlaysWrong : ChangeSpec := { name := "pastPlays", fn := fun _ => fun
  | [d] => { results := [.lit (.bool false)], args := [d] }
  | _ => none }
def PastPlaysWrongFalsely : Prop := pastPlaysRow.holds Try.pinned (OpenSpec.ofChange pastPlaysWrong)

/-- 'casebooklaw22.PastMay': WHATEVER THE INPUT: true; the input reads as it did. -/
def pastMaySpec : ChangeSpec := { name := "pastMay", fn := fun _ => fun
  | [d] => { results := [.lit (.bool true)], args := [d] }
  | _ => none }
def pastMayRow : OpenClaim := { program := "ytenjjgghoacboaa", sum := "2d3aa40642006a415b22b6d93b15c297ec8771e17e122fff2492ffa7327d6633", func := "casebook/casebooklaw22.PastMay", spec := "pastMay", unfollowed := true, recurses := true, apart := false }
def PastMaySaid : Prop := pastMayRow.holds Try.pinned (OpenSpec.ofChange pastMaySpec)

/-- ITS FALSE NEIGHBOUR: 'it returns false'. Refute it at one input. -/
def pastMayWrong : ChangeSpec := { name := "pastMay", fn := fun _ => fun
  | [d] => { results := [.lit (.bool false)], args := [d] }
  | _ => none }
def PastMayWrongFalsely : Prop := pastMayRow.holds Try.pinned (OpenSpec.ofChange pastMayWrong)

/-- 'casebooklaw22.PastFront': WHATEVER THE INPUT: true; the input reads as it did. -/
def pastFrontSpec : ChangeSpec := { name := "pastFront", fn := fun _ => fun
  | [d1, d2, d3] => { results := [.lit (.bool true)], args := [d1, d2, d3] }
  | _ => none }
def pastFrontRow : OpenClaim := { program := "ytenjjgghoacboaa", sum := "2d3aa40642006a415b22b6d93b15c297ec8771e17e122fff2492ffa7327d6633", func := "casebook/casebooklaw22.PastFront", spec := "pastFront", unfollowed := true, recurses := true, apart := false }
def PastFrontSaid : Prop := pastFrontRow.holds Try.pinned (OpenSpec.ofChange pastFrontSpec)

/-- ITS FALSE NEIGHBOUR: 'it returns false'. Refute it at one input. -/
def pastFrontWrong : ChangeSpec := { name := "pastFront", fn := fun _ => fun
  | [d1, d2, d3] => { results := [.lit (.bool false)], args := [d1, d2, d3] }
  | _ => none }
def PastFrontWrongFalsely : Prop := pastFrontRow.holds Try.pinned (OpenSpec.ofChange pastFrontWrong)

/-- 'casebooklaw22.PastNobody': WHATEVER THE INPUT: true; the input reads as it did. -/
def pastNobodySpec : ChangeSpec := { name := "pastNobody", fn := fun _ => fun
  | [d] => { results := [.lit (.bool true)], args := [d] }
  | _ => none }
def pastNobodyRow : OpenClaim := { program := "ytenjjgghoacboaa", sum := "2d3aa40642006a415b22b6d93b15c297ec8771e17e122fff2492ffa7327d6633", func := "casebook/casebooklaw22.PastNobody", spec := "pastNobody", unfollowed := true, recurses := true, apart := false }
def PastNobodySaid : Prop := pastNobodyRow.holds Try.pinned (OpenSpec.ofChange pastNobodySpec)

/-- ITS FALSE NEIGHBOUR: 'it returns false'. Refute it at one input. -/
def pastNobodyWrong : ChangeSpec := { name := "pastNobody", fn := fun _ => fun
  | [d] => { results := [.lit (.bool false)], args := [d] }
  | _ => none }
def PastNobodyWrongFalsely : Prop := pastNobodyRow.holds Try.pinned (OpenSpec.ofChange pastNobodyWrong)

/- THE SECOND FORM. 'bulk': how many values and letters a reading holds, each counted each time it is reached (what is shared counts as often as it is met; a slice's spare places count too). A statement '..UptoSaid' is the law's where the arguments, and the package variables that the reading takes, are together of bulk at most 1048576: NARROWER than '..Said'. Prove '..Said' where nothing that the law and all that it calls make is longer than what came in: it says more and counts as full. Else prove '..UptoSaid'. A law counts once. -/
mutual
def uptoBulk {H : Type} : DataW H → Nat
  | .lit (.string bytes) => bytes.length + 1
  | .lit _ => 1
  | .nil => 1
  | .ptr d => uptoBulk d + 1
  | .slice elems spare => uptoBulkAll elems + uptoBulkAll spare + 1
  | .agg parts => uptoBulkAll parts + 1
  | .iface _ d => uptoBulk d + 1
  | .map entries => uptoBulkEntries entries + 1
  | .held _ => 1
def uptoBulkAll {H : Type} : List (DataW H) → Nat
  | [] => 0
  | d :: r => uptoBulk d + uptoBulkAll r
def uptoBulkEntries {H : Type} : List (Lit × DataW H) → Nat
  | [] => 0
  | x :: r => uptoBulkEntry x + uptoBulkEntries r
def uptoBulkEntry {H : Type} : Lit × DataW H → Nat
  | (.string bytes, d) => bytes.length + uptoBulk d + 1
  | (_, d) => uptoBulk d + 1
 end
def uptoSmall : (H : Type) → List (DataW H) → Bool := fun _ ds => decide (uptoBulkAll ds ≤ 1048576)
def OpenSpec.upto (s : _root_.Go.ChangeSpec) : _root_.Go.OpenSpec := { _root_.Go.OpenSpec.ofChange s with cond := some uptoSmall }

/-- 'casebooklaw18.LinePlays', WHERE WHAT IT READS IS OF BULK AT MOST 1048576: true; the input reads as it did. -/
def linePlaysUptoRow : OpenClaim := { program := "ytenjjgghoacboaa", sum := "2d3aa40642006a415b22b6d93b15c297ec8771e17e122fff2492ffa7327d6633", func := "casebook/casebooklaw18.LinePlays", spec := "linePlays", unfollowed := true, recurses := true, apart := false, narrowed := true }
def LinePlaysUptoSaid : Prop := linePlaysUptoRow.holds Try.pinned (OpenSpec.upto linePlaysSpec)

/-- 'casebooklaw18.LineFollows', WHERE WHAT IT READS IS OF BULK AT MOST 1048576: true; the input reads as it did. -/
def lineFollowsUptoRow : OpenClaim := { program := "ytenjjgghoacboaa", sum := "2d3aa40642006a415b22b6d93b15c297ec8771e17e122fff2492ffa7327d6633", func := "casebook/casebooklaw18.LineFollows", spec := "lineFollows", unfollowed := true, recurses := true, apart := false, narrowed := true }
def LineFollowsUptoSaid : Prop := lineFollowsUptoRow.holds Try.pinned (OpenSpec.upto lineFollowsSpec)

/-- 'casebooklaw19.DirtyHolds', WHERE WHAT IT READS IS OF BULK AT MOST 1048576: true; the input reads as it did. -/
def dirtyHoldsUptoRow : OpenClaim := { program := "ytenjjgghoacboaa", sum := "2d3aa40642006a415b22b6d93b15c297ec8771e17e122fff2492ffa7327d6633", func := "casebook/casebooklaw19.DirtyHolds", spec := "dirtyHolds", unfollowed := true, recurses := true, apart := false, narrowed := true }
def DirtyHoldsUptoSaid : Prop := dirtyHoldsUptoRow.holds Try.pinned (OpenSpec.upto dirtyHoldsSpec)

/-- 'casebooklaw19.DirtyNone', WHERE WHAT IT READS IS OF BULK AT MOST 1048576: true; the input reads as it did. -/
def dirtyNoneUptoRow : OpenClaim := { program := "ytenjjgghoacboaa", sum := "2d3aa40642006a415b22b6d93b15c297ec8771e17e122fff2492ffa7327d6633", func := "casebook/casebooklaw19.DirtyNone", spec := "dirtyNone", unfollowed := true, recurses := true, apart := false, narrowed := true }
def DirtyNoneUptoSaid : Prop := dirtyNoneUptoRow.holds Try.pinned (OpenSpec.upto dirtyNoneSpec)

/-- 'casebooklaw22.PastPlays', WHERE WHAT IT READS IS OF BULK AT MOST 1048576: true; the input reads as it did. -/
def pastPlaysUptoRow : OpenClaim := { program := "ytenjjgghoacboaa", sum := "2d3aa40642006a415b22b6d93b15c297ec8771e17e122fff2492ffa7327d6633", func := "casebook/casebooklaw22.PastPlays", spec := "pastPlays", unfollowed := true, recurses := true, apart := false, narrowed := true }
def PastPlaysUptoSaid : Prop := pastPlaysUptoRow.holds Try.pinned (OpenSpec.upto pastPlaysSpec)

/-- 'casebooklaw22.PastMay', WHERE WHAT IT READS IS OF BULK AT MOST 1048576: true; the input reads as it did. -/
def pastMayUptoRow : OpenClaim := { program := "ytenjjgghoacboaa", sum := "2d3aa40642006a415b22b6d93b15c297ec8771e17e122fff2492ffa7327d6633", func := "casebook/casebooklaw22.PastMay", spec := "pastMay", unfollowed := true, recurses := true, apart := false, narrowed := true }
def PastMayUptoSaid : Prop := pastMayUptoRow.holds Try.pinned (OpenSpec.upto pastMaySpec)

/-- 'casebooklaw22.PastFront', WHERE WHAT IT READS IS OF BULK AT MOST 1048576: true; the input reads as it did. -/
def pastFrontUptoRow : OpenClaim := { program := "ytenjjgghoacboaa", sum := "2d3aa40642006a415b22b6d93b15c297ec8771e17e122fff2492ffa7327d6633", func := "casebook/casebooklaw22.PastFront", spec := "pastFront", unfollowed := true, recurses := true, apart := false, narrowed := true }
def PastFrontUptoSaid : Prop := pastFrontUptoRow.holds Try.pinned (OpenSpec.upto pastFrontSpec)

/-- 'casebooklaw22.PastNobody', WHERE WHAT IT READS IS OF BULK AT MOST 1048576: true; the input reads as it did. -/
def pastNobodyUptoRow : OpenClaim := { program := "ytenjjgghoacboaa", sum := "2d3aa40642006a415b22b6d93b15c297ec8771e17e122fff2492ffa7327d6633", func := "casebook/casebooklaw22.PastNobody", spec := "pastNobody", unfollowed := true, recurses := true, apart := false, narrowed := true }
def PastNobodyUptoSaid : Prop := pastNobodyUptoRow.holds Try.pinned (OpenSpec.upto pastNobodySpec)

end Rows
end Go.Proofs.Ytenjjgghoacboaa
