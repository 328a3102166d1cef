/-
  No cell of these rows narrows 'for every input' (looked for: loops, veiled, ifaces, maps, wideKeys, modest, calm, conditions, laid).
  DERIVED. THE GIVEN ROWS OF THIS SEAT. 9 by the template 'for every input the law returns true; each argument reads behind the call as it read before'; 0 by the template 'total and deterministic' (their statements: YtomjlhmkmihbeaaTotals.lean).
  GIVEN WITH THE SEED: the statements are not yours to turn. If you find one false, say at which input.
  Laid BY PROGRAM, IN A SANDBOX (cutbox-rows.mjs): the forced cells as the released guide's own fill.sh prints them over the translation 4ebd8916e44bfe6e… (all of the seat's roots in one cut). By AI agents, Wed Nov 11 2026. No macro, syntax, notation, axiom, sorry.
-/
import Derived.Test.YtomjlhmkmihbeaaChecked
import GoSem.Claim
import GoSem.ClaimJoined
import GoSem.ClaimMapViews
import Derived.JoinedTies
import Derived.KernelRfl
namespace Go.Proofs.Ytomjlhmkmihbeaa
/- THE CELL 'sum', in the pinned program and in every row, IS THE sha256 OF THE DUMP (.gsa) THAT YtomjlhmkmihbeaaProg.lean LOADS. Nothing in Lean hashes anything: it is a label: what it is worth is what the hold of that sum in a sandbox is worth. -/
noncomputable def Try.pinned : Pinned := { name := "ytomjlhmkmihbeaa", sum := "4ebd8916e44bfe6ef66f171440af968ece6ac1dd5168b421fb1db55284269262", checked := Try.checked }
namespace Rows
def none {H : Type} : Left H := { results := [], args := [] }

/-- 'casebooklaw16.HoldFour': WHATEVER THE INPUT: true; the input reads as it did. -/
def holdFourSpec : ChangeSpec := { name := "holdFour", fn := fun _ => fun
  | [d1, d2] => { results := [.lit (.bool true)], args := [d1, d2] }
  | _ => none }
def holdFourRow : OpenClaim := { program := "ytomjlhmkmihbeaa", sum := "4ebd8916e44bfe6ef66f171440af968ece6ac1dd5168b421fb1db55284269262", func := "casebook/casebooklaw16.HoldFour", spec := "holdFour", apart := false }
def HoldFourSaid : Prop := holdFourRow.holds Try.pinned (OpenSpec.ofChange holdFourSpec)

/-- ITS FALSE NEIGHBOUR: 'it returns false'. Refute it at one input. -/
def holdFourWrong : ChangeSpec := { name := "holdFour", fn := fun _ => fun
  | [d1, d2] => { results := [.lit (.bool false)], args := [d1, d2] }
  | _ => none }
def HoldFourWrongFalsely : Prop := holdFourRow.holds Try.pinned (OpenSpec.ofChange holdFourWrong)

/-- 'casebooklaw16.HoldPlays': WHATEVER THE INPUT: true; the input reads as it did. -/
def holdPlaysSpec : ChangeSpec := { name := "holdPlays", fn := fun _ => fun
  | [d1, d2] => { results := [.lit (.bool true)], args := [d1, d2] }
  | _ => none }
def holdPlaysRow : OpenClaim := { program := "ytomjlhmkmihbeaa", sum := "4ebd8916e44bfe6ef66f171440af968ece6ac1dd5168b421fb1db55284269262", func := "casebook/casebooklaw16.HoldPlays", spec := "holdPlays", apart := false }
def HoldPlaysSaid : Prop := holdPlaysRow.holds Try.pinned (OpenSpec.ofChange holdPlaysSpec)

/-- ITS FALSE NEIGHBOUR: 'it returns false'. Refute it at one input. -/
def holdPlaysWrong : ChangeSpec := { name := "holdPlays", fn := fun _ => fun
  | [d1, d2] => { results := [.lit (.bool false)], args := [d1, d2] }
  | _ => none }
def HoldPlaysWrongFalsely : Prop := holdPlaysRow.holds Try.pinned (OpenSpec.ofChange holdPlaysWrong)

/-- 'casebooklaw16.HoldNone': WHATEVER THE INPUT: true; the input reads as it did. -/
def holdNoneSpec : ChangeSpec := { name := "holdNone", fn := fun _ => fun
  | [d1, d2, d3, d4] => { results := [.lit (.bool true)], args := [d1, d2, d3, d4] }
  | _ => none }
def holdNoneRow : OpenClaim := { program := "ytomjlhmkmihbeaa", sum := "4ebd8916e44bfe6ef66f171440af968ece6ac1dd5168b421fb1db55284269262", func := "casebook/casebooklaw16.HoldNone", spec := "holdNone", apart := false }
def HoldNoneSaid : Prop := holdNoneRow.holds Try.pinned (OpenSpec.ofChange holdNoneSpec)

/-- ITS FALSE NEIGHBOUR: 'it returns false'. Refute it at one input. -/
def holdNoneWrong : ChangeSpec := { name := "holdNone", fn := fun _ => fun
  | [d1, d2, d3, d4] => { results := [.lit (.bool false)], args := [d1, d2, d3, d4] }
  | _ => none }
def HoldNoneWrongFalsely : Prop := holdNoneRow.holds Try.pinned (OpenSpec.ofChange holdNoneWrong)

/-- 'casebooklaw16.HoldSafe': WHATEVER THE INPUT: true; the input reads as it did. -/
def holdSafeSpec : ChangeSpec := { name := "holdSafe", fn := fun _ => fun
  | [d1, d2] => { results := [.lit (.bool true)], args := [d1, d2] }
  | _ => none }
def holdSafeRow : OpenClaim := { program := "ytomjlhmkmihbeaa", sum := "4ebd8916e44bfe6ef66f171440af968ece6ac1dd5168b421fb1db55284269262", func := "casebook/casebooklaw16.HoldSafe", spec := "holdSafe", apart := false }
def HoldSafeSaid : Prop := holdSafeRow.holds Try.pinned (OpenSpec.ofChange holdSafeSpec)

/-- ITS FALSE NEIGHBOUR: 'it returns false'. Refute it at one input. -/
def holdSafeWrong : ChangeSpec := { name := "holdSafe", fn := fun _ => fun
  | [d1, d2] => { results := [.lit (.bool false)], args := [d1, d2] }
  | _ => none }
def HoldSafeWrongFalsely : Prop := holdSafeRow.holds Try.pinned (OpenSpec.ofChange holdSafeWrong)

/-- 'casebooklaw16.HoldRenews': WHATEVER THE INPUT: true; the input reads as it did. -/
def holdRenewsSpec : ChangeSpec := { name := "holdRenews", fn := fun _ => fun
  | [d] => { results := [.lit (.bool true)], args := [d] }
  | _ => none }
def holdRenewsRow : OpenClaim := { program := "ytomjlhmkmihbeaa", sum := "4ebd8916e44bfe6ef66f171440af968ece6ac1dd5168b421fb1db55284269262", func := "casebook/casebooklaw16.HoldRenews", spec := "holdRenews", apart := false }
def HoldRenewsSaid : Prop := holdRenewsRow.holds Try.pinned (OpenSpec.ofChange holdRenewsSpec)

/-- ITS FALSE NEIGHBOUR: 'it returns false'. Refute it at one input. -/
def holdRenewsWrong : ChangeSpec := { name := "holdRenews", fn := fun _ => fun
  | [d] => { results := [.lit (.bool false)], args := [d] }
  | _ => none }
def HoldRenewsWrongFalsely : Prop := holdRenewsRow.holds Try.pinned (OpenSpec.ofChange holdRenewsWrong)

/-- 'casebooklaw17.WatchPlays': WHATEVER THE INPUT: true; the input reads as it did. -/
def watchPlaysSpec : ChangeSpec := { name := "watchPlays", fn := fun _ => fun
  | [d1, d2, d3, d4] => { results := [.lit (.bool true)], args := [d1, d2, d3, d4] }
  | _ => none }
def watchPlaysRow : OpenClaim := { program := "ytomjlhmkmihbeaa", sum := "4ebd8916e44bfe6ef66f171440af968ece6ac1dd5168b421fb1db55284269262", func := "casebook/casebooklaw17.WatchPlays", spec := "watchPlays", unfollowed := true, recurses := true, apart := false }
def WatchPlaysSaid : Prop := watchPlaysRow.holds Try.pinned (OpenSpec.ofChange watchPlaysSpec)

/-- ITS FALSE NEIGHBOUR: 'it returns false'. Refute it at one input. -/
def watchPlaysWrong : ChangeSpec := { name := "watchPlays", fn := fun _ => fun
  | [d1, d2, d3, d4] => { results := [.lit (.bool false)], args := [d1, d2, d3, d4] }
  | _ => none }
def WatchPlaysWrongFalsely : Prop := watchPlaysRow.holds Try.pinned (OpenSpec.ofChange watchPlaysWrong)

/-- 'casebooklaw17.WatchBeats': WHATEVER THE INPUT: true; the input reads as it did. -/
def watchBeatsSpec : ChangeSpec := { name := "watchBeats", fn := fun _ => fun
  | [d] => { results := [.lit (.bool true)], args := [d] }
  | _ => none }
def watchBeatsRow : OpenClaim := { program := "ytomjlhmkmihbeaa", sum := "4ebd8916e44bfe6ef66f171440af968ece6ac1dd5168b421fb1db55284269262", func := "casebook/casebooklaw17.WatchBeats", spec := "watchBeats", unfollowed := true, recurses := true, apart := false }
def WatchBeatsSaid : Prop := watchBeatsRow.holds Try.pinned (OpenSpec.ofChange watchBeatsSpec)

/-- ITS FALSE NEIGHBOUR: 'it returns false'. Refute it at one input. -/
def watchBeatsWrong : ChangeSpec := { name := "watchBeats", fn := fun _ => fun
  | [d] => { results := [.lit (.bool false)], args := [d] }
  | _ => none }
def WatchBeatsWrongFalsely : Prop := watchBeatsRow.holds Try.pinned (OpenSpec.ofChange watchBeatsWrong)

/-- 'casebooklaw17.WatchNobody': WHATEVER THE INPUT: true; the input reads as it did. -/
def watchNobodySpec : ChangeSpec := { name := "watchNobody", fn := fun _ => fun
  | [d1, d2] => { results := [.lit (.bool true)], args := [d1, d2] }
  | _ => none }
def watchNobodyRow : OpenClaim := { program := "ytomjlhmkmihbeaa", sum := "4ebd8916e44bfe6ef66f171440af968ece6ac1dd5168b421fb1db55284269262", func := "casebook/casebooklaw17.WatchNobody", spec := "watchNobody", unfollowed := true, recurses := true, apart := false }
def WatchNobodySaid : Prop := watchNobodyRow.holds Try.pinned (OpenSpec.ofChange watchNobodySpec)

/-- ITS FALSE NEIGHBOUR: 'it returns false'. Refute it at one input. -/
def watchNobodyWrong : ChangeSpec := { name := "watchNobody", fn := fun _ => fun
  | [d1, d2] => { results := [.lit (.bool false)], args := [d1, d2] }
  | _ => none }
def WatchNobodyWrongFalsely : Prop := watchNobodyRow.holds Try.pinned (OpenSpec.ofChange watchNobodyWrong)

/-- 'casebooklaw17.WatchApart': WHATEVER THE INPUT: true; the input reads as it did. -/
def watchApartSpec : ChangeSpec := { name := "watchApart", fn := fun _ => fun
  | [d] => { results := [.lit (.bool true)], args := [d] }
  | _ => none }
def watchApartRow : OpenClaim := { program := "ytomjlhmkmihbeaa", sum := "4ebd8916e44bfe6ef66f171440af968ece6ac1dd5168b421fb1db55284269262", func := "casebook/casebooklaw17.WatchApart", spec := "watchApart", unfollowed := true, recurses := true, apart := false }
def WatchApartSaid : Prop := watchApartRow.holds Try.pinned (OpenSpec.ofChange watchApartSpec)

/-- ITS FALSE NEIGHBOUR: 'it returns false'. Refute it at one input. -/
def watchApartWrong : ChangeSpec := { name := "watchApart", fn := fun _ => fun
  | [d] => { results := [.lit (.bool false)], args := [d] }
  | _ => none }
def WatchApartWrongFalsely : Prop := watchApartRow.holds Try.pinned (OpenSpec.ofChange watchApartWrong)

/- THE SECOND FORM. 'bulk': how many values and letters a reading holds, each counted each time it is reached (what is shared counts as often as it is met; a slice's spare places count too). A statement '..UptoSaid' is the law's where the arguments, and the package variables that the reading takes, are together of bulk at most 1048576: NARROWER than '..Said'. Prove '..Said' where nothing that the law and all that it calls make is longer than what came in: it says more and counts as full. Else prove '..UptoSaid'. A law counts once. -/
mutual
def uptoBulk {H : Type} : DataW H → Nat
  | .lit (.string bytes) => bytes.length + 1
  | .lit _ => 1
  | .nil => 1
  | .ptr d => uptoBulk d + 1
  | .slice elems spare => uptoBulkAll elems + uptoBulkAll spare + 1
  | .agg parts => uptoBulkAll parts + 1
  | .iface _ d => uptoBulk d + 1
  | .map entries => uptoBulkEntries entries + 1
  | .held _ => 1
def uptoBulkAll {H : Type} : List (DataW H) → Nat
  | [] => 0
  | d :: r => uptoBulk d + uptoBulkAll r
def uptoBulkEntries {H : Type} : List (Lit × DataW H) → Nat
  | [] => 0
  | x :: r => uptoBulkEntry x + uptoBulkEntries r
def uptoBulkEntry {H : Type} : Lit × DataW H → Nat
  | (.string bytes, d) => bytes.length + uptoBulk d + 1
  | (_, d) => uptoBulk d + 1
 end
def uptoSmall : (H : Type) → List (DataW H) → Bool := fun _ ds => decide (uptoBulkAll ds ≤ 1048576)
def OpenSpec.upto (s : _root_.Go.ChangeSpec) : _root_.Go.OpenSpec := { _root_.Go.OpenSpec.ofChange s with cond := some uptoSmall }

/-- 'casebooklaw16.HoldFour', WHERE WHAT IT READS IS OF BULK AT MOST 1048576: true; the input reads as it did. -/
def holdFourUptoRow : OpenClaim := { program := "ytomjlhmkmihbeaa", sum := "4ebd8916e44bfe6ef66f171440af968ece6ac1dd5168b421fb1db55284269262", func := "casebook/casebooklaw16.HoldFour", spec := "holdFour", apart := false, narrowed := true }
def HoldFourUptoSaid : Prop := holdFourUptoRow.holds Try.pinned (OpenSpec.upto holdFourSpec)

/-- 'casebooklaw16.HoldPlays', WHERE WHAT IT READS IS OF BULK AT MOST 1048576: true; the input reads as it did. -/
def holdPlaysUptoRow : OpenClaim := { program := "ytomjlhmkmihbeaa", sum := "4ebd8916e44bfe6ef66f171440af968ece6ac1dd5168b421fb1db55284269262", func := "casebook/casebooklaw16.HoldPlays", spec := "holdPlays", apart := false, narrowed := true }
def HoldPlaysUptoSaid : Prop := holdPlaysUptoRow.holds Try.pinned (OpenSpec.upto holdPlaysSpec)

/-- 'casebooklaw16.HoldNone', WHERE WHAT IT READS IS OF BULK AT MOST 1048576: true; the input reads as it did. -/
def holdNoneUptoRow : OpenClaim := { program := "ytomjlhmkmihbeaa", sum := "4ebd8916e44bfe6ef66f171440af968ece6ac1dd5168b421fb1db55284269262", func := "casebook/casebooklaw16.HoldNone", spec := "holdNone", apart := false, narrowed := true }
def HoldNoneUptoSaid : Prop := holdNoneUptoRow.holds Try.pinned (OpenSpec.upto holdNoneSpec)

/-- 'casebooklaw16.HoldSafe', WHERE WHAT IT READS IS OF BULK AT MOST 1048576: true; the input reads as it did. -/
def holdSafeUptoRow : OpenClaim := { program := "ytomjlhmkmihbeaa", sum := "4ebd8916e44bfe6ef66f171440af968ece6ac1dd5168b421fb1db55284269262", func := "casebook/casebooklaw16.HoldSafe", spec := "holdSafe", apart := false, narrowed := true }
def HoldSafeUptoSaid : Prop := holdSafeUptoRow.holds Try.pinned (OpenSpec.upto holdSafeSpec)

/-- 'casebooklaw16.HoldRenews', WHERE WHAT IT READS IS OF BULK AT MOST 1048576: true; the input reads as it did. -/
def holdRenewsUptoRow : OpenClaim := { program := "ytomjlhmkmihbeaa", sum := "4ebd8916e44bfe6ef66f171440af968ece6ac1dd5168b421fb1db55284269262", func := "casebook/casebooklaw16.HoldRenews", spec := "holdRenews", apart := false, narrowed := true }
def HoldRenewsUptoSaid : Prop := holdRenewsUptoRow.holds Try.pinned (OpenSpec.upto holdRenewsSpec)

/-- 'casebooklaw17.WatchPlays', WHERE WHAT IT READS IS OF BULK AT MOST 1048576: true; the input reads as it did. -/
def watchPlaysUptoRow : OpenClaim := { program := "ytomjlhmkmihbeaa", sum := "4ebd8916e44bfe6ef66f171440af968ece6ac1dd5168b421fb1db55284269262", func := "casebook/casebooklaw17.WatchPlays", spec := "watchPlays", unfollowed := true, recurses := true, apart := false, narrowed := true }
def WatchPlaysUptoSaid : Prop := watchPlaysUptoRow.holds Try.pinned (OpenSpec.upto watchPlaysSpec)

/-- 'casebooklaw17.WatchBeats', WHERE WHAT IT READS IS OF BULK AT MOST 1048576: true; the input reads as it did. -/
def watchBeatsUptoRow : OpenClaim := { program := "ytomjlhmkmihbeaa", sum := "4ebd8916e44bfe6ef66f171440af968ece6ac1dd5168b421fb1db55284269262", func := "casebook/casebooklaw17.WatchBeats", spec := "watchBeats", unfollowed := true, recurses := true, apart := false, narrowed := true }
def WatchBeatsUptoSaid : Prop := watchBeatsUptoRow.holds Try.pinned (OpenSpec.upto watchBeatsSpec)

/-- 'casebooklaw17.WatchNobody', WHERE WHAT IT READS IS OF BULK AT MOST 1048576: true; the input reads as it did. -/
def watchNobodyUptoRow : OpenClaim := { program := "ytomjlhmkmihbeaa", sum := "4ebd8916e44bfe6ef66f171440af968ece6ac1dd5168b421fb1db55284269262", func := "casebook/casebooklaw17.WatchNobody", spec := "watchNobody", unfollowed := true, recurses := true, apart := false, narrowed := true }
def WatchNobodyUptoSaid : Prop := watchNobodyUptoRow.holds Try.pinned (OpenSpec.upto watchNobodySpec)

/-- 'casebooklaw17.WatchApart', WHERE WHAT IT READS IS OF BULK AT MOST 1048576: true; the input reads as it did. -/
def watchApartUptoRow : OpenClaim := { program := "ytomjlhmkmihbeaa", sum := "4ebd8916e44bfe6ef66f171440af968ece6ac1dd5168b421fb1db55284269262", func := "casebook/casebooklaw17.WatchApart", spec := "watchApart", unfollowed := true, recurses := true, apart := false, narrowed := true }
def WatchApartUptoSaid : Prop := watchApartUptoRow.holds Try.pinned (OpenSpec.upto watchApartSpec)

end Rows
end Go.Proofs.Ytomjlhmkmihbeaa
