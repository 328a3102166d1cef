/-
  No cell of these rows narrows 'for every input' (looked for: loops, veiled, ifaces, maps, wideKeys, modest, calm, conditions, laid).
  DERIVED. THE GIVEN ROWS OF THIS SEAT. 11 by the template 'for every input the law returns true; each argument reads behind the call as it read before'; 0 by the template 'total and deterministic' (their statements: YtpcbpimlakehcaaTotals.lean).
  GIVEN WITH THE SEED: the statements are not yours to turn. If you find one false, say at which input.
  Laid BY PROGRAM, IN A SANDBOX (cutbox-rows.mjs): the forced cells as the released guide's own fill.sh prints them over the translation 311a8013a1da9116… (all of the seat's roots in one cut). By AI agents, Wed Nov 11 2026. No macro, syntax, notation, axiom, sorry.
-/
import Derived.Test.YtpcbpimlakehcaaChecked
import GoSem.Claim
import GoSem.ClaimJoined
import GoSem.ClaimMapViews
import Derived.JoinedTies
import Derived.KernelRfl
namespace Go.Proofs.Ytpcbpimlakehcaa
/- THE CELL 'sum', in the pinned program and in every row, IS THE sha256 OF THE DUMP (.gsa) THAT YtpcbpimlakehcaaProg.lean LOADS. Nothing in Lean hashes anything: it is a label: what it is worth is what the hold of that sum in a sandbox is worth. -/
noncomputable def Try.pinned : Pinned := { name := "ytpcbpimlakehcaa", sum := "311a8013a1da91167e183967ec74afba734ef4d6fb046d291555ab1b5bfea344", checked := Try.checked }
namespace Rows
def none {H : Type} : Left H := { results := [], args := [] }

/-- 'casebooklaw21.ClientKnows': WHATEVER THE INPUT: true; the input reads as it did. -/
def clientKnowsSpec : ChangeSpec := { name := "clientKnows", fn := fun _ => fun
  | [d1, d2, d3] => { results := [.lit (.bool true)], args := [d1, d2, d3] }
  | _ => none }
def clientKnowsRow : OpenClaim := { program := "ytpcbpimlakehcaa", sum := "311a8013a1da91167e183967ec74afba734ef4d6fb046d291555ab1b5bfea344", func := "casebook/casebooklaw21.ClientKnows", spec := "clientKnows", unfollowed := true, recurses := true, apart := false }
def ClientKnowsSaid : Prop := clientKnowsRow.holds Try.pinned (OpenSpec.ofChange clientKnowsSpec)

/-- ITS FALSE NEIGHBOUR: 'it returns false'. Refute it at one input. -/
def clientKnowsWrong : ChangeSpec := { name := "clientKnows", fn := fun _ => fun
  | [d1, d2, d3] => { results := [.lit (.bool false)], args := [d1, d2, d3] }
  | _ => none }
def ClientKnowsWrongFalsely : Prop := clientKnowsRow.holds Try.pinned (OpenSpec.ofChange clientKnowsWrong)

/-- 'casebooklaw21.ClientPlays': WHATEVER THE INPUT: true; the input reads as it did. -/
def clientPlaysSpec : ChangeSpec := { name := "clientPlays", fn := fun _ => fun
  | [d1, d2, d3] => { results := [.lit (.bool true)], args := [d1, d2, d3] }
  | _ => none }
def clientPlaysRow : OpenClaim := { program := "ytpcbpimlakehcaa", sum := "311a8013a1da91167e183967ec74afba734ef4d6fb046d291555ab1b5bfea344", func := "casebook/casebooklaw21.ClientPlays", spec := "clientPlays", unfollowed := true, recurses := true, apart := false }
def ClientPlaysSaid : Prop := clientPlaysRow.holds Try.pinned (OpenSpec.ofChange clientPlaysSpec)

/-- ITS FALSE NEIGHBOUR: 'it returns false'. Refute it at one input. -/
def clientPlaysWrong : ChangeSpec := { name := "clientPlays", fn := fun _ => fun
  | [d1, d2, d3] => { results := [.lit (.bool false)], args := [d1, d2, d3] }
  | _ => none }
def ClientPlaysWrongFalsely : Prop := clientPlaysRow.holds Try.pinned (OpenSpec.ofChange clientPlaysWrong)

/-- 'casebooklaw21.ClientOne': WHATEVER THE INPUT: true; the input reads as it did. -/
def clientOneSpec : ChangeSpec := { name := "clientOne", fn := fun _ => fun
  | [d] => { results := [.lit (.bool true)], args := [d] }
  | _ => none }
def clientOneRow : OpenClaim := { program := "ytpcbpimlakehcaa", sum := "311a8013a1da91167e183967ec74afba734ef4d6fb046d291555ab1b5bfea344", func := "casebook/casebooklaw21.ClientOne", spec := "clientOne", unfollowed := true, recurses := true, apart := false }
def ClientOneSaid : Prop := clientOneRow.holds Try.pinned (OpenSpec.ofChange clientOneSpec)

/-- ITS FALSE NEIGHBOUR: 'it returns false'. Refute it at one input. -/
def clientOneWrong : ChangeSpec := { name := "clientOne", fn := fun _ => fun
  | [d] => { results := [.lit (.bool false)], args := [d] }
  | _ => none }
def ClientOneWrongFalsely : Prop := clientOneRow.holds Try.pinned (OpenSpec.ofChange clientOneWrong)

/-- 'casebooklaw21.ClientTries': WHATEVER THE INPUT: true; the input reads as it did. -/
def clientTriesSpec : ChangeSpec := { name := "clientTries", fn := fun _ => fun
  | [d1, d2] => { results := [.lit (.bool true)], args := [d1, d2] }
  | _ => none }
def clientTriesRow : OpenClaim := { program := "ytpcbpimlakehcaa", sum := "311a8013a1da91167e183967ec74afba734ef4d6fb046d291555ab1b5bfea344", func := "casebook/casebooklaw21.ClientTries", spec := "clientTries", unfollowed := true, recurses := true, apart := false }
def ClientTriesSaid : Prop := clientTriesRow.holds Try.pinned (OpenSpec.ofChange clientTriesSpec)

/-- ITS FALSE NEIGHBOUR: 'it returns false'. Refute it at one input. -/
def clientTriesWrong : ChangeSpec := { name := "clientTries", fn := fun _ => fun
  | [d1, d2] => { results := [.lit (.bool false)], args := [d1, d2] }
  | _ => none }
def ClientTriesWrongFalsely : Prop := clientTriesRow.holds Try.pinned (OpenSpec.ofChange clientTriesWrong)

/-- 'casebooklaw22.PastPlays': WHATEVER THE INPUT: true; the input reads as it did. -/
def pastPlaysSpec : ChangeSpec := { name := "pastPlays", fn := fun _ => fun
  | [d] => { results := [.lit (.bool true)], args := [d] }
  | _ => none }
def pastPlaysRow : OpenClaim := { program := "ytpcbpimlakehcaa", sum := "311a8013a1da91167e183967ec74afba734ef4d6fb046d291555ab1b5bfea344", func := "casebook/casebooklaw22.PastPlays", spec := "pastPlays", unfollowed := true, recurses := true, apart := false }
def PastPlaysSaid : Prop := pastPlaysRow.holds Try.pinned (OpenSpec.ofChange pastPlaysSpec)

/-- ITS FALSE NEIGHBOUR: 'it returns false'. Refute it at one input. -/
def pastPlaysWrong : ChangeSpec := { name := "pastPlays", fn := fun _ => fun
  | [d] => { results := [.lit (.bool false)], args := [d] }
  | _ => none }
def PastPlaysWrongFalsely : Prop := pastPlaysRow.holds Try.pinned (OpenSpec.ofChange pastPlaysWrong)

/-- 'casebooklaw22.PastMay': WHATEVER THE INPUT: true; the input reads as it did. -/
def pastMaySpec : ChangeSpec := { name := "pastMay", fn := fun _ => fun
  | [d] => { results := [.lit (.bool true)], args := [d] }
  | _ => none }
def pastMayRow : OpenClaim := { program := "ytpcbpimlakehcaa", sum := "311a8013a1da91167e183967ec74afba734ef4d6fb046d291555ab1b5bfea344", func := "casebook/casebooklaw22.PastMay", spec := "pastMay", unfollowed := true, recurses := true, apart := false }
def PastMaySaid : Prop := pastMayRow.holds Try.pinned (OpenSpec.ofChange pastMaySpec)

/-- ITS FALSE NEIGHBOUR: 'it returns false'. Refute it at one input. -/
def pastMayWrong : ChangeSpec := { name := "pastMay", fn := fun _ => fun
  | [d] => { results := [.lit (.bool false)], args := [d] }
  | _ => none }
def PastMayWrongFalsely : Prop := pastMayRow.holds Try.pinned (OpenSpec.ofChange pastMayWrong)

/-- 'casebooklaw22.PastFront': WHATEVER THE INPUT: true; the input reads as it did. -/
def pastFrontSpec : ChangeSpec := { name := "pastFront", fn := fun _ => fun
  | [d1, d2, d3] => { results := [.lit (.bool true)], args := [d1, d2, d3] }
  | _ => none }
def pastFrontRow : OpenClaim := { program := "ytpcbpimlakehcaa", sum := "311a8013a1da91167e183967ec74afba734ef4d6fb046d291555ab1b5bfea344", func := "casebook/casebooklaw22.PastFront", spec := "pastFront", unfollowed := true, recurses := true, apart := false }
def PastFrontSaid : Prop := pastFrontRow.holds Try.pinned (OpenSpec.ofChange pastFrontSpec)

/-- ITS FALSE NEIGHBOUR: 'it returns false'. Refute it at one input. -/
def pastFrontWrong : ChangeSpec := { name := "pastFront", fn := fun _ => fun
  | [d1, d2, d3] => { results := [.lit (.bool false)], args := [d1, d2, d3] }
  | _ => none }
def PastFrontWrongFalsely : Prop := pastFrontRow.holds Try.pinned (OpenSpec.ofChange pastFrontWrong)

/-- 'casebooklaw22.PastNobody': WHATEVER THE INPUT: true; the input reads as it did. -/
def pastNobodySpec : ChangeSpec := { name := "pastNobody", fn := fun _ => fun
  | [d] => { results := [.lit (.bool true)], args := [d] }
  | _ => none }
def pastNobodyRow : OpenClaim := { program := "ytpcbpimlakehcaa", sum := "311a8013a1da91167e183967ec74afba734ef4d6fb046d291555ab1b5bfea344", func := "casebook/casebooklaw22.PastNobody", spec := "pastNobody", unfollowed := true, recurses := true, apart := false }
def PastNobodySaid : Prop := pastNobodyRow.holds Try.pinned (OpenSpec.ofChange pastNobodySpec)

/-- ITS FALSE NEIGHBOUR: 'it returns false'. Refute it at one input. -/
def pastNobodyWrong : ChangeSpec := { name := "pastNobody", fn := fun _ => fun
  | [d] => { results := [.lit (.bool false)], args := [d] }
  | _ => none }
def PastNobodyWrongFalsely : Prop := pastNobodyRow.holds Try.pinned (OpenSpec.ofChange pastNobodyWrong)

/-- 'casebooklaw24.BoundAsks': WHATEVER THE INPUT: true; the input reads as it did. -/
def boundAsksSpec : ChangeSpec := { name := "boundAsks", fn := fun _ => fun
  | [d1, d2] => { results := [.lit (.bool true)], args := [d1, d2] }
  | _ => none }
def boundAsksRow : OpenClaim := { program := "ytpcbpimlakehcaa", sum := "311a8013a1da91167e183967ec74afba734ef4d6fb046d291555ab1b5bfea344", func := "casebook/casebooklaw24.BoundAsks", spec := "boundAsks", apart := false }
def BoundAsksSaid : Prop := boundAsksRow.holds Try.pinned (OpenSpec.ofChange boundAsksSpec)

/-- ITS FALSE NEIGHBOUR: 'it returns false'. Refute it at one input. -/
def boundAsksWrong : ChangeSpec := { name := "boundAsks", fn := fun _ => fun
  | [d1, d2] => { results := [.lit (.bool false)], args := [d1, d2] }
  | _ => none }
def BoundAsksWrongFalsely : Prop := boundAsksRow.holds Try.pinned (OpenSpec.ofChange boundAsksWrong)

/-- 'casebooklaw24.BoundRoom': WHATEVER THE INPUT: true; the input reads as it did. -/
def boundRoomSpec : ChangeSpec := { name := "boundRoom", fn := fun _ => fun
  | [d] => { results := [.lit (.bool true)], args := [d] }
  | _ => none }
def boundRoomRow : OpenClaim := { program := "ytpcbpimlakehcaa", sum := "311a8013a1da91167e183967ec74afba734ef4d6fb046d291555ab1b5bfea344", func := "casebook/casebooklaw24.BoundRoom", spec := "boundRoom", apart := false }
def BoundRoomSaid : Prop := boundRoomRow.holds Try.pinned (OpenSpec.ofChange boundRoomSpec)

/-- ITS FALSE NEIGHBOUR: 'it returns false'. Refute it at one input. -/
def boundRoomWrong : ChangeSpec := { name := "boundRoom", fn := fun _ => fun
  | [d] => { results := [.lit (.bool false)], args := [d] }
  | _ => none }
def BoundRoomWrongFalsely : Prop := boundRoomRow.holds Try.pinned (OpenSpec.ofChange boundRoomWrong)

/-- 'casebooklaw24.BoundGrows': WHATEVER THE INPUT: true; the input reads as it did. -/
def boundGrowsSpec : ChangeSpec := { name := "boundGrows", fn := fun _ => fun
  | [d1, d2, d3] => { results := [.lit (.bool true)], args := [d1, d2, d3] }
  | _ => none }
def boundGrowsRow : OpenClaim := { program := "ytpcbpimlakehcaa", sum := "311a8013a1da91167e183967ec74afba734ef4d6fb046d291555ab1b5bfea344", func := "casebook/casebooklaw24.BoundGrows", spec := "boundGrows", apart := false }
def BoundGrowsSaid : Prop := boundGrowsRow.holds Try.pinned (OpenSpec.ofChange boundGrowsSpec)

/-- ITS FALSE NEIGHBOUR: 'it returns false'. Refute it at one input. -/
def boundGrowsWrong : ChangeSpec := { name := "boundGrows", fn := fun _ => fun
  | [d1, d2, d3] => { results := [.lit (.bool false)], args := [d1, d2, d3] }
  | _ => none }
def BoundGrowsWrongFalsely : Prop := boundGrowsRow.holds Try.pinned (OpenSpec.ofChange boundGrowsWrong)

/- THE SECOND FORM. 'bulk': how many values and letters a reading holds, each counted each time it is reached (what is shared counts as often as it is met; a slice's spare places count too). A statement '..UptoSaid' is the law's where the arguments, and the package variables that the reading takes, are together of bulk at most 1048576: NARROWER than '..Said'. Prove '..Said' where nothing that the law and all that it calls make is longer than what came in: it says more and counts as full. Else prove '..UptoSaid'. A law counts once. -/
mutual
def uptoBulk {H : Type} : DataW H → Nat
  | .lit (.string bytes) => bytes.length + 1
  | .lit _ => 1
  | .nil => 1
  | .ptr d => uptoBulk d + 1
  | .slice elems spare => uptoBulkAll elems + uptoBulkAll spare + 1
  | .agg parts => uptoBulkAll parts + 1
  | .iface _ d => uptoBulk d + 1
  | .map entries => uptoBulkEntries entries + 1
  | .held _ => 1
def uptoBulkAll {H : Type} : List (DataW H) → Nat
  | [] => 0
  | d :: r => uptoBulk d + uptoBulkAll r
def uptoBulkEntries {H : Type} : List (Lit × DataW H) → Nat
  | [] => 0
  | x :: r => uptoBulkEntry x + uptoBulkEntries r
def uptoBulkEntry {H : Type} : Lit × DataW H → Nat
  | (.string bytes, d) => bytes.length + uptoBulk d + 1
  | (_, d) => uptoBulk d + 1
 end
def uptoSmall : (H : Type) → List (DataW H) → Bool := fun _ ds => decide (uptoBulkAll ds ≤ 1048576)
def OpenSpec.upto (s : _root_.Go.ChangeSpec) : _root_.Go.OpenSpec := { _root_.Go.OpenSpec.ofChange s with cond := some uptoSmall }

/-- 'casebooklaw21.ClientKnows', WHERE WHAT IT READS IS OF BULK AT MOST 1048576: true; the input reads as it did. -/
def clientKnowsUptoRow : OpenClaim := { program := "ytpcbpimlakehcaa", sum := "311a8013a1da91167e183967ec74afba734ef4d6fb046d291555ab1b5bfea344", func := "casebook/casebooklaw21.ClientKnows", spec := "clientKnows", unfollowed := true, recurses := true, apart := false, narrowed := true }
def ClientKnowsUptoSaid : Prop := clientKnowsUptoRow.holds Try.pinned (OpenSpec.upto clientKnowsSpec)

/-- 'casebooklaw21.ClientPlays', WHERE WHAT IT READS IS OF BULK AT MOST 1048576: true; the input reads as it did. -/
def clientPlaysUptoRow : OpenClaim := { program := "ytpcbpimlakehcaa", sum := "311a8013a1da91167e183967ec74afba734ef4d6fb046d291555ab1b5bfea344", func := "casebook/casebooklaw21.ClientPlays", spec := "clientPlays", unfollowed := true, recurses := true, apart := false, narrowed := true }
def ClientPlaysUptoSaid : Prop := clientPlaysUptoRow.holds Try.pinned (OpenSpec.upto clientPlaysSpec)

/-- 'casebooklaw21.ClientOne', WHERE WHAT IT READS IS OF BULK AT MOST 1048576: true; the input reads as it did. -/
def clientOneUptoRow : OpenClaim := { program := "ytpcbpimlakehcaa", sum := "311a8013a1da91167e183967ec74afba734ef4d6fb046d291555ab1b5bfea344", func := "casebook/casebooklaw21.ClientOne", spec := "clientOne", unfollowed := true, recurses := true, apart := false, narrowed := true }
def ClientOneUptoSaid : Prop := clientOneUptoRow.holds Try.pinned (OpenSpec.upto clientOneSpec)

/-- 'casebooklaw21.ClientTries', WHERE WHAT IT READS IS OF BULK AT MOST 1048576: true; the input reads as it did. -/
def clientTriesUptoRow : OpenClaim := { program := "ytpcbpimlakehcaa", sum := "311a8013a1da91167e183967ec74afba734ef4d6fb046d291555ab1b5bfea344", func := "casebook/casebooklaw21.ClientTries", spec := "clientTries", unfollowed := true, recurses := true, apart := false, narrowed := true }
def ClientTriesUptoSaid : Prop := clientTriesUptoRow.holds Try.pinned (OpenSpec.upto clientTriesSpec)

/-- 'casebooklaw22.PastPlays', WHERE WHAT IT READS IS OF BULK AT MOST 1048576: true; the input reads as it did. -/
def pastPlaysUptoRow : OpenClaim := { program := "ytpcbpimlakehcaa", sum := "311a8013a1da91167e183967ec74afba734ef4d6fb046d291555ab1b5bfea344", func := "casebook/casebooklaw22.PastPlays", spec := "pastPlays", unfollowed := true, recurses := true, apart := false, narrowed := true }
def PastPlaysUptoSaid : Prop := pastPlaysUptoRow.holds Try.pinned (OpenSpec.upto pastPlaysSpec)

/-- 'casebooklaw22.PastMay', WHERE WHAT IT READS IS OF BULK AT MOST 1048576: true; the input reads as it did. -/
def pastMayUptoRow : OpenClaim := { program := "ytpcbpimlakehcaa", sum := "311a8013a1da91167e183967ec74afba734ef4d6fb046d291555ab1b5bfea344", func := "casebook/casebooklaw22.PastMay", spec := "pastMay", unfollowed := true, recurses := true, apart := false, narrowed := true }
def PastMayUptoSaid : Prop := pastMayUptoRow.holds Try.pinned (OpenSpec.upto pastMaySpec)

/-- 'casebooklaw22.PastFront', WHERE WHAT IT READS IS OF BULK AT MOST 1048576: true; the input reads as it did. -/
def pastFrontUptoRow : OpenClaim := { program := "ytpcbpimlakehcaa", sum := "311a8013a1da91167e183967ec74afba734ef4d6fb046d291555ab1b5bfea344", func := "casebook/casebooklaw22.PastFront", spec := "pastFront", unfollowed := true, recurses := true, apart := false, narrowed := true }
def PastFrontUptoSaid : Prop := pastFrontUptoRow.holds Try.pinned (OpenSpec.upto pastFrontSpec)

/-- 'casebooklaw22.PastNobody', WHERE WHAT IT READS IS OF BULK AT MOST 1048576: true; the input reads as it did. -/
def pastNobodyUptoRow : OpenClaim := { program := "ytpcbpimlakehcaa", sum := "311a8013a1da91167e183967ec74afba734ef4d6fb046d291555ab1b5bfea344", func := "casebook/casebooklaw22.PastNobody", spec := "pastNobody", unfollowed := true, recurses := true, apart := false, narrowed := true }
def PastNobodyUptoSaid : Prop := pastNobodyUptoRow.holds Try.pinned (OpenSpec.upto pastNobodySpec)

/-- 'casebooklaw24.BoundAsks', WHERE WHAT IT READS IS OF BULK AT MOST 1048576: true; the input reads as it did. -/
def boundAsksUptoRow : OpenClaim := { program := "ytpcbpimlakehcaa", sum := "311a8013a1da91167e183967ec74afba734ef4d6fb046d291555ab1b5bfea344", func := "casebook/casebooklaw24.BoundAsks", spec := "boundAsks", apart := false, narrowed := true }
def BoundAsksUptoSaid : Prop := boundAsksUptoRow.holds Try.pinned (OpenSpec.upto boundAsksSpec)

/-- 'casebooklaw24.BoundRoom', WHERE WHAT IT READS IS OF BULK AT MOST 1048576: true; the input reads as it did. -/
def boundRoomUptoRow : OpenClaim := { program := "ytpcbpimlakehcaa", sum := "311a8013a1da91167e183967ec74afba734ef4d6fb046d291555ab1b5bfea344", func := "casebook/casebooklaw24.BoundRoom", spec := "boundRoom", apart := false, narrowed := true }
def BoundRoomUptoSaid : Prop := boundRoomUptoRow.holds Try.pinned (OpenSpec.upto boundRoomSpec)

/-- 'casebooklaw24.BoundGrows', WHERE WHAT IT READS IS OF BULK AT MOST 1048576: true; the input reads as it did. -/
def boundGrowsUptoRow : OpenClaim := { program := "ytpcbpimlakehcaa", sum := "311a8013a1da91167e183967ec74afba734ef4d6fb046d291555ab1b5bfea344", func := "casebook/casebooklaw24.BoundGrows", spec := "boundGrows", apart := false, narrowed := true }
def BoundGrowsUptoSaid : Prop := boundGrowsUptoRow.holds Try.pinned (OpenSpec.upto boundGrowsSpec)

end Rows
end Go.Proofs.Ytpcbpimlakehcaa
