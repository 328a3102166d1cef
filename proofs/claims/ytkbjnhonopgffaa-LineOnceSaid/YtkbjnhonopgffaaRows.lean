/-
  No cell of these rows narrows 'for every input' (looked for: loops, veiled, ifaces, maps, wideKeys, modest, calm, conditions, laid).
  DERIVED. THE GIVEN ROWS OF THIS SEAT. 8 by the template 'for every input the law returns true; each argument reads behind the call as it read before'; 0 by the template 'total and deterministic' (their statements: YtkbjnhonopgffaaTotals.lean).
  GIVEN WITH THE SEED: the statements are not yours to turn. If you find one false, say at which input.
  Laid BY PROGRAM, IN A SANDBOX (cutbox-rows.mjs): the forced cells as the released guide's own fill.sh prints them over the translation d72fe90c10d08ec1… (all of the seat's roots in one cut). By AI agents, Wed Nov 11 2026. No macro, syntax, notation, axiom, sorry.
-/
import Derived.Test.YtkbjnhonopgffaaChecked
import GoSem.Claim
import GoSem.ClaimJoined
import GoSem.ClaimMapViews
import Derived.JoinedTies
import Derived.KernelRfl
namespace Go.Proofs.Ytkbjnhonopgffaa
/- THE CELL 'sum', in the pinned program and in every row, IS THE sha256 OF THE DUMP (.gsa) THAT YtkbjnhonopgffaaProg.lean LOADS. Nothing in Lean hashes anything: it is a label: what it is worth is what the hold of that sum in a sandbox is worth. -/
noncomputable def Try.pinned : Pinned := { name := "ytkbjnhonopgffaa", sum := "d72fe90c10d08ec1ad7152d78053a278cdeeaeda8d5e52eefddaf6388c909ab0", checked := Try.checked }
namespace Rows
def none {H : Type} : Left H := { results := [], args := [] }

/-- 'casebooklaw18.LineCommits': WHATEVER THE INPUT: true; the input reads as it did. -/
def lineCommitsSpec : ChangeSpec := { name := "lineCommits", fn := fun _ => fun
  | [d1, d2] => { results := [.lit (.bool true)], args := [d1, d2] }
  | _ => none }
def lineCommitsRow : OpenClaim := { program := "ytkbjnhonopgffaa", sum := "d72fe90c10d08ec1ad7152d78053a278cdeeaeda8d5e52eefddaf6388c909ab0", func := "casebook/casebooklaw18.LineCommits", spec := "lineCommits", unfollowed := true, recurses := true, apart := false }
def LineCommitsSaid : Prop := lineCommitsRow.holds Try.pinned (OpenSpec.ofChange lineCommitsSpec)

/-- ITS FALSE NEIGHBOUR: 'it returns false'. Refute it at one input. -/
def lineCommitsWrong : ChangeSpec := { name := "lineCommits", fn := fun _ => fun
  | [d1, d2] => { results := [.lit (.bool false)], args := [d1, d2] }
  | _ => none }
def LineCommitsWrongFalsely : Prop := lineCommitsRow.holds Try.pinned (OpenSpec.ofChange lineCommitsWrong)

/-- 'casebooklaw18.LineNobody': WHATEVER THE INPUT: true; the input reads as it did. -/
def lineNobodySpec : ChangeSpec := { name := "lineNobody", fn := fun _ => fun
  | [d1, d2] => { results := [.lit (.bool true)], args := [d1, d2] }
  | _ => none }
def lineNobodyRow : OpenClaim := { program := "ytkbjnhonopgffaa", sum := "d72fe90c10d08ec1ad7152d78053a278cdeeaeda8d5e52eefddaf6388c909ab0", func := "casebook/casebooklaw18.LineNobody", spec := "lineNobody", unfollowed := true, recurses := true, apart := false }
def LineNobodySaid : Prop := lineNobodyRow.holds Try.pinned (OpenSpec.ofChange lineNobodySpec)

/-- ITS FALSE NEIGHBOUR: 'it returns false'. Refute it at one input. -/
def lineNobodyWrong : ChangeSpec := { name := "lineNobody", fn := fun _ => fun
  | [d1, d2] => { results := [.lit (.bool false)], args := [d1, d2] }
  | _ => none }
def LineNobodyWrongFalsely : Prop := lineNobodyRow.holds Try.pinned (OpenSpec.ofChange lineNobodyWrong)

/-- 'casebooklaw18.LinePlays': WHATEVER THE INPUT: true; the input reads as it did. -/
def linePlaysSpec : ChangeSpec := { name := "linePlays", fn := fun _ => fun
  | [d1, d2] => { results := [.lit (.bool true)], args := [d1, d2] }
  | _ => none }
def linePlaysRow : OpenClaim := { program := "ytkbjnhonopgffaa", sum := "d72fe90c10d08ec1ad7152d78053a278cdeeaeda8d5e52eefddaf6388c909ab0", func := "casebook/casebooklaw18.LinePlays", spec := "linePlays", unfollowed := true, recurses := true, apart := false }
def LinePlaysSaid : Prop := linePlaysRow.holds Try.pinned (OpenSpec.ofChange linePlaysSpec)

/-- ITS FALSE NEIGHBOUR: 'it returns false'. Refute it at one input. -/
def linePlaysWrong : ChangeSpec := { name := "linePlays", fn := fun _ => fun
  | [d1, d2] => { results := [.lit (.bool false)], args := [d1, d2] }
  | _ => none }
def LinePlaysWrongFalsely : Prop := linePlaysRow.holds Try.pinned (OpenSpec.ofChange linePlaysWrong)

/-- 'casebooklaw18.LineFollows': WHATEVER THE INPUT: true; the input reads as it did. -/
def lineFollowsSpec : ChangeSpec := { name := "lineFollows", fn := fun _ => fun
  | [d1, d2] => { results := [.lit (.bool true)], args := [d1, d2] }
  | _ => none }
def lineFollowsRow : OpenClaim := { program := "ytkbjnhonopgffaa", sum := "d72fe90c10d08ec1ad7152d78053a278cdeeaeda8d5e52eefddaf6388c909ab0", func := "casebook/casebooklaw18.LineFollows", spec := "lineFollows", unfollowed := true, recurses := true, apart := false }
def LineFollowsSaid : Prop := lineFollowsRow.holds Try.pinned (OpenSpec.ofChange lineFollowsSpec)

/-- ITS FALSE NEIGHBOUR: 'it returns false'. Refute it at one input. -/
def lineFollowsWrong : ChangeSpec := { name := "lineFollows", fn := fun _ => fun
  | [d1, d2] => { results := [.lit (.bool false)], args := [d1, d2] }
  | _ => none }
def LineFollowsWrongFalsely : Prop := lineFollowsRow.holds Try.pinned (OpenSpec.ofChange lineFollowsWrong)

/-- 'casebooklaw18.LineOwn': WHATEVER THE INPUT: true; the input reads as it did. -/
def lineOwnSpec : ChangeSpec := { name := "lineOwn", fn := fun _ => fun
  | [d1, d2] => { results := [.lit (.bool true)], args := [d1, d2] }
  | _ => none }
def lineOwnRow : OpenClaim := { program := "ytkbjnhonopgffaa", sum := "d72fe90c10d08ec1ad7152d78053a278cdeeaeda8d5e52eefddaf6388c909ab0", func := "casebook/casebooklaw18.LineOwn", spec := "lineOwn", unfollowed := true, recurses := true, apart := false }
def LineOwnSaid : Prop := lineOwnRow.holds Try.pinned (OpenSpec.ofChange lineOwnSpec)

/-- ITS FALSE NEIGHBOUR: 'it returns false'. Refute it at one input. -/
def lineOwnWrong : ChangeSpec := { name := "lineOwn", fn := fun _ => fun
  | [d1, d2] => { results := [.lit (.bool false)], args := [d1, d2] }
  | _ => none }
def LineOwnWrongFalsely : Prop := lineOwnRow.holds Try.pinned (OpenSpec.ofChange lineOwnWrong)

/-- 'casebooklaw18.LineOnce': WHATEVER THE INPUT: true; the input reads as it did. -/
def lineOnceSpec : ChangeSpec := { name := "lineOnce", fn := fun _ => fun
  | [d] => { results := [.lit (.bool true)], args := [d] }
  | _ => none }
def lineOnceRow : OpenClaim := { program := "ytkbjnhonopgffaa", sum := "d72fe90c10d08ec1ad7152d78053a278cdeeaeda8d5e52eefddaf6388c909ab0", func := "casebook/casebooklaw18.LineOnce", spec := "lineOnce", unfollowed := true, recurses := true, apart := false }
def LineOnceSaid : Prop := lineOnceRow.holds Try.pinned (OpenSpec.ofChange lineOnceSpec)

/-- ITS FALSE NEIGHBOUR: 'it returns false'. Refute it at one input. -/
def lineOnceWrong : ChangeSpec := { name := "lineOnce", fn := fun _ => fun
  | [d] => { results := [.lit (.bool false)], args := [d] }
  | _ => none }
def LineOnceWrongFalsely : Prop := lineOnceRow.holds Try.pinned (OpenSpec.ofChange lineOnceWrong)

/-- 'casebooklaw20.RetryAll': WHATEVER THE INPUT: true; the input reads as it did. -/
def retryAllSpec : ChangeSpec := { name := "retryAll", fn := fun _ => fun
  | [d1, d2, d3, d4] => { results := [.lit (.bool true)], args := [d1, d2, d3, d4] }
  | _ => none }
def retryAllRow : OpenClaim := { program := "ytkbjnhonopgffaa", sum := "d72fe90c10d08ec1ad7152d78053a278cdeeaeda8d5e52eefddaf6388c909ab0", func := "casebook/casebooklaw20.RetryAll", spec := "retryAll", unfollowed := true, recurses := true, apart := false }
def RetryAllSaid : Prop := retryAllRow.holds Try.pinned (OpenSpec.ofChange retryAllSpec)

/-- ITS FALSE NEIGHBOUR: 'it returns false'. Refute it at one input. -/
def retryAllWrong : ChangeSpec := { name := "retryAll", fn := fun _ => fun
  | [d1, d2, d3, d4] => { results := [.lit (.bool false)], args := [d1, d2, d3, d4] }
  | _ => none }
def RetryAllWrongFalsely : Prop := retryAllRow.holds Try.pinned (OpenSpec.ofChange retryAllWrong)

/-- 'casebooklaw20.RetryFirst': WHATEVER THE INPUT: true; the input reads as it did. -/
def retryFirstSpec : ChangeSpec := { name := "retryFirst", fn := fun _ => fun
  | [d1, d2, d3] => { results := [.lit (.bool true)], args := [d1, d2, d3] }
  | _ => none }
def retryFirstRow : OpenClaim := { program := "ytkbjnhonopgffaa", sum := "d72fe90c10d08ec1ad7152d78053a278cdeeaeda8d5e52eefddaf6388c909ab0", func := "casebook/casebooklaw20.RetryFirst", spec := "retryFirst", unfollowed := true, recurses := true, apart := false }
def RetryFirstSaid : Prop := retryFirstRow.holds Try.pinned (OpenSpec.ofChange retryFirstSpec)

/-- ITS FALSE NEIGHBOUR: 'it returns false'. Refute it at one input. -/
def retryFirstWrong : ChangeSpec := { name := "retryFirst", fn := fun _ => fun
  | [d1, d2, d3] => { results := [.lit (.bool false)], args := [d1, d2, d3] }
  | _ => none }
def RetryFirstWrongFalsely : Prop := retryFirstRow.holds Try.pinned (OpenSpec.ofChange retryFirstWrong)

/- THE SECOND FORM. 'bulk': how many values and letters a reading holds, each counted each time it is reached (what is shared counts as often as it is met; a slice's spare places count too). A statement '..UptoSaid' is the law's where the arguments, and the package variables that the reading takes, are together of bulk at most 1048576: NARROWER than '..Said'. Prove '..Said' where nothing that the law and all that it calls make is longer than what came in: it says more and counts as full. Else prove '..UptoSaid'. A law counts once. -/
mutual
def uptoBulk {H : Type} : DataW H → Nat
  | .lit (.string bytes) => bytes.length + 1
  | .lit _ => 1
  | .nil => 1
  | .ptr d => uptoBulk d + 1
  | .slice elems spare => uptoBulkAll elems + uptoBulkAll spare + 1
  | .agg parts => uptoBulkAll parts + 1
  | .iface _ d => uptoBulk d + 1
  | .map entries => uptoBulkEntries entries + 1
  | .held _ => 1
def uptoBulkAll {H : Type} : List (DataW H) → Nat
  | [] => 0
  | d :: r => uptoBulk d + uptoBulkAll r
def uptoBulkEntries {H : Type} : List (Lit × DataW H) → Nat
  | [] => 0
  | x :: r => uptoBulkEntry x + uptoBulkEntries r
def uptoBulkEntry {H : Type} : Lit × DataW H → Nat
  | (.string bytes, d) => bytes.length + uptoBulk d + 1
  | (_, d) => uptoBulk d + 1
 end
def uptoSmall : (H : Type) → List (DataW H) → Bool := fun _ ds => decide (uptoBulkAll ds ≤ 1048576)
def OpenSpec.upto (s : _root_.Go.ChangeSpec) : _root_.Go.OpenSpec := { _root_.Go.OpenSpec.ofChange s with cond := some uptoSmall }

/-- 'casebooklaw18.LineCommits', WHERE WHAT IT READS IS OF BULK AT MOST 1048576: true; the input reads as it did. -/
def lineCommitsUptoRow : OpenClaim := { program := "ytkbjnhonopgffaa", sum := "d72fe90c10d08ec1ad7152d78053a278cdeeaeda8d5e52eefddaf6388c909ab0", func := "casebook/casebooklaw18.LineCommits", spec := "lineCommits", unfollowed := true, recurses := true, apart := false, narrowed := true }
def LineCommitsUptoSaid : Prop := lineCommitsUptoRow.holds Try.pinned (OpenSpec.upto lineCommitsSpec)

/-- 'casebooklaw18.LineNobody', WHERE WHAT IT READS IS OF BULK AT MOST 1048576: true; the input reads as it did. -/
def lineNobodyUptoRow : OpenClaim := { program := "ytkbjnhonopgffaa", sum := "d72fe90c10d08ec1ad7152d78053a278cdeeaeda8d5e52eefddaf6388c909ab0", func := "casebook/casebooklaw18.LineNobody", spec := "lineNobody", unfollowed := true, recurses := true, apart := false, narrowed := true }
def LineNobodyUptoSaid : Prop := lineNobodyUptoRow.holds Try.pinned (OpenSpec.upto lineNobodySpec)

/-- 'casebooklaw18.LinePlays', WHERE WHAT IT READS IS OF BULK AT MOST 1048576: true; the input reads as it did. -/
def linePlaysUptoRow : OpenClaim := { program := "ytkbjnhonopgffaa", sum := "d72fe90c10d08ec1ad7152d78053a278cdeeaeda8d5e52eefddaf6388c909ab0", func := "casebook/casebooklaw18.LinePlays", spec := "linePlays", unfollowed := true, recurses := true, apart := false, narrowed := true }
def LinePlaysUptoSaid : Prop := linePlaysUptoRow.holds Try.pinned (OpenSpec.upto linePlaysSpec)

/-- 'casebooklaw18.LineFollows', WHERE WHAT IT READS IS OF BULK AT MOST 1048576: true; the input reads as it did. -/
def lineFollowsUptoRow : OpenClaim := { program := "ytkbjnhonopgffaa", sum := "d72fe90c10d08ec1ad7152d78053a278cdeeaeda8d5e52eefddaf6388c909ab0", func := "casebook/casebooklaw18.LineFollows", spec := "lineFollows", unfollowed := true, recurses := true, apart := false, narrowed := true }
def LineFollowsUptoSaid : Prop := lineFollowsUptoRow.holds Try.pinned (OpenSpec.upto lineFollowsSpec)

/-- 'casebooklaw18.LineOwn', WHERE WHAT IT READS IS OF BULK AT MOST 1048576: true; the input reads as it did. -/
def lineOwnUptoRow : OpenClaim := { program := "ytkbjnhonopgffaa", sum := "d72fe90c10d08ec1ad7152d78053a278cdeeaeda8d5e52eefddaf6388c909ab0", func := "casebook/casebooklaw18.LineOwn", spec := "lineOwn", unfollowed := true, recurses := true, apart := false, narrowed := true }
def LineOwnUptoSaid : Prop := lineOwnUptoRow.holds Try.pinned (OpenSpec.upto lineOwnSpec)

/-- 'casebooklaw18.LineOnce', WHERE WHAT IT READS IS OF BULK AT MOST 1048576: true; the input reads as it did. -/
def lineOnceUptoRow : OpenClaim := { program := "ytkbjnhonopgffaa", sum := "d72fe90c10d08ec1ad7152d78053a278cdeeaeda8d5e52eefddaf6388c909ab0", func := "casebook/casebooklaw18.LineOnce", spec := "lineOnce", unfollowed := true, recurses := true, apart := false, narrowed := true }
def LineOnceUptoSaid : Prop := lineOnceUptoRow.holds Try.pinned (OpenSpec.upto lineOnceSpec)

/-- 'casebooklaw20.RetryAll', WHERE WHAT IT READS IS OF BULK AT MOST 1048576: true; the input reads as it did. -/
def retryAllUptoRow : OpenClaim := { program := "ytkbjnhonopgffaa", sum := "d72fe90c10d08ec1ad7152d78053a278cdeeaeda8d5e52eefddaf6388c909ab0", func := "casebook/casebooklaw20.RetryAll", spec := "retryAll", unfollowed := true, recurses := true, apart := false, narrowed := true }
def RetryAllUptoSaid : Prop := retryAllUptoRow.holds Try.pinned (OpenSpec.upto retryAllSpec)

/-- 'casebooklaw20.RetryFirst', WHERE WHAT IT READS IS OF BULK AT MOST 1048576: true; the input reads as it did. -/
def retryFirstUptoRow : OpenClaim := { program := "ytkbjnhonopgffaa", sum := "d72fe90c10d08ec1ad7152d78053a278cdeeaeda8d5e52eefddaf6388c909ab0", func := "casebook/casebooklaw20.RetryFirst", spec := "retryFirst", unfollowed := true, recurses := true, apart := false, narrowed := true }
def RetryFirstUptoSaid : Prop := retryFirstUptoRow.holds Try.pinned (OpenSpec.upto retryFirstSpec)

end Rows
end Go.Proofs.Ytkbjnhonopgffaa
