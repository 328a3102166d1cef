/-
  No cell of these rows narrows 'for every input' (looked for: loops, veiled, ifaces, maps, wideKeys, modest, calm, conditions, laid).
  DERIVED. THE GIVEN ROWS OF THIS SEAT. 5 by the template 'for every input the law returns true; each argument reads behind the call as it read before'; 0 by the template 'total and deterministic' (their statements: YtiidmiioegdfaaaTotals.lean).
  GIVEN WITH THE SEED: the statements are not yours to turn. If you find one false, say at which input.
  Laid BY PROGRAM, IN A SANDBOX (cutbox-rows.mjs): the forced cells as the released guide's own fill.sh prints them over the translation 7e8d413f96b6d1d4… (all of the seat's roots in one cut). By AI agents, Wed Nov 11 2026. No macro, syntax, notation, axiom, sorry.
-/
import Derived.Test.YtiidmiioegdfaaaChecked
import GoSem.Claim
import GoSem.ClaimJoined
import GoSem.ClaimMapViews
import Derived.JoinedTies
import Derived.KernelRfl
namespace Go.Proofs.Ytiidmiioegdfaaa
/- THE CELL 'sum', in the pinned program and in every row, IS THE sha256 OF THE DUMP (.gsa) THAT YtiidmiioegdfaaaProg.lean LOADS. Nothing in Lean hashes anything: it is a label: what it is worth is what the hold of that sum in a sandbox is worth. -/
noncomputable def Try.pinned : Pinned := { name := "ytiidmiioegdfaaa", sum := "7e8d413f96b6d1d4b986c468e40ca36adb4de5ace285b592f86d6c8fb1b0ebd8", checked := Try.checked }
namespace Rows
def none {H : Type} : Left H := { results := [], args := [] }

/-- 'casebooklaw14.TallyPlays': WHATEVER THE INPUT: true; the input reads as it did. -/
def tallyPlaysSpec : ChangeSpec := { name := "tallyPlays", fn := fun _ => fun
  | [d1, d2, d3, d4] => { results := [.lit (.bool true)], args := [d1, d2, d3, d4] }
  | _ => none }
def tallyPlaysRow : OpenClaim := { program := "ytiidmiioegdfaaa", sum := "7e8d413f96b6d1d4b986c468e40ca36adb4de5ace285b592f86d6c8fb1b0ebd8", func := "casebook/casebooklaw14.TallyPlays", spec := "tallyPlays", unfollowed := true, recurses := true, apart := false }
def TallyPlaysSaid : Prop := tallyPlaysRow.holds Try.pinned (OpenSpec.ofChange tallyPlaysSpec)

/-- ITS FALSE NEIGHBOUR: 'it returns false'. Refute it at one input. -/
def tallyPlaysWrong : ChangeSpec := { name := "tallyPlays", fn := fun _ => fun
  | [d1, d2, d3, d4] => { results := [.lit (.bool false)], args := [d1, d2, d3, d4] }
  | _ => none }
def TallyPlaysWrongFalsely : Prop := tallyPlaysRow.holds Try.pinned (OpenSpec.ofChange tallyPlaysWrong)

/-- 'casebooklaw14.TallyMajorities': WHATEVER THE INPUT: true; the input reads as it did. -/
def tallyMajoritiesSpec : ChangeSpec := { name := "tallyMajorities", fn := fun _ => fun
  | [d1, d2, d3] => { results := [.lit (.bool true)], args := [d1, d2, d3] }
  | _ => none }
def tallyMajoritiesRow : OpenClaim := { program := "ytiidmiioegdfaaa", sum := "7e8d413f96b6d1d4b986c468e40ca36adb4de5ace285b592f86d6c8fb1b0ebd8", func := "casebook/casebooklaw14.TallyMajorities", spec := "tallyMajorities", unfollowed := true, recurses := true, apart := false }
def TallyMajoritiesSaid : Prop := tallyMajoritiesRow.holds Try.pinned (OpenSpec.ofChange tallyMajoritiesSpec)

/-- ITS FALSE NEIGHBOUR: 'it returns false'. Refute it at one input. -/
def tallyMajoritiesWrong : ChangeSpec := { name := "tallyMajorities", fn := fun _ => fun
  | [d1, d2, d3] => { results := [.lit (.bool false)], args := [d1, d2, d3] }
  | _ => none }
def TallyMajoritiesWrongFalsely : Prop := tallyMajoritiesRow.holds Try.pinned (OpenSpec.ofChange tallyMajoritiesWrong)

/-- 'casebooklaw14.TallyOne': WHATEVER THE INPUT: true; the input reads as it did. -/
def tallyOneSpec : ChangeSpec := { name := "tallyOne", fn := fun _ => fun
  | [d] => { results := [.lit (.bool true)], args := [d] }
  | _ => none }
def tallyOneRow : OpenClaim := { program := "ytiidmiioegdfaaa", sum := "7e8d413f96b6d1d4b986c468e40ca36adb4de5ace285b592f86d6c8fb1b0ebd8", func := "casebook/casebooklaw14.TallyOne", spec := "tallyOne", unfollowed := true, recurses := true, apart := false }
def TallyOneSaid : Prop := tallyOneRow.holds Try.pinned (OpenSpec.ofChange tallyOneSpec)

/-- ITS FALSE NEIGHBOUR: 'it returns false'. Refute it at one input. -/
def tallyOneWrong : ChangeSpec := { name := "tallyOne", fn := fun _ => fun
  | [d] => { results := [.lit (.bool false)], args := [d] }
  | _ => none }
def TallyOneWrongFalsely : Prop := tallyOneRow.holds Try.pinned (OpenSpec.ofChange tallyOneWrong)

/-- 'casebooklaw14.TallyBest': WHATEVER THE INPUT: true; the input reads as it did. -/
def tallyBestSpec : ChangeSpec := { name := "tallyBest", fn := fun _ => fun
  | [d1, d2] => { results := [.lit (.bool true)], args := [d1, d2] }
  | _ => none }
def tallyBestRow : OpenClaim := { program := "ytiidmiioegdfaaa", sum := "7e8d413f96b6d1d4b986c468e40ca36adb4de5ace285b592f86d6c8fb1b0ebd8", func := "casebook/casebooklaw14.TallyBest", spec := "tallyBest", unfollowed := true, recurses := true, apart := false }
def TallyBestSaid : Prop := tallyBestRow.holds Try.pinned (OpenSpec.ofChange tallyBestSpec)

/-- ITS FALSE NEIGHBOUR: 'it returns false'. Refute it at one input. -/
def tallyBestWrong : ChangeSpec := { name := "tallyBest", fn := fun _ => fun
  | [d1, d2] => { results := [.lit (.bool false)], args := [d1, d2] }
  | _ => none }
def TallyBestWrongFalsely : Prop := tallyBestRow.holds Try.pinned (OpenSpec.ofChange tallyBestWrong)

/-- 'casebooklaw14.TallyNobody': WHATEVER THE INPUT: true; the input reads as it did. -/
def tallyNobodySpec : ChangeSpec := { name := "tallyNobody", fn := fun _ => fun
  | [d] => { results := [.lit (.bool true)], args := [d] }
  | _ => none }
def tallyNobodyRow : OpenClaim := { program := "ytiidmiioegdfaaa", sum := "7e8d413f96b6d1d4b986c468e40ca36adb4de5ace285b592f86d6c8fb1b0ebd8", func := "casebook/casebooklaw14.TallyNobody", spec := "tallyNobody", unfollowed := true, recurses := true, apart := false }
def TallyNobodySaid : Prop := tallyNobodyRow.holds Try.pinned (OpenSpec.ofChange tallyNobodySpec)

/-- ITS FALSE NEIGHBOUR: 'it returns false'. Refute it at one input. -/
def tallyNobodyWrong : ChangeSpec := { name := "tallyNobody", fn := fun _ => fun
  | [d] => { results := [.lit (.bool false)], args := [d] }
  | _ => none }
def TallyNobodyWrongFalsely : Prop := tallyNobodyRow.holds Try.pinned (OpenSpec.ofChange tallyNobodyWrong)

/- THE SECOND FORM. 'bulk': how many values and letters a reading holds, each counted each time it is reached (what is shared counts as often as it is met; a slice's spare places count too). A statement '..UptoSaid' is the law's where the arguments, and the package variables that the reading takes, are together of bulk at most 1048576: NARROWER than '..Said'. Prove '..Said' where nothing that the law and all that it calls make is longer than what came in: it says more and counts as full. Else prove '..UptoSaid'. A law counts once. -/
mutual
def uptoBulk {H : Type} : DataW H → Nat
  | .lit (.string bytes) => bytes.length + 1
  | .lit _ => 1
  | .nil => 1
  | .ptr d => uptoBulk d + 1
  | .slice elems spare => uptoBulkAll elems + uptoBulkAll spare + 1
  | .agg parts => uptoBulkAll parts + 1
  | .iface _ d => uptoBulk d + 1
  | .map entries => uptoBulkEntries entries + 1
  | .held _ => 1
def uptoBulkAll {H : Type} : List (DataW H) → Nat
  | [] => 0
  | d :: r => uptoBulk d + uptoBulkAll r
def uptoBulkEntries {H : Type} : List (Lit × DataW H) → Nat
  | [] => 0
  | x :: r => uptoBulkEntry x + uptoBulkEntries r
def uptoBulkEntry {H : Type} : Lit × DataW H → Nat
  | (.string bytes, d) => bytes.length + uptoBulk d + 1
  | (_, d) => uptoBulk d + 1
 end
def uptoSmall : (H : Type) → List (DataW H) → Bool := fun _ ds => decide (uptoBulkAll ds ≤ 1048576)
def OpenSpec.upto (s : _root_.Go.ChangeSpec) : _root_.Go.OpenSpec := { _root_.Go.OpenSpec.ofChange s with cond := some uptoSmall }

/-- 'casebooklaw14.TallyPlays', WHERE WHAT IT READS IS OF BULK AT MOST 1048576: true; the input reads as it did. -/
def tallyPlaysUptoRow : OpenClaim := { program := "ytiidmiioegdfaaa", sum := "7e8d413f96b6d1d4b986c468e40ca36adb4de5ace285b592f86d6c8fb1b0ebd8", func := "casebook/casebooklaw14.TallyPlays", spec := "tallyPlays", unfollowed := true, recurses := true, apart := false, narrowed := true }
def TallyPlaysUptoSaid : Prop := tallyPlaysUptoRow.holds Try.pinned (OpenSpec.upto tallyPlaysSpec)

/-- 'casebooklaw14.TallyMajorities', WHERE WHAT IT READS IS OF BULK AT MOST 1048576: true; the input reads as it did. -/
def tallyMajoritiesUptoRow : OpenClaim := { program := "ytiidmiioegdfaaa", sum := "7e8d413f96b6d1d4b986c468e40ca36adb4de5ace285b592f86d6c8fb1b0ebd8", func := "casebook/casebooklaw14.TallyMajorities", spec := "tallyMajorities", unfollowed := true, recurses := true, apart := false, narrowed := true }
def TallyMajoritiesUptoSaid : Prop := tallyMajoritiesUptoRow.holds Try.pinned (OpenSpec.upto tallyMajoritiesSpec)

/-- 'casebooklaw14.TallyOne', WHERE WHAT IT READS IS OF BULK AT MOST 1048576: true; the input reads as it did. -/
def tallyOneUptoRow : OpenClaim := { program := "ytiidmiioegdfaaa", sum := "7e8d413f96b6d1d4b986c468e40ca36adb4de5ace285b592f86d6c8fb1b0ebd8", func := "casebook/casebooklaw14.TallyOne", spec := "tallyOne", unfollowed := true, recurses := true, apart := false, narrowed := true }
def TallyOneUptoSaid : Prop := tallyOneUptoRow.holds Try.pinned (OpenSpec.upto tallyOneSpec)

/-- 'casebooklaw14.TallyBest', WHERE WHAT IT READS IS OF BULK AT MOST 1048576: true; the input reads as it did. -/
def tallyBestUptoRow : OpenClaim := { program := "ytiidmiioegdfaaa", sum := "7e8d413f96b6d1d4b986c468e40ca36adb4de5ace285b592f86d6c8fb1b0ebd8", func := "casebook/casebooklaw14.TallyBest", spec := "tallyBest", unfollowed := true, recurses := true, apart := false, narrowed := true }
def TallyBestUptoSaid : Prop := tallyBestUptoRow.holds Try.pinned (OpenSpec.upto tallyBestSpec)

/-- 'casebooklaw14.TallyNobody', WHERE WHAT IT READS IS OF BULK AT MOST 1048576: true; the input reads as it did. -/
def tallyNobodyUptoRow : OpenClaim := { program := "ytiidmiioegdfaaa", sum := "7e8d413f96b6d1d4b986c468e40ca36adb4de5ace285b592f86d6c8fb1b0ebd8", func := "casebook/casebooklaw14.TallyNobody", spec := "tallyNobody", unfollowed := true, recurses := true, apart := false, narrowed := true }
def TallyNobodyUptoSaid : Prop := tallyNobodyUptoRow.holds Try.pinned (OpenSpec.upto tallyNobodySpec)

end Rows
end Go.Proofs.Ytiidmiioegdfaaa
