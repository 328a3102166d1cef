/-
  No cell of these rows narrows 'for every input' (looked for: loops, veiled, ifaces, maps, wideKeys, modest, calm, conditions, laid).
  DERIVED. THE GIVEN ROWS OF THIS SEAT. 5 by the template 'for every input the law returns true; each argument reads behind the call as it read before'; 0 by the template 'total and deterministic' (their statements: YtnliadnpoledmaaTotals.lean).
  GIVEN WITH THE SEED: the statements are not yours to turn. If you find one false, say at which input.
  Laid BY PROGRAM, IN A SANDBOX (cutbox-rows.mjs): the forced cells as the released guide's own fill.sh prints them over the translation c33dbe96a6f542d8… (all of the seat's roots in one cut). By AI agents, Wed Nov 11 2026. No macro, syntax, notation, axiom, sorry.
-/
import Derived.Test.YtnliadnpoledmaaChecked
import GoSem.Claim
import GoSem.ClaimJoined
import GoSem.ClaimMapViews
import Derived.JoinedTies
import Derived.KernelRfl
namespace Go.Proofs.Ytnliadnpoledmaa
/- THE CELL 'sum', in the pinned program and in every row, IS THE sha256 OF THE DUMP (.gsa) THAT YtnliadnpoledmaaProg.lean LOADS. Nothing in Lean hashes anything: it is a label: what it is worth is what the hold of that sum in a sandbox is worth. -/
noncomputable def Try.pinned : Pinned := { name := "ytnliadnpoledmaa", sum := "c33dbe96a6f542d8a3e53f0c319ef070abdad6d6578a7700847fe67e2040a987", checked := Try.checked }
namespace Rows
def none {H : Type} : Left H := { results := [], args := [] }

/-- 'casebooklaw12.ChainFirsts': WHATEVER THE INPUT: true; the input reads as it did. -/
def chainFirstsSpec : ChangeSpec := { name := "chainFirsts", fn := fun _ => fun
  | [d1, d2] => { results := [.lit (.bool true)], args := [d1, d2] }
  | _ => none }
def chainFirstsRow : OpenClaim := { program := "ytnliadnpoledmaa", sum := "c33dbe96a6f542d8a3e53f0c319ef070abdad6d6578a7700847fe67e2040a987", func := "casebook/casebooklaw12.ChainFirsts", spec := "chainFirsts", unfollowed := true, recurses := true, apart := false }
def ChainFirstsSaid : Prop := chainFirstsRow.holds Try.pinned (OpenSpec.ofChange chainFirstsSpec)

/-- ITS FALSE NEIGHBOUR: 'it returns false'. Refute it at one input. -/
def chainFirstsWrong : ChangeSpec := { name := "chainFirsts", fn := fun _ => fun
  | [d1, d2] => { results := [.lit (.bool false)], args := [d1, d2] }
  | _ => none }
def ChainFirstsWrongFalsely : Prop := chainFirstsRow.holds Try.pinned (OpenSpec.ofChange chainFirstsWrong)

/-- 'casebooklaw12.ChainAsks': WHATEVER THE INPUT: true; the input reads as it did. -/
def chainAsksSpec : ChangeSpec := { name := "chainAsks", fn := fun _ => fun
  | [d1, d2, d3, d4] => { results := [.lit (.bool true)], args := [d1, d2, d3, d4] }
  | _ => none }
def chainAsksRow : OpenClaim := { program := "ytnliadnpoledmaa", sum := "c33dbe96a6f542d8a3e53f0c319ef070abdad6d6578a7700847fe67e2040a987", func := "casebook/casebooklaw12.ChainAsks", spec := "chainAsks", unfollowed := true, recurses := true, apart := false }
def ChainAsksSaid : Prop := chainAsksRow.holds Try.pinned (OpenSpec.ofChange chainAsksSpec)

/-- ITS FALSE NEIGHBOUR: 'it returns false'. Refute it at one input. -/
def chainAsksWrong : ChangeSpec := { name := "chainAsks", fn := fun _ => fun
  | [d1, d2, d3, d4] => { results := [.lit (.bool false)], args := [d1, d2, d3, d4] }
  | _ => none }
def ChainAsksWrongFalsely : Prop := chainAsksRow.holds Try.pinned (OpenSpec.ofChange chainAsksWrong)

/-- 'casebooklaw12.ChainTurns': WHATEVER THE INPUT: true; the input reads as it did. -/
def chainTurnsSpec : ChangeSpec := { name := "chainTurns", fn := fun _ => fun
  | [d1, d2, d3] => { results := [.lit (.bool true)], args := [d1, d2, d3] }
  | _ => none }
def chainTurnsRow : OpenClaim := { program := "ytnliadnpoledmaa", sum := "c33dbe96a6f542d8a3e53f0c319ef070abdad6d6578a7700847fe67e2040a987", func := "casebook/casebooklaw12.ChainTurns", spec := "chainTurns", unfollowed := true, recurses := true, apart := false }
def ChainTurnsSaid : Prop := chainTurnsRow.holds Try.pinned (OpenSpec.ofChange chainTurnsSpec)

/-- ITS FALSE NEIGHBOUR: 'it returns false'. Refute it at one input. -/
def chainTurnsWrong : ChangeSpec := { name := "chainTurns", fn := fun _ => fun
  | [d1, d2, d3] => { results := [.lit (.bool false)], args := [d1, d2, d3] }
  | _ => none }
def ChainTurnsWrongFalsely : Prop := chainTurnsRow.holds Try.pinned (OpenSpec.ofChange chainTurnsWrong)

/-- 'casebooklaw12.ChainKeeps': WHATEVER THE INPUT: true; the input reads as it did. -/
def chainKeepsSpec : ChangeSpec := { name := "chainKeeps", fn := fun _ => fun
  | [d1, d2, d3] => { results := [.lit (.bool true)], args := [d1, d2, d3] }
  | _ => none }
def chainKeepsRow : OpenClaim := { program := "ytnliadnpoledmaa", sum := "c33dbe96a6f542d8a3e53f0c319ef070abdad6d6578a7700847fe67e2040a987", func := "casebook/casebooklaw12.ChainKeeps", spec := "chainKeeps", unfollowed := true, recurses := true, apart := false }
def ChainKeepsSaid : Prop := chainKeepsRow.holds Try.pinned (OpenSpec.ofChange chainKeepsSpec)

/-- ITS FALSE NEIGHBOUR: 'it returns false'. Refute it at one input. -/
def chainKeepsWrong : ChangeSpec := { name := "chainKeeps", fn := fun _ => fun
  | [d1, d2, d3] => { results := [.lit (.bool false)], args := [d1, d2, d3] }
  | _ => none }
def ChainKeepsWrongFalsely : Prop := chainKeepsRow.holds Try.pinned (OpenSpec.ofChange chainKeepsWrong)

/-- 'casebooklaw12.ChainWithout': WHATEVER THE INPUT: true; the input reads as it did. -/
def chainWithoutSpec : ChangeSpec := { name := "chainWithout", fn := fun _ => fun
  | [d1, d2] => { results := [.lit (.bool true)], args := [d1, d2] }
  | _ => none }
def chainWithoutRow : OpenClaim := { program := "ytnliadnpoledmaa", sum := "c33dbe96a6f542d8a3e53f0c319ef070abdad6d6578a7700847fe67e2040a987", func := "casebook/casebooklaw12.ChainWithout", spec := "chainWithout", unfollowed := true, recurses := true, apart := false }
def ChainWithoutSaid : Prop := chainWithoutRow.holds Try.pinned (OpenSpec.ofChange chainWithoutSpec)

/-- ITS FALSE NEIGHBOUR: 'it returns false'. Refute it at one input. -/
def chainWithoutWrong : ChangeSpec := { name := "chainWithout", fn := fun _ => fun
  | [d1, d2] => { results := [.lit (.bool false)], args := [d1, d2] }
  | _ => none }
def ChainWithoutWrongFalsely : Prop := chainWithoutRow.holds Try.pinned (OpenSpec.ofChange chainWithoutWrong)

/- THE SECOND FORM. 'bulk': how many values and letters a reading holds, each counted each time it is reached (what is shared counts as often as it is met; a slice's spare places count too). A statement '..UptoSaid' is the law's where the arguments, and the package variables that the reading takes, are together of bulk at most 1048576: NARROWER than '..Said'. Prove '..Said' where nothing that the law and all that it calls make is longer than what came in: it says more and counts as full. Else prove '..UptoSaid'. A law counts once. -/
mutual
def uptoBulk {H : Type} : DataW H → Nat
  | .lit (.string bytes) => bytes.length + 1
  | .lit _ => 1
  | .nil => 1
  | .ptr d => uptoBulk d + 1
  | .slice elems spare => uptoBulkAll elems + uptoBulkAll spare + 1
  | .agg parts => uptoBulkAll parts + 1
  | .iface _ d => uptoBulk d + 1
  | .map entries => uptoBulkEntries entries + 1
  | .held _ => 1
def uptoBulkAll {H : Type} : List (DataW H) → Nat
  | [] => 0
  | d :: r => uptoBulk d + uptoBulkAll r
def uptoBulkEntries {H : Type} : List (Lit × DataW H) → Nat
  | [] => 0
  | x :: r => uptoBulkEntry x + uptoBulkEntries r
def uptoBulkEntry {H : Type} : Lit × DataW H → Nat
  | (.string bytes, d) => bytes.length + uptoBulk d + 1
  | (_, d) => uptoBulk d + 1
 end
def uptoSmall : (H : Type) → List (DataW H) → Bool := fun _ ds => decide (uptoBulkAll ds ≤ 1048576)
def OpenSpec.upto (s : _root_.Go.ChangeSpec) : _root_.Go.OpenSpec := { _root_.Go.OpenSpec.ofChange s with cond := some uptoSmall }

/-- 'casebooklaw12.ChainFirsts', WHERE WHAT IT READS IS OF BULK AT MOST 1048576: true; the input reads as it did. -/
def chainFirstsUptoRow : OpenClaim := { program := "ytnliadnpoledmaa", sum := "c33dbe96a6f542d8a3e53f0c319ef070abdad6d6578a7700847fe67e2040a987", func := "casebook/casebooklaw12.ChainFirsts", spec := "chainFirsts", unfollowed := true, recurses := true, apart := false, narrowed := true }
def ChainFirstsUptoSaid : Prop := chainFirstsUptoRow.holds Try.pinned (OpenSpec.upto chainFirstsSpec)

/-- 'casebooklaw12.ChainAsks', WHERE WHAT IT READS IS OF BULK AT MOST 1048576: true; the input reads as it did. -/
def chainAsksUptoRow : OpenClaim := { program := "ytnliadnpoledmaa", sum := "c33dbe96a6f542d8a3e53f0c319ef070abdad6d6578a7700847fe67e2040a987", func := "casebook/casebooklaw12.ChainAsks", spec := "chainAsks", unfollowed := true, recurses := true, apart := false, narrowed := true }
def ChainAsksUptoSaid : Prop := chainAsksUptoRow.holds Try.pinned (OpenSpec.upto chainAsksSpec)

/-- 'casebooklaw12.ChainTurns', WHERE WHAT IT READS IS OF BULK AT MOST 1048576: true; the input reads as it did. -/
def chainTurnsUptoRow : OpenClaim := { program := "ytnliadnpoledmaa", sum := "c33dbe96a6f542d8a3e53f0c319ef070abdad6d6578a7700847fe67e2040a987", func := "casebook/casebooklaw12.ChainTurns", spec := "chainTurns", unfollowed := true, recurses := true, apart := false, narrowed := true }
def ChainTurnsUptoSaid : Prop := chainTurnsUptoRow.holds Try.pinned (OpenSpec.upto chainTurnsSpec)

/-- 'casebooklaw12.ChainKeeps', WHERE WHAT IT READS IS OF BULK AT MOST 1048576: true; the input reads as it did. -/
def chainKeepsUptoRow : OpenClaim := { program := "ytnliadnpoledmaa", sum := "c33dbe96a6f542d8a3e53f0c319ef070abdad6d6578a7700847fe67e2040a987", func := "casebook/casebooklaw12.ChainKeeps", spec := "chainKeeps", unfollowed := true, recurses := true, apart := false, narrowed := true }
def ChainKeepsUptoSaid : Prop := chainKeepsUptoRow.holds Try.pinned (OpenSpec.upto chainKeepsSpec)

/-- 'casebooklaw12.ChainWithout', WHERE WHAT IT READS IS OF BULK AT MOST 1048576: true; the input reads as it did. -/
def chainWithoutUptoRow : OpenClaim := { program := "ytnliadnpoledmaa", sum := "c33dbe96a6f542d8a3e53f0c319ef070abdad6d6578a7700847fe67e2040a987", func := "casebook/casebooklaw12.ChainWithout", spec := "chainWithout", unfollowed := true, recurses := true, apart := false, narrowed := true }
def ChainWithoutUptoSaid : Prop := chainWithoutUptoRow.holds Try.pinned (OpenSpec.upto chainWithoutSpec)

end Rows
end Go.Proofs.Ytnliadnpoledmaa
