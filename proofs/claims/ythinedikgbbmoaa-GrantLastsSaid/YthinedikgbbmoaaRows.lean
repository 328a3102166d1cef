/-
  No cell of these rows narrows 'for every input' (looked for: loops, veiled, ifaces, maps, wideKeys, modest, calm, conditions, laid).
  DERIVED. THE GIVEN ROWS OF THIS SEAT. 3 by the template 'for every input the law returns true; each argument reads behind the call as it read before'; 0 by the template 'total and deterministic' (their statements: YthinedikgbbmoaaTotals.lean).
  GIVEN WITH THE SEED: the statements are not yours to turn. If you find one false, say at which input.
  Laid BY PROGRAM, IN A SANDBOX (cutbox-rows.mjs): the forced cells as the released guide's own fill.sh prints them over the translation d8838b6afb74bd39… (all of the seat's roots in one cut). By AI agents, Wed Nov 11 2026. No macro, syntax, notation, axiom, sorry.
-/
import Derived.Test.YthinedikgbbmoaaChecked
import GoSem.Claim
import GoSem.ClaimJoined
import GoSem.ClaimMapViews
import Derived.JoinedTies
import Derived.KernelRfl
namespace Go.Proofs.Ythinedikgbbmoaa
/- THE CELL 'sum', in the pinned program and in every row, IS THE sha256 OF THE DUMP (.gsa) THAT YthinedikgbbmoaaProg.lean LOADS. Nothing in Lean hashes anything: it is a label: what it is worth is what the hold of that sum in a sandbox is worth. -/
noncomputable def Try.pinned : Pinned := { name := "ythinedikgbbmoaa", sum := "d8838b6afb74bd39e29a19219e32f0776134a01d542a248905f32d09ccdc0347", checked := Try.checked }
namespace Rows
def none {H : Type} : Left H := { results := [], args := [] }

/-- 'casebooklaw15.GrantLasts': WHATEVER THE INPUT: true; the input reads as it did. -/
def grantLastsSpec : ChangeSpec := { name := "grantLasts", fn := fun _ => fun
  | [d1, d2, d3] => { results := [.lit (.bool true)], args := [d1, d2, d3] }
  | _ => none }
def grantLastsRow : OpenClaim := { program := "ythinedikgbbmoaa", sum := "d8838b6afb74bd39e29a19219e32f0776134a01d542a248905f32d09ccdc0347", func := "casebook/casebooklaw15.GrantLasts", spec := "grantLasts", unfollowed := true, recurses := true, apart := false }
def GrantLastsSaid : Prop := grantLastsRow.holds Try.pinned (OpenSpec.ofChange grantLastsSpec)

/-- ITS FALSE NEIGHBOUR: 'it returns false'. Refute it at one input. -/
def grantLastsWrong : ChangeSpec := { name := "grantLasts", fn := fun _ => fun
  | [d1, d2, d3] => { results := [.lit (.bool false)], args := [d1, d2, d3] }
  | _ => none }
def GrantLastsWrongFalsely : Prop := grantLastsRow.holds Try.pinned (OpenSpec.ofChange grantLastsWrong)

/-- 'casebooklaw15.GrantNobody': WHATEVER THE INPUT: true; the input reads as it did. -/
def grantNobodySpec : ChangeSpec := { name := "grantNobody", fn := fun _ => fun
  | [d1, d2] => { results := [.lit (.bool true)], args := [d1, d2] }
  | _ => none }
def grantNobodyRow : OpenClaim := { program := "ythinedikgbbmoaa", sum := "d8838b6afb74bd39e29a19219e32f0776134a01d542a248905f32d09ccdc0347", func := "casebook/casebooklaw15.GrantNobody", spec := "grantNobody", unfollowed := true, recurses := true, apart := false }
def GrantNobodySaid : Prop := grantNobodyRow.holds Try.pinned (OpenSpec.ofChange grantNobodySpec)

/-- ITS FALSE NEIGHBOUR: 'it returns false'. Refute it at one input. -/
def grantNobodyWrong : ChangeSpec := { name := "grantNobody", fn := fun _ => fun
  | [d1, d2] => { results := [.lit (.bool false)], args := [d1, d2] }
  | _ => none }
def GrantNobodyWrongFalsely : Prop := grantNobodyRow.holds Try.pinned (OpenSpec.ofChange grantNobodyWrong)

/-- 'casebooklaw15.GrantBegins': WHATEVER THE INPUT: true; the input reads as it did. -/
def grantBeginsSpec : ChangeSpec := { name := "grantBegins", fn := fun _ => fun
  | [d1, d2, d3] => { results := [.lit (.bool true)], args := [d1, d2, d3] }
  | _ => none }
def grantBeginsRow : OpenClaim := { program := "ythinedikgbbmoaa", sum := "d8838b6afb74bd39e29a19219e32f0776134a01d542a248905f32d09ccdc0347", func := "casebook/casebooklaw15.GrantBegins", spec := "grantBegins", unfollowed := true, recurses := true, apart := false }
def GrantBeginsSaid : Prop := grantBeginsRow.holds Try.pinned (OpenSpec.ofChange grantBeginsSpec)

/-- ITS FALSE NEIGHBOUR: 'it returns false'. Refute it at one input. -/
def grantBeginsWrong : ChangeSpec := { name := "grantBegins", fn := fun _ => fun
  | [d1, d2, d3] => { results := [.lit (.bool false)], args := [d1, d2, d3] }
  | _ => none }
def GrantBeginsWrongFalsely : Prop := grantBeginsRow.holds Try.pinned (OpenSpec.ofChange grantBeginsWrong)

/- THE SECOND FORM. 'bulk': how many values and letters a reading holds, each counted each time it is reached (what is shared counts as often as it is met; a slice's spare places count too). A statement '..UptoSaid' is the law's where the arguments, and the package variables that the reading takes, are together of bulk at most 1048576: NARROWER than '..Said'. Prove '..Said' where nothing that the law and all that it calls make is longer than what came in: it says more and counts as full. Else prove '..UptoSaid'. A law counts once. -/
mutual
def uptoBulk {H : Type} : DataW H → Nat
  | .lit (.string bytes) => bytes.length + 1
  | .lit _ => 1
  | .nil => 1
  | .ptr d => uptoBulk d + 1
  | .slice elems spare => uptoBulkAll elems + uptoBulkAll spare + 1
  | .agg parts => uptoBulkAll parts + 1
  | .iface _ d => uptoBulk d + 1
  | .map entries => uptoBulkEntries entries + 1
  | .held _ => 1
def uptoBulkAll {H : Type} : List (DataW H) → Nat
  | [] => 0
  | d :: r => uptoBulk d + uptoBulkAll r
def uptoBulkEntries {H : Type} : List (Lit × DataW H) → Nat
  | [] => 0
  | x :: r => uptoBulkEntry x + uptoBulkEntries r
def uptoBulkEntry {H : Type} : Lit × DataW H → Nat
  | (.string bytes, d) => bytes.length + uptoBulk d + 1
  | (_, d) => uptoBulk d + 1
 end
def uptoSmall : (H : Type) → List (DataW H) → Bool := fun _ ds => decide (uptoBulkAll ds ≤ 1048576)
def OpenSpec.upto (s : _root_.Go.ChangeSpec) : _root_.Go.OpenSpec := { _root_.Go.OpenSpec.ofChange s with cond := some uptoSmall }

/-- 'casebooklaw15.GrantLasts', WHERE WHAT IT READS IS OF BULK AT MOST 1048576: true; the input reads as it did. -/
def grantLastsUptoRow : OpenClaim := { program := "ythinedikgbbmoaa", sum := "d8838b6afb74bd39e29a19219e32f0776134a01d542a248905f32d09ccdc0347", func := "casebook/casebooklaw15.GrantLasts", spec := "grantLasts", unfollowed := true, recurses := true, apart := false, narrowed := true }
def GrantLastsUptoSaid : Prop := grantLastsUptoRow.holds Try.pinned (OpenSpec.upto grantLastsSpec)

/-- 'casebooklaw15.GrantNobody', WHERE WHAT IT READS IS OF BULK AT MOST 1048576: true; the input reads as it did. -/
def grantNobodyUptoRow : OpenClaim := { program := "ythinedikgbbmoaa", sum := "d8838b6afb74bd39e29a19219e32f0776134a01d542a248905f32d09ccdc0347", func := "casebook/casebooklaw15.GrantNobody", spec := "grantNobody", unfollowed := true, recurses := true, apart := false, narrowed := true }
def GrantNobodyUptoSaid : Prop := grantNobodyUptoRow.holds Try.pinned (OpenSpec.upto grantNobodySpec)

/-- 'casebooklaw15.GrantBegins', WHERE WHAT IT READS IS OF BULK AT MOST 1048576: true; the input reads as it did. -/
def grantBeginsUptoRow : OpenClaim := { program := "ythinedikgbbmoaa", sum := "d8838b6afb74bd39e29a19219e32f0776134a01d542a248905f32d09ccdc0347", func := "casebook/casebooklaw15.GrantBegins", spec := "grantBegins", unfollowed := true, recurses := true, apart := false, narrowed := true }
def GrantBeginsUptoSaid : Prop := grantBeginsUptoRow.holds Try.pinned (OpenSpec.upto grantBeginsSpec)

end Rows
end Go.Proofs.Ythinedikgbbmoaa
