/-
  THE PROGRAM's getNode, getList, GetChain: the chain that the bytes are, or none. No condition but lengths.
-/
import Derived.Test.YtnliadnpoledmaaItemCMath
import Derived.Test.YtnliadnpoledmaaItemGet
namespace Go.Proofs.Ytnliadnpoledmaa
open Go.RowKit

theorem info_int : (Try.prog.info? 3).map (fun i => (i.zero, i.size, i.bytes)) = some (some (.int .i64 0), 1, 8) := by kernel_rfl

theorem src_one_int (w : World) (v : Value) (e : TypeId) (h1 : v.oneCell' = true) : Src Try.prog 1 22 (.slice (some ⟨w.heap.size, 0, none⟩) 1 1) 1 [v] (w.alloc (.cells #[v] e)) :=
  Src.ofSlice _ Try.underlying22 ⟨w.heap.size, 0, none⟩ 1 1 [v] rfl
    (by intro j u hj; match j, hj with | 0, hj => simp at hj; subst hj; simp [Addr.add])
    (by intro u hu; simp at hu; subst hu; exact h1)

/-- The numbers as ints. -/
def ofNats (L : List Nat) : List Int := L.map fun (n : Nat) => (n : Int)

/-- The reader behind k steps of the list. -/
def rAt (M : Nat) : Nat → Option (List UInt8) → Option (List UInt8)
  | 0, st => st
  | k + 1, st => rAt M k (rNum M st).2
/-- The list step by step from the left. -/
theorem rList_snoc (M : Nat) : ∀ (k : Nat) (st : Option (List UInt8)), rList M (k + 1) st = ((rList M k st).1 ++ [(rNum M (rList M k st).2).1], (rNum M (rList M k st).2).2) := by
  intro k
  induction k with
  | zero => intro st; rfl
  | succ k ih =>
    intro st
    have h := ih (rNum M st).2
    show ((rNum M st).1 :: (rList M (k + 1) (rNum M st).2).1, (rList M (k + 1) (rNum M st).2).2) = _
    rw [h]
    rfl
theorem rList_len (M : Nat) (b : Nat) : ∀ (k : Nat) (st : Option (List UInt8)), (∀ l, st = some l → l.length ≤ b) → ∀ l, (rList M k st).2 = some l → l.length ≤ b := by
  intro k
  induction k with
  | zero => intro st h l hl; exact h l hl
  | succ k ih => intro st h l hl; exact ih _ (rNum_len2 M st b h) l hl

theorem below_grown2 {w w' : World} (h : Below w.heap.size w w') : w.grownBy w' none := ⟨h.os, h.tape, h.output, h.size, fun k hk _ => h.block k hk⟩
theorem grown_mix {a b c : World} {h : Nat} {row : Option Nat} (h1 : a.grownBy b (some h)) (h2 : b.grownBy c row) (hr : ∀ g, row = some g → a.heap.size ≤ g) : a.grownBy c (some h) :=
  ⟨h2.os.trans h1.os, h2.tape.trans h1.tape, h2.output.trans h1.output, Nat.le_trans h1.size h2.size, fun k hk hne =>
    (h2.block k (Nat.lt_of_lt_of_le hk h1.size) (fun e => by have := hr k e.symm; omega)).trans (h1.block k hk hne)⟩

end Go.Proofs.Ytnliadnpoledmaa
