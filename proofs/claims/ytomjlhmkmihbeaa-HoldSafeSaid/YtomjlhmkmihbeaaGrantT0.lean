/-
  A ROW OF INTS that a law writes down. No condition.
-/
import Derived.Test.YtomjlhmkmihbeaaAccV
namespace Go.Proofs.Ytomjlhmkmihbeaa
open Go.RowKit

theorem row_lits (w : World) (L : List Int) (n : Nat) (hn : L.length = n) (hm : n ≤ maxLen) : RowI (w.alloc (.cells (intCells L).toArray 3)) (.slice (some ⟨w.heap.size, 0, none⟩) n n) L := by
  subst hn
  refine ⟨_, _, rfl, Nat.le_refl _, hm, fun e => by simp at e, fun _ => ⟨_, _, _, rfl, heap_alloc_new w _, fun j hj => ?_⟩⟩
  rw [Nat.zero_add, cell_of_row _ _ _ _ _ _ (heap_alloc_new w _), List.getElem?_toArray]
  simp [intCells, hj]
end Go.Proofs.Ytomjlhmkmihbeaa
