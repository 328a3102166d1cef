/-
  WHAT THE PROGRAM TELLS OF A FEW CLOCKS. No condition.
-/
import Derived.Test.YtaaffceanjpmbaaClockF
namespace Go.Proofs.Ytaaffceanjpmbaa
open Go.RowKit

theorem ints_lit (u : World) (L : List Int) (h : L.length ≤ maxLen) : Ints (u.alloc (.cells (intCells L).toArray 3)) (u.heap.size + 1) (.slice (some ⟨u.heap.size, 0, none⟩) L.length L.length) L := by
  refine ⟨_, _, rfl, Nat.le_refl _, h, fun e => (by cases e), fun _ => ⟨_, _, rfl, by omega, fun j hj => ?_⟩⟩
  have hb := heap_alloc_new u (.cells (intCells L).toArray 3)
  rw [cell_of_row _ _ _ _ _ _ hb]
  simp [intCells, hj]

def t1 : CkS := tickS 2 .zero 0
def t2 : CkS := tickS 2 t1 0
def t3 : CkS := tickS 2 t2 1
def t4 : CkS := roundS 2 t3
theorem t2_stay : tickS 2 t2 0 = t2 := rfl
theorem t2_round : roundS 2 t2 = t2 := rfl
theorem t1_le : t1.upto 1 := upto_zero.tick 0
theorem t2_le : t2.upto 2 := t1_le.tick 0
theorem t4_at : t4.f 0 = 2 ∧ t4.f 1 = 1 := ⟨rfl, rfl⟩

end Go.Proofs.Ytaaffceanjpmbaa
