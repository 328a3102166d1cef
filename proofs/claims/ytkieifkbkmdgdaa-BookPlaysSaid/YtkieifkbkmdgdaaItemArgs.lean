/-
  A REQUEST, A CHAIN THAT CAME IN, as plain data. No condition.
-/
import Derived.Test.YtkieifkbkmdgdaaPackArgs
import Derived.Test.YtkieifkbkmdgdaaItemT
import Derived.Deep.Slices
import Derived.Deep.Fields
import Derived.SizedLaws
namespace Go.Proofs.Ytkieifkbkmdgdaa
open Go.ChangeShapes Go.WideShapes Go.ChangeAt Go.RowKit

theorem cells_int : Try.prog.cellsOf 3 = 1 := by kernel_rfl
theorem cells_string : Try.prog.cellsOf 9 = 1 := by kernel_rfl
theorem cells_ints : Try.prog.cellsOf 26 = 1 := by kernel_rfl
theorem ints_row {W : World} {a : Addr} {len cap : Nat} {zs : List Int} (hl : len ≤ cap) (hm : cap ≤ maxLen) (hz : zs.length = cap) (hcell : ∀ i, i < zs.length → W.cell? (a.add i) = some (.int .i64 (zs.getD i 0))) :
    ∃ L, L.length = len ∧ Ints W W.heap.size (.slice (some a) len cap) L := by
  have hlen : (zs.take len).length = len := by rw [List.length_take]; omega
  refine ⟨zs.take len, hlen, some a, cap, by rw [hlen], by omega, hm, fun e => by simp at e, fun hne => ?_⟩
  have hpos : 0 < len := by
    rcases Nat.eq_zero_or_pos len with h | h
    · subst h; exact absurd (by simp) hne
    · exact h
  obtain ⟨b, off, rfl, hc⟩ := ints_at hcell (by omega)
  refine ⟨b, off, rfl, World.block_lt_of_cell? _ _ (hc 0 (by omega)), fun j hj => ?_⟩
  rw [hlen] at hj
  rw [hc j (by omega)]
  have : (zs.take len).getD j 0 = zs.getD j 0 := by simp [List.getD, hj]
  rw [this]

end Go.Proofs.Ytkieifkbkmdgdaa
