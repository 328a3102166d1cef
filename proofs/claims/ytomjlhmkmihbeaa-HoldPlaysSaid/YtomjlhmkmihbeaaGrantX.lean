/-
  A ROW OF NUMBERS WHOSE SLICE HAS ROOM BEHIND IT (the reference's own rows). No condition.
-/
import Derived.Test.YtomjlhmkmihbeaaClockV
namespace Go.Proofs.Ytomjlhmkmihbeaa
open Go.RowKit

/-- Block b begins with so many numbers. -/
def RowX (w : World) (b n : Nat) (f : Nat → Nat) : Prop := ∃ cur : Array Value, w.heap[b]? = some (.cells cur 3 (0, 0)) ∧ ∀ j, j < n → cur[j]? = some (.int .i64 (f j : Nat))
section
variable {w w' : World} {b n : Nat} {f : Nat → Nat}
theorem RowX.lt (H : RowX w b n f) : b < w.heap.size := by obtain ⟨_, h, _⟩ := H; exact lt_of_block h
theorem RowX.cell (H : RowX w b n f) {j : Nat} (hj : j < n) : w.cell? ⟨b, j, none⟩ = some (.int .i64 (f j : Nat)) ∧ w.frozen? ⟨b, j, none⟩ = false := by
  obtain ⟨cur, h, hc⟩ := H
  exact ⟨by rw [cell_of_row _ _ _ _ _ _ h]; exact hc j hj, by simp [World.frozen?, h]⟩
theorem RowX.keep {S : Nat → Prop} (H : RowX w b n f) (ho : Only S w w') (hs : ¬ S b) : RowX w' b n f := by
  obtain ⟨cur, h, hc⟩ := H
  exact ⟨cur, (ho.block b (lt_of_block h) hs).trans h, hc⟩
theorem RowX.on (H : RowX w b n f) (hb : Below w.heap.size w w') : RowX w' b n f := H.keep (S := fun _ => False) (.of hb) (fun h => h)
theorem RowX.set (H : RowX w b n f) (k v : Nat) : RowX (w.setCell ⟨b, k, none⟩ (.int .i64 (v : Nat))) b n (upF f k v) := by
  obtain ⟨cur, h, hc⟩ := H
  refine ⟨_, heap_setCell_same _ _ _ _ _ _ h, fun j hj => ?_⟩
  have hl : j < cur.size := by
    have := hc j hj
    exact (Array.getElem?_eq_some_iff.1 this).1
  rw [Array.getElem?_setIfInBounds]
  by_cases e : k = j
  · subst e
    simp [hl, upF]
  · rw [if_neg e, hc j hj, upF_other _ (Ne.symm e)]
theorem RowX.kind (H : RowX w b n f) {x : Nat} {cs : Array Value} {T : TypeId} (h : w.heap[x]? = some (.cells cs T (0, 0))) (hT : T ≠ 3) : b ≠ x := fun e => by
  obtain ⟨cur, h', _⟩ := H
  rw [e, h] at h'
  simp only [Option.some.injEq, Obj.cells.injEq] at h'
  exact hT h'.2.1
theorem RowX.own {base : Nat} {a : Nat} {c : Nat} {L : List Int} (h : w.ownsRow base 3 1 (.slice (some ⟨a, 0, none⟩) n c) n (intCells L)) (hf : ∀ j, j < n → L[j]? = some ((f j : Nat) : Int)) : RowX w a n f := by
  obtain ⟨hl, ⟨h1, _⟩ | ⟨g, cap, cur, h1, _, hg, _, _, hcs, ht⟩⟩ := h
  · simp at h1
  · simp only [Value.slice.injEq, Option.some.injEq, Addr.mk.injEq] at h1
    obtain ⟨⟨rfl, _, _⟩, _, rfl⟩ := h1
    refine ⟨cur, hg, fun j hj => ?_⟩
    have h2 : (cur.toList.take (n * 1))[j]? = (intCells L)[j]? := by rw [ht]
    rw [List.getElem?_take, if_pos (by omega)] at h2
    rw [← Array.getElem?_toList, h2]
    simp [intCells, hf j hj]
end
end Go.Proofs.Ytomjlhmkmihbeaa
