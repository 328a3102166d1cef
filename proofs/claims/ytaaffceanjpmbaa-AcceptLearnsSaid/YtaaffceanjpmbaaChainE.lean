/-
  THE PROGRAM's behind; slices.Grow of nil, slices.Concat of two rows of ints. Of rows of at most a thousand.
-/
import Derived.Test.YtaaffceanjpmbaaChainC
import Derived.Test.YtaaffceanjpmbaaClockW
import Derived.Lib.AppendZeros
namespace Go.Proofs.Ytaaffceanjpmbaa
open Go.RowKit

/-- A chain's block, BY ITS TYPE. -/
def ChT (w : World) (b : Nat) (ep : Int) (v : Value) : Prop := w.heap[b]? = some (.cells #[.int .i64 ep, v] 28 (0, 0))
theorem ChT.chB {w : World} {b : Nat} {ep : Int} {v : Value} (h : ChT w b ep v) : ChB w b ep v := ⟨_, h⟩
theorem ChT.lt {w : World} {b : Nat} {ep : Int} {v : Value} (h : ChT w b ep v) : b < w.heap.size := lt_of_block h
theorem ChT.keep {w w' : World} {b B : Nat} {ep : Int} {v : Value} (h : ChT w b ep v) (hb : Below B w w') (hB : b < B) : ChT w' b ep v := (hb.block b hB).trans h
theorem ChT.fresh (w : World) (ep : Int) (v : Value) : ChT (w.alloc (.cells #[.int .i64 ep, v] 28)) w.heap.size ep v := heap_alloc_new w _
theorem ChT.cells {w : World} {b : Nat} {ep : Int} {v : Value} (h : ChT w b ep v) : w.cell? ⟨b, 0, none⟩ = some (.int .i64 ep) ∧ w.cell? ⟨b, 1, none⟩ = some v ∧ w.frozen? ⟨b, 0, none⟩ = false ∧ w.frozen? ⟨b, 1, none⟩ = false := by
  have h' : w.heap[b]? = some (.cells #[.int .i64 ep, v] 28 (0, 0)) := h
  refine ⟨?_, ?_, ?_, ?_⟩ <;> simp [World.cell?, World.frozen?, h']
/-- A chain stored whole. -/
def chW (w : World) (b : Nat) (ep : Int) (v : Value) : World := (w.setCell ⟨b, 0, none⟩ (.int .i64 ep)).setCell ⟨b, 1, none⟩ v
theorem ChT.stored {w : World} {b : Nat} {ep ep' : Int} {v v' : Value} (h : ChT w b ep v) : ChT (chW w b ep' v') b ep' v' ∧ Only (· = b) w (chW w b ep' v') := by
  have h0 : (w.setCell ⟨b, 0, none⟩ (.int .i64 ep')).heap[b]? = some (.cells #[.int .i64 ep', v] 28 (0, 0)) := by rw [heap_setCell_same _ _ _ _ _ _ h]; rfl
  refine ⟨?_, (Only.set b 0 w _).trans (Only.set b 1 _ _)⟩
  show (chW w b ep' v').heap[b]? = _
  unfold chW
  rw [heap_setCell_same _ _ _ _ _ _ h0]
  rfl

theorem info_int12 : (Try.prog.info? 3).map (fun i => (i.zero, i.size, i.bytes)) = some (some (.int .i64 0), 1, 8) := by kernel_rfl

end Go.Proofs.Ytaaffceanjpmbaa
