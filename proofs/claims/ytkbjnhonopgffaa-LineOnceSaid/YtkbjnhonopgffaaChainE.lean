/-
  THE PROGRAM's CHAIN: turns, With, First, Same. Merged by gen/cat.sh.
-/
import Derived.Test.YtkbjnhonopgffaaChainA
import Derived.Test.YtkbjnhonopgffaaClockV
import Derived.Lib.AppendZeros
/-! ## ChainE -/
/-
  THE PROGRAM's behind; slices.Grow of nil, slices.Concat of two rows of ints. Of rows of at most a thousand.
-/
namespace Go.Proofs.Ytkbjnhonopgffaa
open Go.RowKit

/-- A chain's block, BY ITS TYPE. -/
def ChT (w : World) (b : Nat) (ep : Int) (v : Value) : Prop := w.heap[b]? = some (.cells #[.int .i64 ep, v] 66 (0, 0))
theorem ChT.chB {w : World} {b : Nat} {ep : Int} {v : Value} (h : ChT w b ep v) : ChB w b ep v := ⟨_, h⟩
theorem ChT.lt {w : World} {b : Nat} {ep : Int} {v : Value} (h : ChT w b ep v) : b < w.heap.size := lt_of_block h
theorem ChT.keep {w w' : World} {b B : Nat} {ep : Int} {v : Value} (h : ChT w b ep v) (hb : Below B w w') (hB : b < B) : ChT w' b ep v := (hb.block b hB).trans h
theorem ChT.fresh (w : World) (ep : Int) (v : Value) : ChT (w.alloc (.cells #[.int .i64 ep, v] 66)) w.heap.size ep v := heap_alloc_new w _
theorem ChT.cells {w : World} {b : Nat} {ep : Int} {v : Value} (h : ChT w b ep v) : w.cell? ⟨b, 0, none⟩ = some (.int .i64 ep) ∧ w.cell? ⟨b, 1, none⟩ = some v ∧ w.frozen? ⟨b, 0, none⟩ = false ∧ w.frozen? ⟨b, 1, none⟩ = false := by
  have h' : w.heap[b]? = some (.cells #[.int .i64 ep, v] 66 (0, 0)) := h
  refine ⟨?_, ?_, ?_, ?_⟩ <;> simp [World.cell?, World.frozen?, h']
/-- A chain stored whole. -/
def chW (w : World) (b : Nat) (ep : Int) (v : Value) : World := (w.setCell ⟨b, 0, none⟩ (.int .i64 ep)).setCell ⟨b, 1, none⟩ v
theorem ChT.stored {w : World} {b : Nat} {ep ep' : Int} {v v' : Value} (h : ChT w b ep v) : ChT (chW w b ep' v') b ep' v' ∧ Only (· = b) w (chW w b ep' v') := by
  have h0 : (w.setCell ⟨b, 0, none⟩ (.int .i64 ep')).heap[b]? = some (.cells #[.int .i64 ep', v] 66 (0, 0)) := by rw [heap_setCell_same _ _ _ _ _ _ h]; rfl
  refine ⟨?_, (Only.set b 0 w _).trans (Only.set b 1 _ _)⟩
  show (chW w b ep' v').heap[b]? = _
  unfold chW
  rw [heap_setCell_same _ _ _ _ _ _ h0]
  rfl

theorem info_int12 : (Try.prog.info? 3).map (fun i => (i.zero, i.size, i.bytes)) = some (some (.int .i64 0), 1, 8) := by kernel_rfl

end Go.Proofs.Ytkbjnhonopgffaa

/-! ## ChainF -/
/-
  THE PROGRAM's With, Same, First. Of chains of at most a hundred nodes.
-/
namespace Go.Proofs.Ytkbjnhonopgffaa
open Go.RowKit

theorem rowOn {w w' : World} {base : Nat} {e : TypeId} {size : Nat} {v : Value} {n : Nat} {xs : List Value} (h : w.ownsRow base e size v n xs) (hb : Below w.heap.size w w') : w'.ownsRow base e size v n xs :=
  h.kept (row := none) ⟨hb.os, hb.tape, hb.output, hb.size, fun k hk _ => hb.block k hk⟩ (by cases hv : v.ownBlock with | none => exact .inl rfl | some g => exact .inr (by simp))
theorem own_only {w w' : World} {base b : Nat} {e : TypeId} {size : Nat} {v : Value} {n : Nat} {xs : List Value} (h : w.ownsRow base e size v n xs) (ho : Only (· = b) w w') (hb : b < base) : w'.ownsRow base e size v n xs := by
  refine ⟨h.1, ?_⟩
  rcases h.2 with h0 | ⟨g, cap, cur, rfl, hg, hh, hr⟩
  · exact .inl h0
  · exact .inr ⟨g, cap, cur, rfl, hg, (ho.block g (lt_of_block hh) (fun e => by omega)).trans hh, hr⟩
/-- A chain's box stands. -/
def BoxC (b : Nat) (ep : Int) (v : Value) (u : World) : Prop := u.cell? ⟨b, 0, none⟩ = some (.int .i64 ep) ∧ u.cell? ⟨b, 1, none⟩ = some v
theorem BoxC.on {b : Nat} {ep : Int} {v : Value} {u u' : World} (h : BoxC b ep v u) (hb : Below u.heap.size u u') (hl : b < u.heap.size) : BoxC b ep v u' := ⟨(hb.cell hl).trans h.1, (hb.cell hl).trans h.2⟩

end Go.Proofs.Ytkbjnhonopgffaa

/-! ## ChainG -/
/-
  THE FIRST CHAIN, by the program and by the reference; the program's Same. No condition but, of Same, at most a million nodes.
-/
namespace Go.Proofs.Ytkbjnhonopgffaa
open Go.RowKit

/-- All numbers below one. -/
def firstL (n : Nat) : List Int := (List.range n).map Int.ofNat
theorem firstL_succ (n : Nat) : firstL (n + 1) = firstL n ++ [(n : Int)] := by simp [firstL, List.range_succ, List.map_append]
theorem firstL_length (n : Nat) : (firstL n).length = n := by simp [firstL]

end Go.Proofs.Ytkbjnhonopgffaa
