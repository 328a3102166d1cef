/-
  THE PROGRAM's CHAIN: turns, With, First, Same. Merged by gen/cat.sh.
-/
import Derived.Test.YtenjjgghoacboaaChainA
import Derived.Test.YtenjjgghoacboaaClockV
import Derived.Lib.AppendZeros
/-! ## ChainE -/
/-
  THE PROGRAM's behind; slices.Grow of nil, slices.Concat of two rows of ints. Of rows of at most a thousand.
-/
namespace Go.Proofs.Ytenjjgghoacboaa
open Go.RowKit

/-- A chain stored whole. -/
def chW (w : World) (b : Nat) (ep : Int) (v : Value) : World := (w.setCell ⟨b, 0, none⟩ (.int .i64 ep)).setCell ⟨b, 1, none⟩ v
theorem info_int12 : (Try.prog.info? 3).map (fun i => (i.zero, i.size, i.bytes)) = some (some (.int .i64 0), 1, 8) := by kernel_rfl

end Go.Proofs.Ytenjjgghoacboaa

/-! ## ChainF -/
/-
  THE PROGRAM's With, Same, First. Of chains of at most a hundred nodes.
-/
namespace Go.Proofs.Ytenjjgghoacboaa
open Go.RowKit

theorem rowOn {w w' : World} {base : Nat} {e : TypeId} {size : Nat} {v : Value} {n : Nat} {xs : List Value} (h : w.ownsRow base e size v n xs) (hb : Below w.heap.size w w') : w'.ownsRow base e size v n xs :=
  h.kept (row := none) ⟨hb.os, hb.tape, hb.output, hb.size, fun k hk _ => hb.block k hk⟩ (by cases hv : v.ownBlock with | none => exact .inl rfl | some g => exact .inr (by simp))
theorem own_only {w w' : World} {base b : Nat} {e : TypeId} {size : Nat} {v : Value} {n : Nat} {xs : List Value} (h : w.ownsRow base e size v n xs) (ho : Only (· = b) w w') (hb : b < base) : w'.ownsRow base e size v n xs := by
  refine ⟨h.1, ?_⟩
  rcases h.2 with h0 | ⟨g, cap, cur, rfl, hg, hh, hr⟩
  · exact .inl h0
  · exact .inr ⟨g, cap, cur, rfl, hg, (ho.block g (lt_of_block hh) (fun e => by omega)).trans hh, hr⟩
/-- A chain's box stands. -/
def BoxC (b : Nat) (ep : Int) (v : Value) (u : World) : Prop := u.cell? ⟨b, 0, none⟩ = some (.int .i64 ep) ∧ u.cell? ⟨b, 1, none⟩ = some v
theorem BoxC.on {b : Nat} {ep : Int} {v : Value} {u u' : World} (h : BoxC b ep v u) (hb : Below u.heap.size u u') (hl : b < u.heap.size) : BoxC b ep v u' := ⟨(hb.cell hl).trans h.1, (hb.cell hl).trans h.2⟩

end Go.Proofs.Ytenjjgghoacboaa

/-! ## ChainG -/
/-
  THE FIRST CHAIN, by the program and by the reference; the program's Same. No condition but, of Same, at most a million nodes.
-/
namespace Go.Proofs.Ytenjjgghoacboaa
open Go.RowKit

/-- All numbers below one. -/
def firstL (n : Nat) : List Int := (List.range n).map Int.ofNat
theorem firstL_succ (n : Nat) : firstL (n + 1) = firstL n ++ [(n : Int)] := by simp [firstL, List.range_succ, List.map_append]
theorem firstL_length (n : Nat) : (firstL n).length = n := by simp [firstL]

end Go.Proofs.Ytenjjgghoacboaa
