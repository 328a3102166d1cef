/-
  WHAT A WRITER DOES: Num, Text, Yes, Bytes behind any calls, and the reference's Num, Text, Yes; no condition but that the bytes stay below 2^47.
-/
import Derived.Test.YtnliadnpoledmaaPackBase
namespace Go.Proofs.Ytnliadnpoledmaa
open Go.RowKit

/-- What an append onto the writer's row leaves of the writer's own block. -/
theorem wrt_grown {w0 w1 : World} {g n : Nat} {v0 : Value} {e0 : TypeId} {xs : List Value} (hb : w0.heap[g]? = some (.cells #[v0] e0 (0, 0))) (hown : w0.ownsRow (g + 1) 5 1 v0 n xs) (hg : w0.grownBy w1 v0.ownBlock) :
    w1.heap[g]? = some (.cells #[v0] e0 (0, 0)) ∧ Below g w0 w1 :=
  ⟨(hg.block g (lt_of_block hb) (fun e => by have := (hown.lt g e.symm).1; omega)).trans hb,
   (Below.refl _ _).grown hg (Nat.le_of_lt (lt_of_block hb)) (fun k hk => by have := (hown.lt k hk).1; omega)⟩

theorem or128_y (y : Nat) : bits .or .u8 ((y : Int) % 256) 128 = ((y % 128 + 128 : Nat) : Int) := by
  rw [Lib.u8_or128_any _ (by omega) (by omega)]
  omega

theorem uvarint_bit (b : Bool) : Lib.uvarint (if b then 1 else 0) = [if b then 1 else 0] := by
  cases b <;> (rw [Lib.uvarint_small (by decide)]; rfl)


/-! ### a writer that is none -/
end Go.Proofs.Ytnliadnpoledmaa
