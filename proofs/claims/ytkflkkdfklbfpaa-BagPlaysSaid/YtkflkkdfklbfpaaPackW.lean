/-
  WHAT A WRITER DOES: Num, Text, Yes, Bytes behind any calls, and the reference's Num, Text, Yes; no condition but that the bytes stay below 2^47.
-/
import Derived.Test.YtkflkkdfklbfpaaPackBase
namespace Go.Proofs.Ytkflkkdfklbfpaa
open Go.RowKit

theorem src_one (w : World) (v : Value) (e : TypeId) (h1 : v.oneCell' = true) : Src Try.prog 1 28 (.slice (some ⟨w.heap.size, 0, none⟩) 1 1) 1 [v] (w.alloc (.cells #[v] e)) :=
  Src.ofSlice _ Try.underlying28 ⟨w.heap.size, 0, none⟩ 1 1 [v] rfl
    (by intro j u hj; match j, hj with | 0, hj => simp at hj; subst hj; simp [Addr.add])
    (by intro u hu; simp at hu; subst hu; exact h1)

/-- What an append onto the writer's row leaves of the writer's own block. -/
theorem wrt_grown {w0 w1 : World} {g n : Nat} {v0 : Value} {e0 : TypeId} {xs : List Value} (hb : w0.heap[g]? = some (.cells #[v0] e0 (0, 0))) (hown : w0.ownsRow (g + 1) 5 1 v0 n xs) (hg : w0.grownBy w1 v0.ownBlock) :
    w1.heap[g]? = some (.cells #[v0] e0 (0, 0)) ∧ Below g w0 w1 :=
  ⟨(hg.block g (lt_of_block hb) (fun e => by have := (hown.lt g e.symm).1; omega)).trans hb,
   (Below.refl _ _).grown hg (Nat.le_of_lt (lt_of_block hb)) (fun k hk => by have := (hown.lt k hk).1; omega)⟩

theorem or128_y (y : Nat) : bits .or .u8 ((y : Int) % 256) 128 = ((y % 128 + 128 : Nat) : Int) := by
  rw [Lib.u8_or128_any _ (by omega) (by omega)]
  omega

theorem uvarint_bit (b : Bool) : Lib.uvarint (if b then 1 else 0) = [if b then 1 else 0] := by
  cases b <;> (rw [Lib.uvarint_small (by decide)]; rfl)


/-! ### a writer that is none -/
end Go.Proofs.Ytkflkkdfklbfpaa
