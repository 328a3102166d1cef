/-
  THE LAWS' told(): true, whatever the memory. No condition.
-/
import Derived.Test.YtenjjgghoacboaaReqA
namespace Go.Proofs.Ytenjjgghoacboaa
open Go.RowKit

theorem ints_one (w : World) (a : Int) (e : TypeId) : Ints (w.alloc (.cells #[.int .i64 a] e)) (w.alloc (.cells #[.int .i64 a] e)).heap.size (.slice (some ⟨w.heap.size, 0, none⟩) 1 1) [a] := by
  refine ⟨_, _, rfl, Nat.le_refl _, by decide, fun h => (by cases h), fun _ => ⟨w.heap.size, 0, rfl, by simp, fun j hj => ?_⟩⟩
  obtain rfl : j = 0 := by simp at hj; exact hj
  rw [cell_of_row _ _ 0 _ _ _ (heap_alloc_new w (.cells #[.int .i64 a] e))]
  rfl

theorem ints_zero (w : World) (B : Nat) (a : Addr) : Ints w B (.slice (some a) 0 0) [] :=
  ⟨_, _, rfl, Nat.le_refl _, Nat.zero_le _, fun h => (by cases h), fun h => absurd rfl h⟩

end Go.Proofs.Ytenjjgghoacboaa
