/-
  TWO REQUESTS COMPARED; THE LAW's told(): true, whatever the memory. No condition.
-/
import Derived.Test.YtiidmiioegdfaaaItemC
namespace Go.Proofs.Ytiidmiioegdfaaa
open Go.RowKit

theorem ints_two (w : World) (a b : Int) (e : TypeId) : Ints (w.alloc (.cells #[.int .i64 a, .int .i64 b] e)) (w.alloc (.cells #[.int .i64 a, .int .i64 b] e)).heap.size (.slice (some ⟨w.heap.size, 0, none⟩) 2 2) [a, b] := by
  refine ⟨_, _, rfl, Nat.le_refl _, by decide, fun h => (by cases h), fun _ => ⟨w.heap.size, 0, rfl, by simp, fun j hj => ?_⟩⟩
  have hb := heap_alloc_new w (.cells #[.int .i64 a, .int .i64 b] e)
  match j, hj with
  | 0, _ => exact cell_of_two0 hb
  | 1, _ => exact cell_of_two1 hb

def tq : Got := ⟨1, 2, 1, 3, 0, [120]⟩
def tc : GotC := ⟨1, [0, 2]⟩
theorem tq_may : tq.req.may := by decide
theorem tc_may : tc.chain.may := by decide

end Go.Proofs.Ytiidmiioegdfaaa
