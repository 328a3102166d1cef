/-
  TWO REQUESTS COMPARED; THE LAW's told(): true, whatever the memory. No condition.
-/
import Derived.Test.YtpcbpimlakehcaaItemC
namespace Go.Proofs.Ytpcbpimlakehcaa
open Go.RowKit

set_option maxHeartbeats 1000000 in
theorem run_eq_req (cl sq kd id mt cl' sq' kd' id' mt' : Int) (dt dt' : ByteArray) (w : World) :
    (binOp .eql 33 (.agg #[.int .i64 cl, .int .i64 sq, .int .i64 kd, .int .i64 id, .int .i64 mt, .string dt]) (.agg #[.int .i64 cl', .int .i64 sq', .int .i64 kd', .int .i64 id', .int .i64 mt', .string dt'])).run Try.prog w =
      .ok (.bool (cl == cl' && sq == sq' && kd == kd' && id == id' && mt == mt' && dt.toList == dt'.toList)) w := by
  rw [run_eql_struct, run_equalIn_agg _ _ _ _ _ (by kernel_rfl) (by kernel_rfl)]
  simp [Program.fieldsOf, Try.underlying33, Op.eqFields, go_sem]
  repeat' split
  all_goals simp_all

theorem run_eq_same (cl sq kd id mt : Int) (dt : ByteArray) (w : World) :
    (binOp .eql 33 (.agg #[.int .i64 cl, .int .i64 sq, .int .i64 kd, .int .i64 id, .int .i64 mt, .string dt]) (.agg #[.int .i64 cl, .int .i64 sq, .int .i64 kd, .int .i64 id, .int .i64 mt, .string dt])).run Try.prog w =
      .ok (.bool true) w := by
  rw [run_eq_req]
  simp

theorem ints_two (w : World) (a b : Int) (e : TypeId) : Ints (w.alloc (.cells #[.int .i64 a, .int .i64 b] e)) (w.alloc (.cells #[.int .i64 a, .int .i64 b] e)).heap.size (.slice (some ⟨w.heap.size, 0, none⟩) 2 2) [a, b] := by
  refine ⟨_, _, rfl, Nat.le_refl _, by decide, fun h => (by cases h), fun _ => ⟨w.heap.size, 0, rfl, by simp, fun j hj => ?_⟩⟩
  have hb := heap_alloc_new w (.cells #[.int .i64 a, .int .i64 b] e)
  match j, hj with
  | 0, _ => exact cell_of_two0 hb
  | 1, _ => exact cell_of_two1 hb

def tq : Got := ⟨1, 2, 1, 3, 0, [120]⟩
def tc : GotC := ⟨1, [0, 2]⟩
theorem tq_may : tq.req.may := by decide
theorem tc_may : tc.chain.may := by decide

end Go.Proofs.Ytpcbpimlakehcaa
