/-
  THE REFERENCE's MayReq AND Writes, as plain functions of a request. No condition but that the request can be read.
-/
import Derived.Test.YtichojlijhnlpaaItemMayR
namespace Go.Proofs.Ytichojlijhnlpaa
open Go.RowKit

set_option maxHeartbeats 1000000 in
theorem refwrites_r (cl sq kd id mt : Int) (dt : ByteArray) (R : Bool) (HR : Hid (R = decide (1 ≤ kd ∧ kd ≤ 3))) (w : World) :
    Calls Try.prog 23 #[.agg #[.int .i64 cl, .int .i64 sq, .int .i64 kd, .int .i64 id, .int .i64 mt, .string dt]] w fun e w' => e = .returned (.bool R) ∧ Below w.heap.size w w' := by
  by_cases h1 : kd = 1
  · obtain rfl : R = true := by rw [HR.out]; exact decide_eq_true (by omega)
    subst h1
    clear HR
    go_enter Try.func23, Try.ntmps23
    go_wp2
    go_returns
    exact ⟨rfl, by first | exact (Below.refl _ _).alloc (Nat.le_refl _) _ | go_grown⟩
  by_cases h2 : kd = 2
  · obtain rfl : R = true := by rw [HR.out]; exact decide_eq_true (by omega)
    subst h2
    clear HR h1
    go_enter Try.func23, Try.ntmps23
    go_wp2
    go_returns
    exact ⟨rfl, by first | exact (Below.refl _ _).alloc (Nat.le_refl _) _ | go_grown⟩
  have b1 : (kd == 1) = false := beq_eq_false_iff_ne.2 h1
  have b2 : (kd == 2) = false := beq_eq_false_iff_ne.2 h2
  have hr : R = (kd == 3) := by
    rw [HR.out, Bool.eq_iff_iff]
    simp
    omega
  subst hr
  clear HR h1 h2
  go_enter Try.func23, Try.ntmps23
  go_wp2
  go_returns
  exact ⟨ret_bool (by first | rfl | (rw [Bool.eq_iff_iff]; simp)), by first | exact (Below.refl _ _).alloc (Nat.le_refl _) _ | go_grown⟩
end Go.Proofs.Ytichojlijhnlpaa
