/-
  THE REFERENCE's MayReq AND Writes, as plain functions of a request. No condition but that the request can be read.
-/
import Derived.Test.YtpcbpimlakehcaaItemMay
namespace Go.Proofs.Ytpcbpimlakehcaa
open Go.RowKit

set_option maxHeartbeats 1000000 in
set_option maxRecDepth 100000 in
theorem refmay_empty1 (cl sq id mt : Int) (g0 : 0 ≤ cl) (g1 : cl < 4) (g2 : 1 ≤ sq) (g3 : sq ≤ 1073741824) (g6 : 0 ≤ id) (g7 : id ≤ 31) (g9 : 0 ≤ mt) (g10 : mt ≤ 100) (w : World) :
    Calls Try.prog 50 #[.agg #[.int .i64 cl, .int .i64 sq, .int .i64 1, .int .i64 id, .int .i64 mt, .string ⟨#[]⟩]] w fun e w' => e = .returned (.bool (decide (mt = 0))) ∧ Below w.heap.size w w' := by
  go_enter Try.func50, Try.ntmps50
  go_wp2
  go_returns
  exact ⟨ret_bool (by first | rfl | (rw [Bool.eq_iff_iff]; simp)), by first | exact (Below.refl _ _).alloc (Nat.le_refl _) _ | go_grown⟩

set_option maxHeartbeats 1000000 in
set_option maxRecDepth 100000 in
theorem refmay_full1 (cl sq id mt : Int) (dt : ByteArray) (hf : dt.toList.isEmpty = false) (g8 : dt.size ≤ 64) (g0 : 0 ≤ cl) (g1 : cl < 4) (g2 : 1 ≤ sq) (g3 : sq ≤ 1073741824) (g6 : 0 ≤ id) (g7 : id ≤ 31) (g9 : 0 ≤ mt) (g10 : mt ≤ 100) (w : World) :
    Calls Try.prog 50 #[.agg #[.int .i64 cl, .int .i64 sq, .int .i64 1, .int .i64 id, .int .i64 mt, .string dt]] w fun e w' => e = .returned (.bool (decide (mt = 0))) ∧ Below w.heap.size w w' := by
  go_enter Try.func50, Try.ntmps50
  go_wp2
  go_returns
  exact ⟨ret_bool (by first | rfl | (rw [Bool.eq_iff_iff]; simp)), by first | exact (Below.refl _ _).alloc (Nat.le_refl _) _ | go_grown⟩

set_option maxHeartbeats 1000000 in
set_option maxRecDepth 100000 in
theorem refmay_empty2 (cl sq id mt : Int) (g0 : 0 ≤ cl) (g1 : cl < 4) (g2 : 1 ≤ sq) (g3 : sq ≤ 1073741824) (g6 : 0 ≤ id) (g7 : id ≤ 31) (g9 : 0 ≤ mt) (g10 : mt ≤ 100) (w : World) :
    Calls Try.prog 50 #[.agg #[.int .i64 cl, .int .i64 sq, .int .i64 2, .int .i64 id, .int .i64 mt, .string ⟨#[]⟩]] w fun e w' => e = .returned (.bool true) ∧ Below w.heap.size w w' := by
  go_enter Try.func50, Try.ntmps50
  go_wp2
  go_returns
  exact ⟨ret_bool (by first | rfl | (rw [Bool.eq_iff_iff]; simp)), by first | exact (Below.refl _ _).alloc (Nat.le_refl _) _ | go_grown⟩

set_option maxHeartbeats 1000000 in
set_option maxRecDepth 100000 in
theorem refmay_full2 (cl sq id mt : Int) (dt : ByteArray) (hf : dt.toList.isEmpty = false) (g8 : dt.size ≤ 64) (g0 : 0 ≤ cl) (g1 : cl < 4) (g2 : 1 ≤ sq) (g3 : sq ≤ 1073741824) (g6 : 0 ≤ id) (g7 : id ≤ 31) (g9 : 0 ≤ mt) (g10 : mt ≤ 100) (w : World) :
    Calls Try.prog 50 #[.agg #[.int .i64 cl, .int .i64 sq, .int .i64 2, .int .i64 id, .int .i64 mt, .string dt]] w fun e w' => e = .returned (.bool true) ∧ Below w.heap.size w w' := by
  go_enter Try.func50, Try.ntmps50
  go_wp2
  go_returns
  exact ⟨ret_bool (by first | rfl | (rw [Bool.eq_iff_iff]; simp)), by first | exact (Below.refl _ _).alloc (Nat.le_refl _) _ | go_grown⟩

set_option maxHeartbeats 1000000 in
set_option maxRecDepth 100000 in
theorem refmay_empty3 (cl sq id mt : Int) (g0 : 0 ≤ cl) (g1 : cl < 4) (g2 : 1 ≤ sq) (g3 : sq ≤ 1073741824) (g6 : 0 ≤ id) (g7 : id ≤ 31) (g9 : 0 ≤ mt) (g10 : mt ≤ 100) (w : World) :
    Calls Try.prog 50 #[.agg #[.int .i64 cl, .int .i64 sq, .int .i64 3, .int .i64 id, .int .i64 mt, .string ⟨#[]⟩]] w fun e w' => e = .returned (.bool true) ∧ Below w.heap.size w w' := by
  go_enter Try.func50, Try.ntmps50
  go_wp2
  go_returns
  exact ⟨ret_bool (by first | rfl | (rw [Bool.eq_iff_iff]; simp)), by first | exact (Below.refl _ _).alloc (Nat.le_refl _) _ | go_grown⟩

set_option maxHeartbeats 1000000 in
set_option maxRecDepth 100000 in
theorem refmay_full3 (cl sq id mt : Int) (dt : ByteArray) (hf : dt.toList.isEmpty = false) (g8 : dt.size ≤ 64) (g0 : 0 ≤ cl) (g1 : cl < 4) (g2 : 1 ≤ sq) (g3 : sq ≤ 1073741824) (g6 : 0 ≤ id) (g7 : id ≤ 31) (g9 : 0 ≤ mt) (g10 : mt ≤ 100) (w : World) :
    Calls Try.prog 50 #[.agg #[.int .i64 cl, .int .i64 sq, .int .i64 3, .int .i64 id, .int .i64 mt, .string dt]] w fun e w' => e = .returned (.bool false) ∧ Below w.heap.size w w' := by
  go_enter Try.func50, Try.ntmps50
  go_wp2
  go_returns
  exact ⟨ret_bool (by first | rfl | (rw [Bool.eq_iff_iff]; simp)), by first | exact (Below.refl _ _).alloc (Nat.le_refl _) _ | go_grown⟩

set_option maxHeartbeats 1000000 in
set_option maxRecDepth 100000 in
theorem refmay_empty4 (cl sq id mt : Int) (g0 : 0 ≤ cl) (g1 : cl < 4) (g2 : 1 ≤ sq) (g3 : sq ≤ 1073741824) (g6 : 0 ≤ id) (g7 : id ≤ 31) (g9 : 0 ≤ mt) (g10 : mt ≤ 100) (w : World) :
    Calls Try.prog 50 #[.agg #[.int .i64 cl, .int .i64 sq, .int .i64 4, .int .i64 id, .int .i64 mt, .string ⟨#[]⟩]] w fun e w' => e = .returned (.bool (decide (mt = 0))) ∧ Below w.heap.size w w' := by
  go_enter Try.func50, Try.ntmps50
  go_wp2
  go_returns
  exact ⟨ret_bool (by first | rfl | (rw [Bool.eq_iff_iff]; simp)), by first | exact (Below.refl _ _).alloc (Nat.le_refl _) _ | go_grown⟩

set_option maxHeartbeats 1000000 in
set_option maxRecDepth 100000 in
theorem refmay_full4 (cl sq id mt : Int) (dt : ByteArray) (hf : dt.toList.isEmpty = false) (g8 : dt.size ≤ 64) (g0 : 0 ≤ cl) (g1 : cl < 4) (g2 : 1 ≤ sq) (g3 : sq ≤ 1073741824) (g6 : 0 ≤ id) (g7 : id ≤ 31) (g9 : 0 ≤ mt) (g10 : mt ≤ 100) (w : World) :
    Calls Try.prog 50 #[.agg #[.int .i64 cl, .int .i64 sq, .int .i64 4, .int .i64 id, .int .i64 mt, .string dt]] w fun e w' => e = .returned (.bool false) ∧ Below w.heap.size w w' := by
  go_enter Try.func50, Try.ntmps50
  go_wp2
  go_returns
  exact ⟨ret_bool (by first | rfl | (rw [Bool.eq_iff_iff]; simp)), by first | exact (Below.refl _ _).alloc (Nat.le_refl _) _ | go_grown⟩

set_option maxHeartbeats 1000000 in
set_option maxRecDepth 100000 in
theorem refmay_empty5 (cl sq id mt : Int) (g0 : 0 ≤ cl) (g1 : cl < 4) (g2 : 1 ≤ sq) (g3 : sq ≤ 1073741824) (g6 : 0 ≤ id) (g7 : id ≤ 31) (g9 : 0 ≤ mt) (g10 : mt ≤ 100) (w : World) :
    Calls Try.prog 50 #[.agg #[.int .i64 cl, .int .i64 sq, .int .i64 5, .int .i64 id, .int .i64 mt, .string ⟨#[]⟩]] w fun e w' => e = .returned (.bool (decide (1 ≤ mt))) ∧ Below w.heap.size w w' := by
  go_enter Try.func50, Try.ntmps50
  go_wp2
  go_returns
  exact ⟨ret_bool (by first | rfl | (rw [Bool.eq_iff_iff]; simp)), by first | exact (Below.refl _ _).alloc (Nat.le_refl _) _ | go_grown⟩

set_option maxHeartbeats 1000000 in
set_option maxRecDepth 100000 in
theorem refmay_full5 (cl sq id mt : Int) (dt : ByteArray) (hf : dt.toList.isEmpty = false) (g8 : dt.size ≤ 64) (g0 : 0 ≤ cl) (g1 : cl < 4) (g2 : 1 ≤ sq) (g3 : sq ≤ 1073741824) (g6 : 0 ≤ id) (g7 : id ≤ 31) (g9 : 0 ≤ mt) (g10 : mt ≤ 100) (w : World) :
    Calls Try.prog 50 #[.agg #[.int .i64 cl, .int .i64 sq, .int .i64 5, .int .i64 id, .int .i64 mt, .string dt]] w fun e w' => e = .returned (.bool false) ∧ Below w.heap.size w w' := by
  go_enter Try.func50, Try.ntmps50
  go_wp2
  go_returns
  exact ⟨ret_bool (by first | rfl | (rw [Bool.eq_iff_iff]; simp)), by first | exact (Below.refl _ _).alloc (Nat.le_refl _) _ | go_grown⟩

set_option maxHeartbeats 1000000 in
set_option maxRecDepth 100000 in
theorem refmay_empty6 (cl sq id mt : Int) (g0 : 0 ≤ cl) (g1 : cl < 4) (g2 : 1 ≤ sq) (g3 : sq ≤ 1073741824) (g6 : 0 ≤ id) (g7 : id ≤ 31) (g9 : 0 ≤ mt) (g10 : mt ≤ 100) (w : World) :
    Calls Try.prog 50 #[.agg #[.int .i64 cl, .int .i64 sq, .int .i64 6, .int .i64 id, .int .i64 mt, .string ⟨#[]⟩]] w fun e w' => e = .returned (.bool (decide (mt = 0))) ∧ Below w.heap.size w w' := by
  go_enter Try.func50, Try.ntmps50
  go_wp2
  go_returns
  exact ⟨ret_bool (by first | rfl | (rw [Bool.eq_iff_iff]; simp)), by first | exact (Below.refl _ _).alloc (Nat.le_refl _) _ | go_grown⟩

set_option maxHeartbeats 1000000 in
set_option maxRecDepth 100000 in
theorem refmay_full6 (cl sq id mt : Int) (dt : ByteArray) (hf : dt.toList.isEmpty = false) (g8 : dt.size ≤ 64) (g0 : 0 ≤ cl) (g1 : cl < 4) (g2 : 1 ≤ sq) (g3 : sq ≤ 1073741824) (g6 : 0 ≤ id) (g7 : id ≤ 31) (g9 : 0 ≤ mt) (g10 : mt ≤ 100) (w : World) :
    Calls Try.prog 50 #[.agg #[.int .i64 cl, .int .i64 sq, .int .i64 6, .int .i64 id, .int .i64 mt, .string dt]] w fun e w' => e = .returned (.bool false) ∧ Below w.heap.size w w' := by
  go_enter Try.func50, Try.ntmps50
  go_wp2
  go_returns
  exact ⟨ret_bool (by first | rfl | (rw [Bool.eq_iff_iff]; simp)), by first | exact (Below.refl _ _).alloc (Nat.le_refl _) _ | go_grown⟩

end Go.Proofs.Ytpcbpimlakehcaa
