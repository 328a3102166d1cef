/-
  THE REFERENCE's MayReq AND Writes, as plain functions of a request. No condition but that the request can be read.
-/
import Derived.Test.YtpcbpimlakehcaaItemMayR
namespace Go.Proofs.Ytpcbpimlakehcaa
open Go.RowKit

theorem refmay_r (cl sq kd id mt : Int) (dt : ByteArray) (hd : dt.size ≤ 9223372036854775807) (R : Bool) (HR : Hid (R = decide (ReqV.may ⟨cl, sq, kd, id, mt, dt⟩))) (w : World) :
    Calls Try.prog 50 #[.agg #[.int .i64 cl, .int .i64 sq, .int .i64 kd, .int .i64 id, .int .i64 mt, .string dt]] w fun e w' => e = .returned (.bool R) ∧ Below w.heap.size w w' := by
  by_cases h : cl < 0 ∨ 4 ≤ cl ∨ sq < 1 ∨ 1073741824 < sq ∨ kd < 1 ∨ 6 < kd ∨ id < 0 ∨ 31 < id ∨ 64 < dt.size ∨ mt < 0 ∨ 100 < mt
  · have hr : R = false := by rw [HR.out]; exact decide_eq_false (by unfold ReqV.may; simp only; omega)
    rw [hr]
    exact refmay_far cl sq kd id mt dt hd w h
  have g0 : 0 ≤ cl := by omega
  have g1 : cl < 4 := by omega
  have g2 : 1 ≤ sq := by omega
  have g3 : sq ≤ 1073741824 := by omega
  have g6 : 0 ≤ id := by omega
  have g7 : id ≤ 31 := by omega
  have g8 : dt.size ≤ 64 := by omega
  have g9 : 0 ≤ mt := by omega
  have g10 : mt ≤ 100 := by omega
  by_cases he : dt.size = 0
  · obtain rfl := empty_eq dt he
    have hz : ByteArray.size ⟨#[]⟩ = 0 := rfl
    rcases (show kd = 1 ∨ kd = 2 ∨ kd = 3 ∨ kd = 4 ∨ kd = 5 ∨ kd = 6 by omega) with rfl | rfl | rfl | rfl | rfl | rfl
    · have hr : R = (decide (mt = 0)) := by rw [HR.out]; exact decide_eq_decide.2 (show ReqV.may ⟨cl, sq, 1, id, mt, ⟨#[]⟩⟩ ↔ (mt = 0) from by unfold ReqV.may; simp only; rw [hz]; first | omega | (simp; omega) | (constructor; (rintro ⟨h1, h2, h3, h4, h5, h6, h7, h8, h9, h10, h11, h12, h13⟩; omega); (intro h; refine ⟨by omega, by omega, by omega, by omega, by omega, by omega, by omega, by omega, by omega, by omega, by omega, by omega, by omega⟩)))
      rw [hr]
      exact refmay_empty1 cl sq id mt g0 g1 g2 g3 g6 g7 g9 g10 w
    · have hr : R = true := by rw [HR.out]; exact decide_eq_true (show ReqV.may ⟨cl, sq, 2, id, mt, ⟨#[]⟩⟩ from by unfold ReqV.may; simp only; rw [hz]; first | omega | (simp; omega) | (constructor; (rintro ⟨h1, h2, h3, h4, h5, h6, h7, h8, h9, h10, h11, h12, h13⟩; omega); (intro h; refine ⟨by omega, by omega, by omega, by omega, by omega, by omega, by omega, by omega, by omega, by omega, by omega, by omega, by omega⟩)))
      rw [hr]
      exact refmay_empty2 cl sq id mt g0 g1 g2 g3 g6 g7 g9 g10 w
    · have hr : R = true := by rw [HR.out]; exact decide_eq_true (show ReqV.may ⟨cl, sq, 3, id, mt, ⟨#[]⟩⟩ from by unfold ReqV.may; simp only; rw [hz]; first | omega | (simp; omega) | (constructor; (rintro ⟨h1, h2, h3, h4, h5, h6, h7, h8, h9, h10, h11, h12, h13⟩; omega); (intro h; refine ⟨by omega, by omega, by omega, by omega, by omega, by omega, by omega, by omega, by omega, by omega, by omega, by omega, by omega⟩)))
      rw [hr]
      exact refmay_empty3 cl sq id mt g0 g1 g2 g3 g6 g7 g9 g10 w
    · have hr : R = (decide (mt = 0)) := by rw [HR.out]; exact decide_eq_decide.2 (show ReqV.may ⟨cl, sq, 4, id, mt, ⟨#[]⟩⟩ ↔ (mt = 0) from by unfold ReqV.may; simp only; rw [hz]; first | omega | (simp; omega) | (constructor; (rintro ⟨h1, h2, h3, h4, h5, h6, h7, h8, h9, h10, h11, h12, h13⟩; omega); (intro h; refine ⟨by omega, by omega, by omega, by omega, by omega, by omega, by omega, by omega, by omega, by omega, by omega, by omega, by omega⟩)))
      rw [hr]
      exact refmay_empty4 cl sq id mt g0 g1 g2 g3 g6 g7 g9 g10 w
    · have hr : R = (decide (1 ≤ mt)) := by rw [HR.out]; exact decide_eq_decide.2 (show ReqV.may ⟨cl, sq, 5, id, mt, ⟨#[]⟩⟩ ↔ (1 ≤ mt) from by unfold ReqV.may; simp only; rw [hz]; first | omega | (simp; omega) | (constructor; (rintro ⟨h1, h2, h3, h4, h5, h6, h7, h8, h9, h10, h11, h12, h13⟩; omega); (intro h; refine ⟨by omega, by omega, by omega, by omega, by omega, by omega, by omega, by omega, by omega, by omega, by omega, by omega, by omega⟩)))
      rw [hr]
      exact refmay_empty5 cl sq id mt g0 g1 g2 g3 g6 g7 g9 g10 w
    · have hr : R = (decide (mt = 0)) := by rw [HR.out]; exact decide_eq_decide.2 (show ReqV.may ⟨cl, sq, 6, id, mt, ⟨#[]⟩⟩ ↔ (mt = 0) from by unfold ReqV.may; simp only; rw [hz]; first | omega | (simp; omega) | (constructor; (rintro ⟨h1, h2, h3, h4, h5, h6, h7, h8, h9, h10, h11, h12, h13⟩; omega); (intro h; refine ⟨by omega, by omega, by omega, by omega, by omega, by omega, by omega, by omega, by omega, by omega, by omega, by omega, by omega⟩)))
      rw [hr]
      exact refmay_empty6 cl sq id mt g0 g1 g2 g3 g6 g7 g9 g10 w
  · have hf := full_test dt he
    rcases (show kd = 1 ∨ kd = 2 ∨ kd = 3 ∨ kd = 4 ∨ kd = 5 ∨ kd = 6 by omega) with rfl | rfl | rfl | rfl | rfl | rfl
    · have hr : R = (decide (mt = 0)) := by rw [HR.out]; exact decide_eq_decide.2 (show ReqV.may ⟨cl, sq, 1, id, mt, dt⟩ ↔ (mt = 0) from by unfold ReqV.may; simp only; first | omega | (simp; omega) | (constructor; (rintro ⟨h1, h2, h3, h4, h5, h6, h7, h8, h9, h10, h11, h12, h13⟩; omega); (intro h; refine ⟨by omega, by omega, by omega, by omega, by omega, by omega, by omega, by omega, by omega, by omega, by omega, by omega, by omega⟩)))
      rw [hr]
      exact refmay_full1 cl sq id mt dt hf g8 g0 g1 g2 g3 g6 g7 g9 g10 w
    · have hr : R = true := by rw [HR.out]; exact decide_eq_true (show ReqV.may ⟨cl, sq, 2, id, mt, dt⟩ from by unfold ReqV.may; simp only; first | omega | (simp; omega) | (constructor; (rintro ⟨h1, h2, h3, h4, h5, h6, h7, h8, h9, h10, h11, h12, h13⟩; omega); (intro h; refine ⟨by omega, by omega, by omega, by omega, by omega, by omega, by omega, by omega, by omega, by omega, by omega, by omega, by omega⟩)))
      rw [hr]
      exact refmay_full2 cl sq id mt dt hf g8 g0 g1 g2 g3 g6 g7 g9 g10 w
    · have hr : R = false := by rw [HR.out]; exact decide_eq_false (show ¬ ReqV.may ⟨cl, sq, 3, id, mt, dt⟩ from by unfold ReqV.may; simp only; first | omega | (simp; omega) | (constructor; (rintro ⟨h1, h2, h3, h4, h5, h6, h7, h8, h9, h10, h11, h12, h13⟩; omega); (intro h; refine ⟨by omega, by omega, by omega, by omega, by omega, by omega, by omega, by omega, by omega, by omega, by omega, by omega, by omega⟩)))
      rw [hr]
      exact refmay_full3 cl sq id mt dt hf g8 g0 g1 g2 g3 g6 g7 g9 g10 w
    · have hr : R = false := by rw [HR.out]; exact decide_eq_false (show ¬ ReqV.may ⟨cl, sq, 4, id, mt, dt⟩ from by unfold ReqV.may; simp only; first | omega | (simp; omega) | (constructor; (rintro ⟨h1, h2, h3, h4, h5, h6, h7, h8, h9, h10, h11, h12, h13⟩; omega); (intro h; refine ⟨by omega, by omega, by omega, by omega, by omega, by omega, by omega, by omega, by omega, by omega, by omega, by omega, by omega⟩)))
      rw [hr]
      exact refmay_full4 cl sq id mt dt hf g8 g0 g1 g2 g3 g6 g7 g9 g10 w
    · have hr : R = false := by rw [HR.out]; exact decide_eq_false (show ¬ ReqV.may ⟨cl, sq, 5, id, mt, dt⟩ from by unfold ReqV.may; simp only; first | omega | (simp; omega) | (constructor; (rintro ⟨h1, h2, h3, h4, h5, h6, h7, h8, h9, h10, h11, h12, h13⟩; omega); (intro h; refine ⟨by omega, by omega, by omega, by omega, by omega, by omega, by omega, by omega, by omega, by omega, by omega, by omega, by omega⟩)))
      rw [hr]
      exact refmay_full5 cl sq id mt dt hf g8 g0 g1 g2 g3 g6 g7 g9 g10 w
    · have hr : R = false := by rw [HR.out]; exact decide_eq_false (show ¬ ReqV.may ⟨cl, sq, 6, id, mt, dt⟩ from by unfold ReqV.may; simp only; first | omega | (simp; omega) | (constructor; (rintro ⟨h1, h2, h3, h4, h5, h6, h7, h8, h9, h10, h11, h12, h13⟩; omega); (intro h; refine ⟨by omega, by omega, by omega, by omega, by omega, by omega, by omega, by omega, by omega, by omega, by omega, by omega, by omega⟩)))
      rw [hr]
      exact refmay_full6 cl sq id mt dt hf g8 g0 g1 g2 g3 g6 g7 g9 g10 w

set_option maxHeartbeats 1000000 in
theorem refwrites_r (cl sq kd id mt : Int) (dt : ByteArray) (R : Bool) (HR : Hid (R = decide (1 ≤ kd ∧ kd ≤ 3))) (w : World) :
    Calls Try.prog 61 #[.agg #[.int .i64 cl, .int .i64 sq, .int .i64 kd, .int .i64 id, .int .i64 mt, .string dt]] w fun e w' => e = .returned (.bool R) ∧ Below w.heap.size w w' := by
  by_cases h1 : kd = 1
  · obtain rfl : R = true := by rw [HR.out]; exact decide_eq_true (by omega)
    subst h1
    clear HR
    go_enter Try.func61, Try.ntmps61
    go_wp2
    go_returns
    exact ⟨rfl, by first | exact (Below.refl _ _).alloc (Nat.le_refl _) _ | go_grown⟩
  by_cases h2 : kd = 2
  · obtain rfl : R = true := by rw [HR.out]; exact decide_eq_true (by omega)
    subst h2
    clear HR h1
    go_enter Try.func61, Try.ntmps61
    go_wp2
    go_returns
    exact ⟨rfl, by first | exact (Below.refl _ _).alloc (Nat.le_refl _) _ | go_grown⟩
  have b1 : (kd == 1) = false := beq_eq_false_iff_ne.2 h1
  have b2 : (kd == 2) = false := beq_eq_false_iff_ne.2 h2
  have hr : R = (kd == 3) := by
    rw [HR.out, Bool.eq_iff_iff]
    simp
    omega
  subst hr
  clear HR h1 h2
  go_enter Try.func61, Try.ntmps61
  go_wp2
  go_returns
  exact ⟨ret_bool (by first | rfl | (rw [Bool.eq_iff_iff]; simp)), by first | exact (Below.refl _ _).alloc (Nat.le_refl _) _ | go_grown⟩
end Go.Proofs.Ytpcbpimlakehcaa
