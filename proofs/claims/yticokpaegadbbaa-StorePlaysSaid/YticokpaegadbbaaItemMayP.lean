/-
  THE PROGRAM's MayReq, as a plain function of a request. No condition but that the request can be read.
-/
import Derived.Test.YticokpaegadbbaaItemA
namespace Go.Proofs.Yticokpaegadbbaa
open Go.RowKit

set_option maxHeartbeats 4000000 in
set_option maxRecDepth 100000 in
theorem mayreq_r (cl sq kd id mt : Int) (dt : ByteArray) (hd : dt.size ≤ 9223372036854775807) (R : Bool) (HR : Hid (R = decide (ReqV.may ⟨cl, sq, kd, id, mt, dt⟩))) (w : World) :
    Calls Try.prog 29 #[.agg #[.int .i64 cl, .int .i64 sq, .int .i64 kd, .int .i64 id, .int .i64 mt, .string dt]] w fun e w' => e = .returned (.bool R) ∧ Below w.heap.size w w' := by
  unfold ReqV.may at HR
  simp only at HR
  by_cases h0 : 0 ≤ cl ∧ cl ≤ 3
  case neg =>
    have hr : R = false := by rw [HR.out]; exact decide_eq_false (by intro hh; apply h0; first | omega | (split <;> omega) | (split; (omega); split <;> omega))
    subst hr
    clear HR
    have W0 := Lib.hid (fun w => within_no cl 0 3 w (by omega))
    clear h0
    go_enter Try.func29, Try.ntmps29
    go_wp2_with fail
    refine (W0.out _).mono ?_
    rintro e w1 ⟨rfl, rfl⟩
    go_wp2
    go_returns
    exact ⟨rfl, by first | exact (Below.refl _ _).alloc (Nat.le_refl _) _ | go_grown⟩
  have W0 := Lib.hid (fun w => within_yes cl 0 3 w h0.1 h0.2)
  by_cases h1 : 1 ≤ sq ∧ sq ≤ 1073741824
  case neg =>
    have hr : R = false := by rw [HR.out]; exact decide_eq_false (by intro hh; apply h1; first | omega | (split <;> omega) | (split; (omega); split <;> omega))
    subst hr
    clear HR
    have W1 := Lib.hid (fun w => within_no sq 1 1073741824 w (by omega))
    clear h0 h1
    go_enter Try.func29, Try.ntmps29
    go_wp2_with fail
    refine (W0.out _).mono ?_
    rintro e w1 ⟨rfl, rfl⟩
    go_wp2_with fail
    refine (W1.out _).mono ?_
    rintro e w1 ⟨rfl, rfl⟩
    go_wp2
    go_returns
    exact ⟨rfl, by first | exact (Below.refl _ _).alloc (Nat.le_refl _) _ | go_grown⟩
  have W1 := Lib.hid (fun w => within_yes sq 1 1073741824 w h1.1 h1.2)
  by_cases h2 : 1 ≤ kd ∧ kd ≤ 6
  case neg =>
    have hr : R = false := by rw [HR.out]; exact decide_eq_false (by intro hh; apply h2; first | omega | (split <;> omega) | (split; (omega); split <;> omega))
    subst hr
    clear HR
    have W2 := Lib.hid (fun w => within_no kd 1 6 w (by omega))
    clear h0 h1 h2
    go_enter Try.func29, Try.ntmps29
    go_wp2_with fail
    refine (W0.out _).mono ?_
    rintro e w1 ⟨rfl, rfl⟩
    go_wp2_with fail
    refine (W1.out _).mono ?_
    rintro e w1 ⟨rfl, rfl⟩
    go_wp2_with fail
    refine (W2.out _).mono ?_
    rintro e w1 ⟨rfl, rfl⟩
    go_wp2
    go_returns
    exact ⟨rfl, by first | exact (Below.refl _ _).alloc (Nat.le_refl _) _ | go_grown⟩
  have W2 := Lib.hid (fun w => within_yes kd 1 6 w h2.1 h2.2)
  by_cases h3 : 0 ≤ id ∧ id ≤ 31
  case neg =>
    have hr : R = false := by rw [HR.out]; exact decide_eq_false (by intro hh; apply h3; first | omega | (split <;> omega) | (split; (omega); split <;> omega))
    subst hr
    clear HR
    have W3 := Lib.hid (fun w => within_no id 0 31 w (by omega))
    clear h0 h1 h2 h3
    go_enter Try.func29, Try.ntmps29
    go_wp2_with fail
    refine (W0.out _).mono ?_
    rintro e w1 ⟨rfl, rfl⟩
    go_wp2_with fail
    refine (W1.out _).mono ?_
    rintro e w1 ⟨rfl, rfl⟩
    go_wp2_with fail
    refine (W2.out _).mono ?_
    rintro e w1 ⟨rfl, rfl⟩
    go_wp2_with fail
    refine (W3.out _).mono ?_
    rintro e w1 ⟨rfl, rfl⟩
    go_wp2
    go_returns
    exact ⟨rfl, by first | exact (Below.refl _ _).alloc (Nat.le_refl _) _ | go_grown⟩
  have W3 := Lib.hid (fun w => within_yes id 0 31 w h3.1 h3.2)
  by_cases h4 : (if kd = 1 ∨ kd = 2 then dt.size ≤ 64 else dt.size = 0)
  case neg =>
    have hr : R = false := by rw [HR.out]; exact decide_eq_false (by intro hh; apply h4; first | omega | (split <;> omega) | (split; (omega); split <;> omega))
    subst hr
    clear HR
    have W4 := Lib.hid (maydata_r cl sq kd id mt dt hd false (show _ = _ from (decide_eq_false h4).symm))
    clear h0 h1 h2 h3 h4
    go_enter Try.func29, Try.ntmps29
    go_wp2_with fail
    refine (W0.out _).mono ?_
    rintro e w1 ⟨rfl, rfl⟩
    go_wp2_with fail
    refine (W1.out _).mono ?_
    rintro e w1 ⟨rfl, rfl⟩
    go_wp2_with fail
    refine (W2.out _).mono ?_
    rintro e w1 ⟨rfl, rfl⟩
    go_wp2_with fail
    refine (W3.out _).mono ?_
    rintro e w1 ⟨rfl, rfl⟩
    go_wp2_with fail
    refine (W4.out _).mono ?_
    rintro e v4 ⟨rfl, B4⟩
    have C4 := Lib.hid B4
    have D4 : ReqB v4 w.heap.size cl sq kd id mt dt := (ReqB.fresh w cl sq kd id mt dt 40).keep B4 (by simp)
    obtain ⟨c0, c1, c2, c3, c4, c5⟩ := D4.cells
    clear D4
    go_wp2
    go_returns
    exact ⟨rfl, ((Below.refl _ w).alloc (Nat.le_refl _) _).trans (C4.out.mono (by simp))⟩
  have W4 := Lib.hid (maydata_r cl sq kd id mt dt hd true (show _ = _ from (decide_eq_true h4).symm))
  by_cases h5 : (if kd = 2 ∨ kd = 3 then 0 ≤ mt ∧ mt ≤ 100 else if kd = 5 then 1 ≤ mt ∧ mt ≤ 100 else mt = 0)
  case neg =>
    have hr : R = false := by rw [HR.out]; exact decide_eq_false (by intro hh; apply h5; first | omega | (split <;> omega) | (split; (omega); split <;> omega))
    subst hr
    clear HR
    have W5 := Lib.hid (maymatch_r cl sq kd id mt dt false (show _ = _ from (decide_eq_false h5).symm))
    clear h0 h1 h2 h3 h4 h5
    go_enter Try.func29, Try.ntmps29
    go_wp2_with fail
    refine (W0.out _).mono ?_
    rintro e w1 ⟨rfl, rfl⟩
    go_wp2_with fail
    refine (W1.out _).mono ?_
    rintro e w1 ⟨rfl, rfl⟩
    go_wp2_with fail
    refine (W2.out _).mono ?_
    rintro e w1 ⟨rfl, rfl⟩
    go_wp2_with fail
    refine (W3.out _).mono ?_
    rintro e w1 ⟨rfl, rfl⟩
    go_wp2_with fail
    refine (W4.out _).mono ?_
    rintro e v4 ⟨rfl, B4⟩
    have C4 := Lib.hid B4
    have D4 : ReqB v4 w.heap.size cl sq kd id mt dt := (ReqB.fresh w cl sq kd id mt dt 40).keep B4 (by simp)
    obtain ⟨c0, c1, c2, c3, c4, c5⟩ := D4.cells
    clear D4
    go_wp2_with fail
    refine (W5.out _).mono ?_
    rintro e v5 ⟨rfl, B5⟩
    have C5 := Lib.hid B5
    go_wp2
    go_returns
    exact ⟨rfl, (((Below.refl _ w).alloc (Nat.le_refl _) _).trans (C4.out.mono (by simp))).trans (C5.out.mono (by have := C4.out.size; simp at this; omega))⟩
  have W5 := Lib.hid (maymatch_r cl sq kd id mt dt true (show _ = _ from (decide_eq_true h5).symm))
  have hr : R = true := by
    rw [HR.out]
    refine decide_eq_true ?_
    have a4 : dt.size ≤ 64 ∧ (dt.size = 0 ∨ kd = 1 ∨ kd = 2) := by split at h4 <;> omega
    have a5 : 0 ≤ mt ∧ mt ≤ 100 ∧ (kd = 2 ∨ kd = 3 ∨ (kd = 5 ∧ 1 ≤ mt) ∨ (kd ≠ 5 ∧ mt = 0)) := by
      split at h5
      · omega
      · split at h5 <;> omega
    omega
  subst hr
  clear HR h0 h1 h2 h3 h4 h5
  go_enter Try.func29, Try.ntmps29
  go_wp2_with fail
  refine (W0.out _).mono ?_
  rintro e w1 ⟨rfl, rfl⟩
  go_wp2_with fail
  refine (W1.out _).mono ?_
  rintro e w1 ⟨rfl, rfl⟩
  go_wp2_with fail
  refine (W2.out _).mono ?_
  rintro e w1 ⟨rfl, rfl⟩
  go_wp2_with fail
  refine (W3.out _).mono ?_
  rintro e w1 ⟨rfl, rfl⟩
  go_wp2_with fail
  refine (W4.out _).mono ?_
  rintro e v4 ⟨rfl, B4⟩
  have C4 := Lib.hid B4
  have D4 : ReqB v4 w.heap.size cl sq kd id mt dt := (ReqB.fresh w cl sq kd id mt dt 40).keep B4 (by simp)
  obtain ⟨c0, c1, c2, c3, c4, c5⟩ := D4.cells
  clear D4
  go_wp2_with fail
  refine (W5.out _).mono ?_
  rintro e v5 ⟨rfl, B5⟩
  have C5 := Lib.hid B5
  go_wp2
  go_returns
  exact ⟨rfl, (((Below.refl _ w).alloc (Nat.le_refl _) _).trans (C4.out.mono (by simp))).trans (C5.out.mono (by have := C4.out.size; simp at this; omega))⟩
end Go.Proofs.Yticokpaegadbbaa
