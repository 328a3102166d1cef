/-
  A LEASE: isMajority, holds, Valid, Lost, told by contract. No condition but that there were at most a million questions, and that a time is a number of its kind.
-/
import Derived.Test.YtomjlhmkmihbeaaHdW
import Derived.Test.YtomjlhmkmihbeaaWatV
namespace Go.Proofs.Ytomjlhmkmihbeaa
open Go.RowKit

/-- How many of those below k. -/
def cntF (t : Nat → Bool) : Nat → Nat
  | 0 => 0
  | k + 1 => cntF t k + (if t k then 1 else 0)
theorem cntF_le (t : Nat → Bool) : ∀ k, cntF t k ≤ k
  | 0 => Nat.le_refl _
  | k + 1 => by
    have := cntF_le t k
    show cntF t k + (if t k then 1 else 0) ≤ k + 1
    split <;> omega
theorem cntF_yes {t : Nat → Bool} {k : Nat} (h : t k = true) : cntF t (k + 1) = cntF t k + 1 := by
  show cntF t k + (if t k then 1 else 0) = _
  rw [h]
  rfl
theorem cntF_no {t : Nat → Bool} {k : Nat} (h : t k = false) : cntF t (k + 1) = cntF t k := by
  show cntF t k + (if t k then 1 else 0) = _
  rw [h]
  rfl

theorem run_idx0 (u : World) (v0 v1 v2 v3 v4 : Value) : Sem.run Try.prog (Instr.index 59 (.agg #[v0, v1, v2, v3, v4]) (.int .i64 0)) u = .ok v0 u := by rfl
theorem run_idx1 (u : World) (v0 v1 v2 v3 v4 : Value) : Sem.run Try.prog (Instr.index 59 (.agg #[v0, v1, v2, v3, v4]) (.int .i64 1)) u = .ok v1 u := by rfl
theorem run_idx2 (u : World) (v0 v1 v2 v3 v4 : Value) : Sem.run Try.prog (Instr.index 59 (.agg #[v0, v1, v2, v3, v4]) (.int .i64 2)) u = .ok v2 u := by rfl
theorem run_idx3 (u : World) (v0 v1 v2 v3 v4 : Value) : Sem.run Try.prog (Instr.index 59 (.agg #[v0, v1, v2, v3, v4]) (.int .i64 3)) u = .ok v3 u := by rfl
theorem run_idx4 (u : World) (v0 v1 v2 v3 v4 : Value) : Sem.run Try.prog (Instr.index 59 (.agg #[v0, v1, v2, v3, v4]) (.int .i64 4)) u = .ok v4 u := by rfl
set_option maxRecDepth 100000 in
set_option maxHeartbeats 4000000 in
theorem hdmaj_r {w : World} {b n r : Nat} {qs : Nat → QV} (H : Hd w b n r qs) (q : QV) {R : Bool} (hR : decide (mostV (n : Int) ≤ (cntF q.told 5 : Int)) = R) :
    Calls Try.prog 40 #[.pointer (some ⟨b, 0, none⟩), q.agg] w fun e w' => e = .returned (.bool R) ∧ Below w.heap.size w w' := by
  obtain ⟨qa, qe, t⟩ := q
  dsimp only at hR
  have HR := Lib.hid hR
  obtain ⟨M, hM⟩ : ∃ M, mostV (n : Int) = M := ⟨_, rfl⟩
  have HM := Lib.hid fun u => tymost_r (n : Int) u (by have := H.le; omega) hM
  rw [hM] at HR
  have HC : Hid (∀ u, Below w.heap.size w u → u.cell? ⟨b, 0, none⟩ = some (.int .i64 n)) := fun u hu => (H.on hu).num.1
  have B1 : Hid (Below w.heap.size w (w.alloc (.cells #[.int .i64 qa, .int .i64 qe, .bool (t 0), .bool (t 1), .bool (t 2), .bool (t 3), .bool (t 4)] 61))) := (Below.refl _ _).alloc (Nat.le_refl _) _
  have HT := Lib.hid (fun k (h : t k = true) => cntF_yes (t := t) (k := k) h)
  have HF := Lib.hid (fun k (h : t k = false) => cntF_no (t := t) (k := k) h)
  have HLE := Lib.hid (cntF_le t)
  have HZ : Hid (cntF t 0 = 0) := rfl
  generalize cntF t = C at HR HT HF HLE HZ
  unfold QV.agg
  dsimp only
  clear hR hM H
  go_enter Try.func40, Try.ntmps40
  go_wp2_with fail
  obtain ⟨W, hW⟩ : ∃ W, W = w.alloc (.cells #[.int .i64 qa, .int .i64 qe, .bool (t 0), .bool (t 1), .bool (t 2), .bool (t 3), .bool (t 4)] 61) := ⟨_, rfl⟩
  rw [← hW] at B1 ⊢
  clear hW
  go_loopw [5, 10] (fun s5 s10 wr => ∃ k y : Nat, k ≤ 5 ∧ s5 = .int .i64 y ∧ s10 = .int .i64 k ∧ y ≤ k ∧ Hid (y = C k) ∧ Hid (Below w.heap.size w wr)) (fun _ s10 _ => 5 - (intOf s10).toNat)
  case atStart => exact ⟨0, 0, Nat.zero_le _, rfl, rfl, Nat.le_refl _, HZ.out.symm, B1.out⟩
  case round =>
    clear B1
    obtain ⟨k, y, hk, rfl, rfl, hy, HY, HB⟩ := hrel
    rcases (show k = 0 ∨ k = 1 ∨ k = 2 ∨ k = 3 ∨ k = 4 ∨ k = 5 by omega) with rfl | rfl | rfl | rfl | rfl | rfl
    · cases hb : t 0 with
      | true =>
        have HE := Lib.hid (HT.out 0 hb)
        have hix : ∀ u, Sem.run Try.prog (Instr.index 59 (.agg #[.bool true, .bool (t 1), .bool (t 2), .bool (t 3), .bool (t 4)]) (.int .i64 0)) u = .ok (.bool true) u := fun u => run_idx0 u _ _ _ _ _
        go_wp2
        go_roundw
        case rel => exact ⟨1, y + 1, by omega, by go_num, by go_num, by omega, by show _ = _; rw [HE.out, ← HY.out], HB.out⟩
        case measure => simp [intOf]
      | false =>
        have HE := Lib.hid (HF.out 0 hb)
        have hix : ∀ u, Sem.run Try.prog (Instr.index 59 (.agg #[.bool false, .bool (t 1), .bool (t 2), .bool (t 3), .bool (t 4)]) (.int .i64 0)) u = .ok (.bool false) u := fun u => run_idx0 u _ _ _ _ _
        go_wp2
        go_roundw
        case rel => exact ⟨1, y, by omega, by first | rfl | go_num, by go_num, by omega, by show _ = _; rw [HE.out, ← HY.out], HB.out⟩
        case measure => simp [intOf]
    · cases hb : t 1 with
      | true =>
        have HE := Lib.hid (HT.out 1 hb)
        have hix : ∀ u, Sem.run Try.prog (Instr.index 59 (.agg #[.bool (t 0), .bool true, .bool (t 2), .bool (t 3), .bool (t 4)]) (.int .i64 1)) u = .ok (.bool true) u := fun u => run_idx1 u _ _ _ _ _
        go_wp2
        go_roundw
        case rel => exact ⟨2, y + 1, by omega, by go_num, by go_num, by omega, by show _ = _; rw [HE.out, ← HY.out], HB.out⟩
        case measure => simp [intOf]
      | false =>
        have HE := Lib.hid (HF.out 1 hb)
        have hix : ∀ u, Sem.run Try.prog (Instr.index 59 (.agg #[.bool (t 0), .bool false, .bool (t 2), .bool (t 3), .bool (t 4)]) (.int .i64 1)) u = .ok (.bool false) u := fun u => run_idx1 u _ _ _ _ _
        go_wp2
        go_roundw
        case rel => exact ⟨2, y, by omega, by first | rfl | go_num, by go_num, by omega, by show _ = _; rw [HE.out, ← HY.out], HB.out⟩
        case measure => simp [intOf]
    · cases hb : t 2 with
      | true =>
        have HE := Lib.hid (HT.out 2 hb)
        have hix : ∀ u, Sem.run Try.prog (Instr.index 59 (.agg #[.bool (t 0), .bool (t 1), .bool true, .bool (t 3), .bool (t 4)]) (.int .i64 2)) u = .ok (.bool true) u := fun u => run_idx2 u _ _ _ _ _
        go_wp2
        go_roundw
        case rel => exact ⟨3, y + 1, by omega, by go_num, by go_num, by omega, by show _ = _; rw [HE.out, ← HY.out], HB.out⟩
        case measure => simp [intOf]
      | false =>
        have HE := Lib.hid (HF.out 2 hb)
        have hix : ∀ u, Sem.run Try.prog (Instr.index 59 (.agg #[.bool (t 0), .bool (t 1), .bool false, .bool (t 3), .bool (t 4)]) (.int .i64 2)) u = .ok (.bool false) u := fun u => run_idx2 u _ _ _ _ _
        go_wp2
        go_roundw
        case rel => exact ⟨3, y, by omega, by first | rfl | go_num, by go_num, by omega, by show _ = _; rw [HE.out, ← HY.out], HB.out⟩
        case measure => simp [intOf]
    · cases hb : t 3 with
      | true =>
        have HE := Lib.hid (HT.out 3 hb)
        have hix : ∀ u, Sem.run Try.prog (Instr.index 59 (.agg #[.bool (t 0), .bool (t 1), .bool (t 2), .bool true, .bool (t 4)]) (.int .i64 3)) u = .ok (.bool true) u := fun u => run_idx3 u _ _ _ _ _
        go_wp2
        go_roundw
        case rel => exact ⟨4, y + 1, by omega, by go_num, by go_num, by omega, by show _ = _; rw [HE.out, ← HY.out], HB.out⟩
        case measure => simp [intOf]
      | false =>
        have HE := Lib.hid (HF.out 3 hb)
        have hix : ∀ u, Sem.run Try.prog (Instr.index 59 (.agg #[.bool (t 0), .bool (t 1), .bool (t 2), .bool false, .bool (t 4)]) (.int .i64 3)) u = .ok (.bool false) u := fun u => run_idx3 u _ _ _ _ _
        go_wp2
        go_roundw
        case rel => exact ⟨4, y, by omega, by first | rfl | go_num, by go_num, by omega, by show _ = _; rw [HE.out, ← HY.out], HB.out⟩
        case measure => simp [intOf]
    · cases hb : t 4 with
      | true =>
        have HE := Lib.hid (HT.out 4 hb)
        have hix : ∀ u, Sem.run Try.prog (Instr.index 59 (.agg #[.bool (t 0), .bool (t 1), .bool (t 2), .bool (t 3), .bool true]) (.int .i64 4)) u = .ok (.bool true) u := fun u => run_idx4 u _ _ _ _ _
        go_wp2
        go_roundw
        case rel => exact ⟨5, y + 1, by omega, by go_num, by go_num, by omega, by show _ = _; rw [HE.out, ← HY.out], HB.out⟩
        case measure => simp [intOf]
      | false =>
        have HE := Lib.hid (HF.out 4 hb)
        have hix : ∀ u, Sem.run Try.prog (Instr.index 59 (.agg #[.bool (t 0), .bool (t 1), .bool (t 2), .bool (t 3), .bool false]) (.int .i64 4)) u = .ok (.bool false) u := fun u => run_idx4 u _ _ _ _ _
        go_wp2
        go_roundw
        case rel => exact ⟨5, y, by omega, by first | rfl | go_num, by go_num, by omega, by show _ = _; rw [HE.out, ← HY.out], HB.out⟩
        case measure => simp [intOf]
    · have c0 := HC.out _ HB.out
      have HX : Hid (R = decide (M ≤ (y : Int))) := by show _ = _; rw [HY.out]; exact HR.out.symm
      clear HY HR
      go_wp2_with fail
      refine (HM.out _).mono ?_
      rintro e w2 ⟨rfl, rfl⟩
      go_wp2
      go_returns
      exact ⟨ret_bool (by rw [HX.out]), HB.out⟩

set_option maxRecDepth 100000 in
set_option maxHeartbeats 1000000 in
theorem hdholds_r (q : QV) (t : Int) (ht : Top t) (h0 : 0 ≤ q.asked) (w : World) {R : Bool} (hR : decide (q.asked ≤ t ∧ t < q.asked + 20) = R) :
    Calls Try.prog 41 #[q.agg, .int .i64 t] w fun e w' => e = .returned (.bool R) ∧ Below w.heap.size w w' := by
  obtain ⟨qa, qe, tt⟩ := q
  dsimp only at hR h0
  unfold QV.agg
  dsimp only
  by_cases h1 : qa ≤ t
  · have hsub := sub_in ht h0 h1
    by_cases h2 : t - qa < 20
    · obtain rfl : R = true := by rw [← hR]; exact decide_eq_true (by omega)
      clear hR
      go_enter Try.func41, Try.ntmps41
      go_wp2
      go_returns
      exact ⟨ret_bool (by simp_all), by go_grown⟩
    · obtain rfl : R = false := by rw [← hR]; exact decide_eq_false (by omega)
      clear hR
      go_enter Try.func41, Try.ntmps41
      go_wp2
      go_returns
      exact ⟨ret_bool (by first | rfl | (simp; omega) | (simp_all; omega)), by go_grown⟩
  · obtain rfl : R = false := by rw [← hR]; exact decide_eq_false (by omega)
    have h1' : t < qa := by omega
    clear hR
    go_enter Try.func41, Try.ntmps41
    go_wp2
    go_returns
    exact ⟨ret_bool (by first | rfl | (simp; omega) | (simp_all; omega)), by go_grown⟩
end Go.Proofs.Ytomjlhmkmihbeaa
