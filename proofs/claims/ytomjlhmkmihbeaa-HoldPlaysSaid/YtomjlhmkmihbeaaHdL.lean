/-
  A LEASE: Valid, Lost, told by contract. No condition but that there were at most a million questions, and that a time is a number of its kind.
-/
import Derived.Test.YtomjlhmkmihbeaaHdM
namespace Go.Proofs.Ytomjlhmkmihbeaa
open Go.RowKit

/-- Is a lease of this question one at t? -/
def okB (n : Nat) (q : QV) (t ep : Int) : Bool := decide (q.ep = ep ∧ mostV (n : Int) ≤ (cntF q.told 5 : Int) ∧ q.asked ≤ t ∧ t < q.asked + 20)
def validB (n r : Nat) (qs : Nat → QV) (t ep : Int) : Bool := decide (∃ j, j < min r 4 ∧ okB n (qs j) t ep = true)

set_option maxRecDepth 100000 in
set_option maxHeartbeats 4000000 in
theorem hdvalid_r {w : World} {b n r : Nat} {qs : Nat → QV} (H : Hd w b n r qs) (hr : r ≤ 1000000) (hA : ∀ j, 0 ≤ (qs j).asked) (t ep : Int) (ht : Top t) {R : Bool} (hR : validB n r qs t ep = R) :
    Calls Try.prog 16 #[.pointer (some ⟨b, 0, none⟩), .int .i64 t, .int .i64 ep] w fun e w' => e = .returned (.bool R) ∧ Below w.heap.size w w' := by
  obtain ⟨m, hm⟩ : ∃ m, m = min r 4 := ⟨_, rfl⟩
  have hm4 : m ≤ 4 := by omega
  have HK : Hid (Calls Try.prog 39 #[.pointer (some ⟨b, 1, none⟩)] w fun e w' => e = .returned (.slice (some ⟨b, 2, none⟩) m 4) ∧ Below w.heap.size w w') := by rw [hm]; exact hdkept_r H hr
  have HR : Hid (decide (∃ j, j < m ∧ okB n (qs j) t ep = true) = R) := by rw [hm]; exact hR
  have HH := Lib.hid H
  have HA := Lib.hid hA
  clear hR hm H hA
  go_enter Try.func16, Try.ntmps16
  go_wp2_with fail
  refine HK.out.mono ?_
  rintro e w0 ⟨rfl, B0⟩
  have HB0 := Lib.hid B0
  clear HK B0
  go_wp2_with fail
  go_loopw [16] (fun s16 wr => ∃ k : Nat, k ≤ m ∧ s16 = .int .i64 k ∧ Hid (∀ j, j < k → okB n (qs j) t ep = false) ∧ Hid (Below w.heap.size w wr)) (fun s16 _ => m - (intOf s16).toNat)
  case atStart => exact ⟨0, Nat.zero_le _, rfl, (fun j hj => absurd hj (by omega)), HB0.out⟩
  case round =>
    clear HB0
    obtain ⟨k, hk, rfl, HN, HB⟩ := hrel
    by_cases hlt : k < m
    · have k1 : (k : Int) < (m : Int) := by omega
      have k0 : (0 : Int) ≤ (k : Int) := by omega
      have HHw := HH.out.on HB.out
      obtain ⟨⟨a0, a1, a2, a3, a4, a5, a6⟩, _⟩ := HHw.q7 (j := k) (by omega)
      have hsz := HB.out.size
      obtain ⟨q, hq⟩ : ∃ q, q = qs k := ⟨_, rfl⟩
      have h0 := HA.out k
      rw [← hq] at a0 a1 a2 a3 a4 a5 a6 h0
      have HOK : Hid (∀ x, okB n q t ep = x → x = okB n (qs k) t ep) := fun x hx => by rw [← hx, hq]
      clear hq
      obtain ⟨qa, qe, tt⟩ := q
      dsimp only at a0 a1 a2 a3 a4 a5 a6 h0
      obtain ⟨o, ho⟩ : ∃ o, o = wr.heap.size := ⟨_, rfl⟩
      obtain ⟨W, hW⟩ : ∃ W, W = wr.alloc (.cells #[.int .i64 qa, .int .i64 qe, .bool (tt 0), .bool (tt 1), .bool (tt 2), .bool (tt 3), .bool (tt 4)] 61) := ⟨_, rfl⟩
      have BW : Hid (Below w.heap.size w W) := by rw [hW]; exact HB.out.alloc hsz _
      have h7 : W.heap[o]? = some (.cells #[.int .i64 qa, .int .i64 qe, .bool (tt 0), .bool (tt 1), .bool (tt 2), .bool (tt 3), .bool (tt 4)] 61 (0, 0)) := by rw [hW, ho]; exact heap_alloc_new wr _
      have H7 := Lib.hid h7
      have HC7 : Hid (∀ u, Below W.heap.size W u → u.cell? ⟨o, 0, none⟩ = some (.int .i64 qa) ∧ u.cell? ⟨o, 1, none⟩ = some (.int .i64 qe) ∧ u.cell? ⟨o, 2, none⟩ = some (.bool (tt 0)) ∧ u.cell? ⟨o, 3, none⟩ = some (.bool (tt 1)) ∧ u.cell? ⟨o, 4, none⟩ = some (.bool (tt 2)) ∧ u.cell? ⟨o, 5, none⟩ = some (.bool (tt 3)) ∧ u.cell? ⟨o, 6, none⟩ = some (.bool (tt 4))) := fun u hu => by
        have h' := (hu.block o (lt_of_block H7.out)).trans H7.out
        refine ⟨?_, ?_, ?_, ?_, ?_, ?_, ?_⟩ <;> (rw [cell_of_row _ _ _ _ _ _ h']; rfl)
      have HWW := Lib.hid hW
      have HO := Lib.hid ho
      have HK1 : Hid (okB n (qs k) t ep = false → ∀ j, j < k + 1 → okB n (qs j) t ep = false) := fun hz j hj => by
        rcases (show j < k ∨ j = k by omega) with h | rfl
        · exact HN.out j h
        · exact hz
      have HX1 : Hid (okB n (qs k) t ep = true → R = true) := fun hz => by rw [← HR.out]; exact decide_eq_true ⟨k, hlt, hz⟩
      clear h7 ho HN HHw hlt HB
      by_cases e0 : qe = ep
      · have b0 : (qe == ep) = true := by simpa using e0
        have HE0 := Lib.hid e0
        obtain ⟨R1, hR1⟩ : ∃ R1, decide (mostV (n : Int) ≤ (cntF tt 5 : Int)) = R1 := ⟨_, rfl⟩
        have H1 : Hid (Calls Try.prog 40 #[.pointer (some ⟨b, 0, none⟩), .agg #[.int .i64 qa, .int .i64 qe, .bool (tt 0), .bool (tt 1), .bool (tt 2), .bool (tt 3), .bool (tt 4)]] W fun e w' => e = .returned (.bool R1) ∧ Below W.heap.size W w') := hdmaj_r (HH.out.on BW.out) ⟨qa, qe, tt⟩ hR1
        have HR1 := Lib.hid hR1
        clear hR1 e0 hW
        go_wp2_with fail
        rw [← HWW.out, ← HO.out]
        refine H1.out.mono ?_
        rintro e w1 ⟨rfl, B1⟩
        clear a0 a1 a2 a3 a4 a5 a6 H1
        have HB1 : Hid (Below w.heap.size w w1) := BW.out.trans (B1.mono BW.out.size)
        obtain ⟨d0, d1, d2, d3, d4, d5, d6⟩ := HC7.out _ B1
        clear B1
        cases R1 with
        | false =>
          have HZ := Lib.hid (HK1.out ((HOK.out false (decide_eq_false fun h => of_decide_eq_false HR1.out h.2.1)).symm))
          clear HOK HX1 HK1
          go_wp2_with fail
          go_roundw
          case rel => exact ⟨k + 1, by omega, by go_num, HZ.out, HB1.out⟩
          case measure => simp [intOf]; omega
        | true =>
          obtain ⟨R2, hR2⟩ : ∃ R2, decide (qa ≤ t ∧ t < qa + 20) = R2 := ⟨_, rfl⟩
          have H2 : Hid (Calls Try.prog 41 #[.agg #[.int .i64 qa, .int .i64 qe, .bool (tt 0), .bool (tt 1), .bool (tt 2), .bool (tt 3), .bool (tt 4)], .int .i64 t] w1 fun e w' => e = .returned (.bool R2) ∧ Below w1.heap.size w1 w') := hdholds_r ⟨qa, qe, tt⟩ t ht h0 w1 hR2
          have HR2 := Lib.hid hR2
          clear hR2
          go_wp2_with fail
          refine H2.out.mono ?_
          rintro e w2 ⟨rfl, B2⟩
          have HB2 : Hid (Below w.heap.size w w2) := HB1.out.trans (B2.mono HB1.out.size)
          clear B2 H2 d0 d1 d2 d3 d4 d5 d6
          cases R2 with
          | false =>
            have HZ := Lib.hid (HK1.out ((HOK.out false (decide_eq_false fun h => of_decide_eq_false HR2.out h.2.2)).symm))
            clear HOK HX1 HK1
            go_wp2_with fail
            go_roundw
            case rel => exact ⟨k + 1, by omega, by go_num, HZ.out, HB2.out⟩
            case measure => simp [intOf]; omega
          | true =>
            have HZ := Lib.hid (HX1.out ((HOK.out true (decide_eq_true ⟨HE0.out, of_decide_eq_true HR1.out, of_decide_eq_true HR2.out⟩)).symm))
            clear HOK HX1 HK1
            go_wp2
            go_returns
            exact ⟨ret_bool HZ.out.symm, HB2.out⟩
      · have b0 : (qe == ep) = false := by simpa using e0
        have HZ := Lib.hid (HK1.out ((HOK.out false (decide_eq_false fun h => e0 h.1)).symm))
        clear HOK HX1 HK1 e0 hW
        go_wp2_with fail
        rw [← HWW.out]
        go_roundw
        case rel => exact ⟨k + 1, by omega, by go_num, HZ.out, BW.out⟩
        case measure => simp [intOf]; omega
    · have hle : ¬ (k : Int) < (m : Int) := by omega
      have HX : Hid (R = false) := by
        show _ = _
        rw [← HR.out]
        exact decide_eq_false fun ⟨j, hj, h⟩ => by rw [HN.out j (by omega)] at h; cases h
      go_wp2
      go_returns
      exact ⟨ret_bool HX.out.symm, HB.out⟩
set_option maxHeartbeats 400000 in
theorem hdvalid_nil (t ep : Int) (w : World) : Calls Try.prog 16 #[.pointer none, .int .i64 t, .int .i64 ep] w fun e w' => e = .returned (.bool false) ∧ w = w' := by
  go_enter Try.func16, Try.ntmps16
  go_wp2
  go_returns
  exact ⟨rfl, rfl⟩

/-! ### Lost -/
def lostQ (qs : Nat → QV) (m : Nat) : Nat → QV := fun j => if j < m then (qs j).lost else qs j
theorem lostQ_zero (qs : Nat → QV) : lostQ qs 0 = qs := by funext j; simp [lostQ]
theorem lostQ_step (qs : Nat → QV) (k : Nat) : upQ (lostQ qs k) k (lostQ qs k k).lost = lostQ qs (k + 1) := by
  funext j
  unfold upQ lostQ
  rcases Nat.lt_trichotomy j k with h | h | h
  · rw [if_neg (by omega), if_pos h, if_pos (by omega)]
  · subst h
    rw [if_pos rfl, if_neg (by omega), if_pos (by omega)]
  · rw [if_neg (by omega), if_neg (by omega), if_neg (by omega)]

set_option maxRecDepth 100000 in
set_option maxHeartbeats 4000000 in
theorem hdlost_r {w : World} {b n r : Nat} {qs : Nat → QV} (H : Hd w b n r qs) (hr : r ≤ 1000000) :
    Calls Try.prog 20 #[.pointer (some ⟨b, 0, none⟩)] w fun e w' => e = .returned (.tuple #[]) ∧ Hd w' b n r (lostQ qs (min r 4)) ∧ Only (· = b) w w' := by
  obtain ⟨m, hm⟩ : ∃ m, m = min r 4 := ⟨_, rfl⟩
  have hm4 : m ≤ 4 := by omega
  have HK : Hid (Calls Try.prog 39 #[.pointer (some ⟨b, 1, none⟩)] w fun e w' => e = .returned (.slice (some ⟨b, 2, none⟩) m 4) ∧ Below w.heap.size w w') := by rw [hm]; exact hdkept_r H hr
  rw [← hm]
  have HH := Lib.hid H
  clear hm H
  go_enter Try.func20, Try.ntmps20
  go_wp2_with fail
  refine HK.out.mono ?_
  rintro e w0 ⟨rfl, B0⟩
  have HO0 : Hid (Only (· = b) w w0) := .of B0
  have H0 : Hid (Hd w0 b n r (lostQ qs 0)) := by rw [lostQ_zero]; exact HH.out.on B0
  clear HK B0
  go_wp2_with fail
  go_loopw [12] (fun s12 wr => ∃ k : Nat, k ≤ m ∧ s12 = .int .i64 k ∧ Hid (Hd wr b n r (lostQ qs k)) ∧ Hid (Only (· = b) w wr)) (fun s12 _ => m - (intOf s12).toNat)
  case atStart => exact ⟨0, Nat.zero_le _, rfl, H0.out, HO0.out⟩
  case round =>
    clear H0 HO0
    obtain ⟨k, hk, rfl, HW, HB⟩ := hrel
    by_cases hlt : k < m
    · have k1 : (k : Int) < (m : Int) := by omega
      have k0 : (0 : Int) ≤ (k : Int) := by omega
      obtain ⟨⟨_, _, a2, a3, a4, a5, a6⟩, _, _, f2, f3, f4, f5, f6⟩ := HW.out.q7 (j := k) (by omega)
      obtain ⟨hS, hO⟩ := HW.out.cleared k
      rw [lostQ_step] at hS
      have HS := Lib.hid hS
      have HO := Lib.hid (HB.out.trans hO)
      clear hS hO hlt HB
      unfold cW at *
      go_wp2_with fail
      go_roundw
      case rel => exact ⟨k + 1, by omega, by go_num, HS.out, HO.out⟩
      case measure => simp [intOf]; omega
    · have hle : ¬ (k : Int) < (m : Int) := by omega
      obtain rfl : k = m := by omega
      go_wp2
      go_returns
      exact ⟨rfl, HW.out, HB.out⟩
end Go.Proofs.Ytomjlhmkmihbeaa
