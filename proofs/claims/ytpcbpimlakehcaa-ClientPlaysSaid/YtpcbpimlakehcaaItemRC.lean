/-
  THE REFERENCE's Ints, SameChain, MayChain. No condition but that the values can be read.
-/
import Derived.Test.YtpcbpimlakehcaaItemC
import Derived.Test.YtpcbpimlakehcaaPackRef
import Derived.Deep.QuietTactic
import Derived.BigQuiet
namespace Go.Proofs.Ytpcbpimlakehcaa
open Go.RowKit

set_option maxHeartbeats 2000000 in
set_option maxRecDepth 100000 in
theorem refints_same (b1 o1 b2 o2 n c1 c2 : Nat) (L1 L2 : List Int) (w : World) (h1 : L1.length = n) (h2 : L2.length = n) (hm : n ≤ 1000000) (hb1 : b1 < w.heap.size) (hb2 : b2 < w.heap.size)
    (hc1 : ∀ j, j < n → w.cell? ⟨b1, o1 + j, none⟩ = some (.int .i64 (L1.getD j 0))) (hc2 : ∀ j, j < n → w.cell? ⟨b2, o2 + j, none⟩ = some (.int .i64 (L2.getD j 0))) :
    Calls Try.prog 91 #[.slice (some ⟨b1, o1, none⟩) n c1, .slice (some ⟨b2, o2, none⟩) n c2] w fun e w' => e = .returned (.bool (decide (L1 = L2))) ∧ Below w.heap.size w w' := by
  have H1 := Lib.hid hc1
  have H2 := Lib.hid hc2
  have N1 := Lib.hid h1
  have N2 := Lib.hid h2
  obtain ⟨R, hR⟩ : ∃ R, R = decide (L1 = L2) := ⟨_, rfl⟩
  rw [← hR]
  have HR := Lib.hid hR
  clear hc1 hc2 h1 h2 hR
  go_enter Try.func91, Try.ntmps91
  go_wp2
  go_loopw [5] (fun vi wr => ∃ k : Nat, k ≤ n ∧ vi = .int .i64 k ∧ L1.take k = L2.take k ∧ Below w.heap.size w wr) (fun vi _ => n - (intOf vi).toNat)
  case atStart => exact ⟨0, by omega, rfl, rfl, Below.refl _ _⟩
  case round =>
    obtain ⟨k, hk, rfl, heq, hnx⟩ := hrel
    have HQ := Lib.hid heq
    have HB := Lib.hid hnx
    clear heq
    by_cases hlt : k < n
    · obtain ⟨x, hx⟩ : ∃ x, x = L1.getD k 0 := ⟨_, rfl⟩
      obtain ⟨y, hy⟩ : ∃ y, y = L2.getD k 0 := ⟨_, rfl⟩
      have e1 : wr.cell? ⟨b1, o1 + k, none⟩ = some (.int .i64 x) := by rw [hx, ← H1.out k hlt]; exact hnx.cell (p := ⟨b1, o1 + k, none⟩) hb1
      have e2 : wr.cell? ⟨b2, o2 + k, none⟩ = some (.int .i64 y) := by rw [hy, ← H2.out k hlt]; exact hnx.cell (p := ⟨b2, o2 + k, none⟩) hb2
      have T1 : Hid (L1.take (k + 1) = L1.take k ++ [x]) := by show _ = _; rw [hx]; exact take_snoc L1 k (by rw [N1.out]; exact hlt)
      have T2 : Hid (L2.take (k + 1) = L2.take k ++ [y]) := by show _ = _; rw [hy]; exact take_snoc L2 k (by rw [N2.out]; exact hlt)
      clear hx hy hnx
      have i0 : (0 : Int) ≤ (k : Int) := by omega
      have i1 : (k : Int) < (n : Int) := by omega
      go_wp2
      go_quiet (fail)
      by_cases hxy : x = y
      · subst hxy
        go_wp2
        go_roundw
        case rel => exact ⟨k + 1, by omega, by go_num, by rw [T1.out, T2.out, HQ.out], below_drewN HB.out _⟩
        case measure => simp [intOf]; omega
      · have HF : Hid (R = false) := by
          show _ = _
          rw [HR.out]
          refine decide_eq_false fun h => hxy ?_
          have h1 := T1.out
          rw [h, T2.out] at h1
          have := List.append_cancel_left h1
          simpa using this.symm
        have hb : (x == y) = false := beq_eq_false_iff_ne.2 hxy
        clear hxy
        go_wp2
        go_returns
        exact ⟨ret_bool HF.out.symm, below_drewN HB.out _⟩
    · have HF : Hid (R = true) := by
        show _ = _
        rw [HR.out]
        refine decide_eq_true ?_
        have := HQ.out
        rw [List.take_of_length_le (by rw [N1.out]; omega), List.take_of_length_le (by rw [N2.out]; omega)] at this
        exact this
      clear hnx
      go_wp2
      go_returns
      exact ⟨ret_bool HF.out.symm, HB.out⟩

set_option maxHeartbeats 1000000 in
theorem refints_any (v1 v2 : Value) (L1 L2 : List Int) (B : Nat) (w : World) (h1 : Ints w B v1 L1) (h2 : Ints w B v2 L2) (hB : B ≤ w.heap.size) (hm : L1.length ≤ 1000000) :
    Calls Try.prog 91 #[v1, v2] w fun e w' => e = .returned (.bool (decide (L1 = L2))) ∧ Below w.heap.size w w' := by
  obtain ⟨a1, c1, rfl, _, m1, _, g1⟩ := h1
  obtain ⟨a2, c2, rfl, _, m2, _, g2⟩ := h2
  by_cases he : L1.length = L2.length
  · by_cases h0 : L1.length = 0
    · have e1 : L1 = [] := List.eq_nil_of_length_eq_zero h0
      have e2 : L2 = [] := List.eq_nil_of_length_eq_zero (by omega)
      subst e1 e2
      clear g1 g2
      go_enter Try.func91, Try.ntmps91
      go_wp2
      refine wp_loop_rounds 1 ?_
      rw [rounds_succ]
      go_wp2
      go_returns
      exact ⟨rfl, Below.refl _ _⟩
    · obtain ⟨b1, o1, rfl, hb1, hc1⟩ := g1 (by intro h; rw [h] at h0; simp at h0)
      obtain ⟨b2, o2, rfl, hb2, hc2⟩ := g2 (by intro h; rw [h] at he; simp at he; exact h0 (by simp [he]))
      rw [← he] at hc2 ⊢
      exact refints_same b1 o1 b2 o2 L1.length c1 c2 L1 L2 w rfl he.symm hm (by omega) (by omega) hc1 hc2
  · have hr : decide (L1 = L2) = false := decide_eq_false fun h => he (by rw [h])
    rw [hr]
    obtain ⟨n1, hn1⟩ : ∃ n, n = L1.length := ⟨_, rfl⟩
    obtain ⟨n2, hn2⟩ : ∃ n, n = L2.length := ⟨_, rfl⟩
    rw [← hn1, ← hn2]
    have hne : ((n1 : Int) == (n2 : Int)) = false := by rw [beq_eq_false_iff_ne]; omega
    clear g1 g2 hr hn1 hn2 he hm
    go_enter Try.func91, Try.ntmps91
    go_wp2
    go_returns
    exact ⟨rfl, Below.refl _ _⟩

set_option maxHeartbeats 4000000 in
set_option maxRecDepth 100000 in
theorem refmaychain_in (ep : Int) (b off n cap : Nat) (L : List Int) (w : World) (he0 : 0 ≤ ep) (he1 : ep ≤ 1073741824) (hn : L.length = n) (hn1 : 1 ≤ n) (hn5 : n ≤ 5) (hbw : b < w.heap.size)
    (hc : ∀ j, j < n → w.cell? ⟨b, off + j, none⟩ = some (.int .i64 (L.getD j 0))) :
    Calls Try.prog 14 #[.agg #[.int .i64 ep, .slice (some ⟨b, off, none⟩) n cap]] w fun e w' => e = .returned (.bool (decide (nodesOk L))) ∧ Below w.heap.size w w' := by
  have HC := Lib.hid hc
  have HN := Lib.hid hn
  obtain ⟨R, hR⟩ : ∃ R, R = decide (nodesOk L) := ⟨_, rfl⟩
  rw [← hR]
  have HR := Lib.hid hR
  clear hc hn hR
  go_enter Try.func14, Try.ntmps14
  go_wp2
  go_loopw [3] (fun vi wr => ∃ i : Nat, i ≤ n ∧ vi = .int .i64 i ∧ nodesOk (L.take i) ∧ ChB wr w.heap.size ep (.slice (some ⟨b, off, none⟩) n cap) ∧ Below w.heap.size w wr) (fun vi _ => n - (intOf vi).toNat)
  case atStart => exact ⟨0, by omega, rfl, nodesOk_nil, ChB.fresh w _ _ _, (Below.refl _ _).alloc (Nat.le_refl _) _⟩
  case round =>
    obtain ⟨i, hi, rfl, hok, hch, hnx⟩ := hrel
    have HK := Lib.hid hok
    have HB := Lib.hid hnx
    have HH := Lib.hid hch
    obtain ⟨c0, c1⟩ := hch.cells
    clear hok hch
    by_cases hlt : i < n
    · obtain ⟨x, hx⟩ : ∃ x, x = L.getD i 0 := ⟨_, rfl⟩
      have hcell : wr.cell? ⟨b, off + i, none⟩ = some (.int .i64 x) := by
        rw [hx, ← HC.out i hlt]
        exact hnx.cell (p := ⟨b, off + i, none⟩) hbw
      have HT : Hid (L.take (i + 1) = L.take i ++ [x]) := by show _ = _; rw [hx]; exact take_snoc L i (by rw [HN.out]; exact hlt)
      clear hx hnx
      by_cases hin : 0 ≤ x ∧ x < 5
      · obtain ⟨x0, x5⟩ := hin
        go_wp2
        obtain ⟨wo, hwo⟩ : ∃ wo : World, wo = wr := ⟨_, rfl⟩
        subst hwo
        go_loopw [4] (fun vk wr => ∃ k : Nat, k ≤ i ∧ vk = .int .i64 k ∧ x ∉ L.take k ∧ Below wo.heap.size wo wr) (fun vk _ => i - (intOf vk).toNat)
        case atStart => exact ⟨0, by omega, rfl, by simp, Below.refl _ _⟩
        case round =>
          obtain ⟨k, hk, rfl, hnm, hnk⟩ := hrel
          have HM := Lib.hid hnm
          have HBK := Lib.hid hnk
          have hsz := HB.out.size
          have HHK : Hid (ChB wr w.heap.size ep (.slice (some ⟨b, off, none⟩) n cap)) := HH.out.keep hnk HH.out.lt
          obtain ⟨d0, d1⟩ := HHK.out.cells
          by_cases hki : k < i
          · obtain ⟨y, hy⟩ : ∃ y, y = L.getD k 0 := ⟨_, rfl⟩
            have e1 : wr.cell? ⟨b, off + k, none⟩ = some (.int .i64 y) := by
              rw [hy, ← HC.out k (by omega)]
              exact (hnk.cell (p := ⟨b, off + k, none⟩) (show b < wo.heap.size by omega)).trans (HB.out.cell (p := ⟨b, off + k, none⟩) hbw)
            have e2 : wr.cell? ⟨b, off + i, none⟩ = some (.int .i64 x) := by
              rw [← hcell]
              exact hnk.cell (p := ⟨b, off + i, none⟩) (show b < wo.heap.size by omega)
            have HTK : Hid (L.take (k + 1) = L.take k ++ [y]) := by show _ = _; rw [hy]; exact take_snoc L k (by rw [HN.out]; omega)
            have HMI : Hid (y ∈ L.take i) := by
              show y ∈ _
              rw [hy, List.mem_take_iff_getElem]
              refine ⟨k, by rw [HN.out]; omega, ?_⟩
              simp [List.getD, show k < L.length by rw [HN.out]; omega]
            clear hy hnm hnk
            have i0 : (0 : Int) ≤ (k : Int) := by omega
            have i1 : (k : Int) < (n : Int) := by omega
            have i2 : (0 : Int) ≤ (i : Int) := by omega
            have i3 : (i : Int) < (n : Int) := by omega
            go_wp2
            go_quiet (fail)
            by_cases hxy : y = x
            · subst hxy
              have HF : Hid (R = false) := by
                show _ = _
                rw [HR.out]
                refine decide_eq_false fun h => ?_
                have := nodesOk_take h (i + 1)
                rw [HT.out, nodesOk_snoc] at this
                exact this.2.2.2 HMI.out
              go_wp2
              go_returns
              exact ⟨ret_bool HF.out.symm, below_drewN (HB.out.trans (HBK.out.mono hsz)) _⟩
            · have HXY := Lib.hid hxy
              have hb : (y == x) = false := beq_eq_false_iff_ne.2 hxy
              clear hxy
              go_wp2
              go_roundw
              case rel =>
                refine ⟨k + 1, by omega, by go_num, ?_, below_drewN HBK.out _⟩
                rw [HTK.out, List.mem_append, List.mem_singleton]
                rintro (h | h)
                · exact HM.out h
                · exact HXY.out h.symm
              case measure => simp [intOf]; omega
          · have hke : k = i := by omega
            subst hke
            clear hnm hnk
            go_wp2
            go_roundw
            case rel =>
              refine ⟨k + 1, by omega, by go_num, ?_, HHK.out, HB.out.trans (HBK.out.mono hsz)⟩
              rw [HT.out, nodesOk_snoc]
              exact ⟨HK.out, x0, by omega, HM.out⟩
            case measure => simp [intOf]; omega
      · have HF : Hid (R = false) := by
          show _ = _
          rw [HR.out]
          refine decide_eq_false fun h => ?_
          have := nodesOk_take h (i + 1)
          rw [HT.out, nodesOk_snoc] at this
          exact hin ⟨this.2.1, by omega⟩
        have hx : x < 0 ∨ 5 ≤ x := by omega
        clear hin
        rcases hx with hx | hx
        · go_wp2
          go_returns
          exact ⟨ret_bool HF.out.symm, HB.out⟩
        · have hx0 : 0 ≤ x := by omega
          go_wp2
          go_returns
          exact ⟨ret_bool HF.out.symm, HB.out⟩
    · have HF : Hid (R = true) := by
        show _ = _
        rw [HR.out]
        refine decide_eq_true ?_
        have := HK.out
        rwa [List.take_of_length_le (by rw [HN.out]; omega)] at this
      clear hnx
      go_wp2
      go_returns
      exact ⟨ret_bool HF.out.symm, HB.out⟩

set_option maxHeartbeats 2000000 in
theorem refmaychain_r (ep : Int) (v : Value) (L : List Int) (B : Nat) (w : World) (hI : Ints w B v L) (hBw : B ≤ w.heap.size) (R : Bool) (HR : Hid (R = decide (ChainV.may ⟨ep, L⟩))) :
    Calls Try.prog 14 #[.agg #[.int .i64 ep, v]] w fun e w' => e = .returned (.bool R) ∧ Below w.heap.size w w' := by
  obtain ⟨ao, cap, rfl, h1, h2, h3, h4⟩ := hI
  obtain ⟨n, hn⟩ : ∃ n, L.length = n := ⟨_, rfl⟩
  have hmay : ChainV.may ⟨ep, L⟩ ↔ 0 ≤ ep ∧ ep ≤ 1073741824 ∧ 1 ≤ n ∧ n ≤ 5 ∧ nodesOk L := by unfold ChainV.may; simp only; rw [hn]
  rw [hn] at h1 h4 ⊢
  by_cases hin : 0 ≤ ep ∧ ep ≤ 1073741824 ∧ 1 ≤ n ∧ n ≤ 5
  · obtain ⟨g0, g1, g2, g3⟩ := hin
    obtain ⟨b, off, rfl, hbB, hc⟩ := h4 (by intro h; rw [h] at hn; simp at hn; omega)
    have hr : R = decide (nodesOk L) := by
      rw [HR.out, decide_eq_decide, hmay]
      constructor
      · rintro ⟨_, _, _, _, h⟩; exact h
      · intro h; exact ⟨g0, g1, g2, g3, h⟩
    rw [hr]
    exact refmaychain_in ep b off n cap L w g0 g1 hn g2 g3 (by omega) hc
  · have hr : R = false := by rw [HR.out]; exact decide_eq_false (by rw [hmay]; rintro ⟨a, b, c, d, _⟩; exact hin ⟨a, b, c, d⟩)
    subst hr
    have hcs : ep < 0 ∨ (0 ≤ ep ∧ 1073741824 < ep) ∨ (0 ≤ ep ∧ ep ≤ 1073741824 ∧ n < 1) ∨ (0 ≤ ep ∧ ep ≤ 1073741824 ∧ 1 ≤ n ∧ 5 < n) := by omega
    clear hin HR hmay h4 hn
    rcases hcs with h | ⟨g0, h⟩ | ⟨g0, g1, h⟩ | ⟨g0, g1, g2, h⟩
    all_goals
      go_enter Try.func14, Try.ntmps14
      go_wp2
      go_returns
      exact ⟨rfl, by first | exact (Below.refl _ _).alloc (Nat.le_refl _) _ | go_grown⟩
end Go.Proofs.Ytpcbpimlakehcaa
