/-
  THE REFERENCE's Ints, SameChain, MayChain. No condition but that the values can be read.
-/
import Derived.Test.YtenjjgghoacboaaItemC
import Derived.Test.YtenjjgghoacboaaPackRef
import Derived.Deep.QuietTactic
import Derived.BigQuiet
namespace Go.Proofs.Ytenjjgghoacboaa
open Go.RowKit

set_option maxHeartbeats 2000000 in
set_option maxRecDepth 100000 in
theorem refints_same (b1 o1 b2 o2 n c1 c2 : Nat) (L1 L2 : List Int) (w : World) (h1 : L1.length = n) (h2 : L2.length = n) (hm : n ≤ 1000000) (hb1 : b1 < w.heap.size) (hb2 : b2 < w.heap.size)
    (hc1 : ∀ j, j < n → w.cell? ⟨b1, o1 + j, none⟩ = some (.int .i64 (L1.getD j 0))) (hc2 : ∀ j, j < n → w.cell? ⟨b2, o2 + j, none⟩ = some (.int .i64 (L2.getD j 0))) :
    Calls Try.prog 64 #[.slice (some ⟨b1, o1, none⟩) n c1, .slice (some ⟨b2, o2, none⟩) n c2] w fun e w' => e = .returned (.bool (decide (L1 = L2))) ∧ Below w.heap.size w w' := by
  have H1 := Lib.hid hc1
  have H2 := Lib.hid hc2
  have N1 := Lib.hid h1
  have N2 := Lib.hid h2
  obtain ⟨R, hR⟩ : ∃ R, R = decide (L1 = L2) := ⟨_, rfl⟩
  rw [← hR]
  have HR := Lib.hid hR
  clear hc1 hc2 h1 h2 hR
  go_enter Try.func64, Try.ntmps64
  go_wp2
  go_loopw [5] (fun vi wr => ∃ k : Nat, k ≤ n ∧ vi = .int .i64 k ∧ L1.take k = L2.take k ∧ Below w.heap.size w wr) (fun vi _ => n - (intOf vi).toNat)
  case atStart => exact ⟨0, by omega, rfl, rfl, Below.refl _ _⟩
  case round =>
    obtain ⟨k, hk, rfl, heq, hnx⟩ := hrel
    have HQ := Lib.hid heq
    have HB := Lib.hid hnx
    clear heq
    by_cases hlt : k < n
    · obtain ⟨x, hx⟩ : ∃ x, x = L1.getD k 0 := ⟨_, rfl⟩
      obtain ⟨y, hy⟩ : ∃ y, y = L2.getD k 0 := ⟨_, rfl⟩
      have e1 : wr.cell? ⟨b1, o1 + k, none⟩ = some (.int .i64 x) := by rw [hx, ← H1.out k hlt]; exact hnx.cell (p := ⟨b1, o1 + k, none⟩) hb1
      have e2 : wr.cell? ⟨b2, o2 + k, none⟩ = some (.int .i64 y) := by rw [hy, ← H2.out k hlt]; exact hnx.cell (p := ⟨b2, o2 + k, none⟩) hb2
      have T1 : Hid (L1.take (k + 1) = L1.take k ++ [x]) := by show _ = _; rw [hx]; exact take_snoc L1 k (by rw [N1.out]; exact hlt)
      have T2 : Hid (L2.take (k + 1) = L2.take k ++ [y]) := by show _ = _; rw [hy]; exact take_snoc L2 k (by rw [N2.out]; exact hlt)
      clear hx hy hnx
      have i0 : (0 : Int) ≤ (k : Int) := by omega
      have i1 : (k : Int) < (n : Int) := by omega
      go_wp2
      go_quiet (fail)
      by_cases hxy : x = y
      · subst hxy
        go_wp2
        go_roundw
        case rel => exact ⟨k + 1, by omega, by go_num, by rw [T1.out, T2.out, HQ.out], below_drewN HB.out _⟩
        case measure => simp [intOf]; omega
      · have HF : Hid (R = false) := by
          show _ = _
          rw [HR.out]
          refine decide_eq_false fun h => hxy ?_
          have h1 := T1.out
          rw [h, T2.out] at h1
          have := List.append_cancel_left h1
          simpa using this.symm
        have hb : (x == y) = false := beq_eq_false_iff_ne.2 hxy
        clear hxy
        go_wp2
        go_returns
        exact ⟨ret_bool HF.out.symm, below_drewN HB.out _⟩
    · have HF : Hid (R = true) := by
        show _ = _
        rw [HR.out]
        refine decide_eq_true ?_
        have := HQ.out
        rw [List.take_of_length_le (by rw [N1.out]; omega), List.take_of_length_le (by rw [N2.out]; omega)] at this
        exact this
      clear hnx
      go_wp2
      go_returns
      exact ⟨ret_bool HF.out.symm, HB.out⟩

set_option maxHeartbeats 1000000 in
theorem refints_any (v1 v2 : Value) (L1 L2 : List Int) (B : Nat) (w : World) (h1 : Ints w B v1 L1) (h2 : Ints w B v2 L2) (hB : B ≤ w.heap.size) (hm : L1.length ≤ 1000000) :
    Calls Try.prog 64 #[v1, v2] w fun e w' => e = .returned (.bool (decide (L1 = L2))) ∧ Below w.heap.size w w' := by
  obtain ⟨a1, c1, rfl, _, m1, _, g1⟩ := h1
  obtain ⟨a2, c2, rfl, _, m2, _, g2⟩ := h2
  by_cases he : L1.length = L2.length
  · by_cases h0 : L1.length = 0
    · have e1 : L1 = [] := List.eq_nil_of_length_eq_zero h0
      have e2 : L2 = [] := List.eq_nil_of_length_eq_zero (by omega)
      subst e1 e2
      clear g1 g2
      go_enter Try.func64, Try.ntmps64
      go_wp2
      refine wp_loop_rounds 1 ?_
      rw [rounds_succ]
      go_wp2
      go_returns
      exact ⟨rfl, Below.refl _ _⟩
    · obtain ⟨b1, o1, rfl, hb1, hc1⟩ := g1 (by intro h; rw [h] at h0; simp at h0)
      obtain ⟨b2, o2, rfl, hb2, hc2⟩ := g2 (by intro h; rw [h] at he; simp at he; exact h0 (by simp [he]))
      rw [← he] at hc2 ⊢
      exact refints_same b1 o1 b2 o2 L1.length c1 c2 L1 L2 w rfl he.symm hm (by omega) (by omega) hc1 hc2
  · have hr : decide (L1 = L2) = false := decide_eq_false fun h => he (by rw [h])
    rw [hr]
    obtain ⟨n1, hn1⟩ : ∃ n, n = L1.length := ⟨_, rfl⟩
    obtain ⟨n2, hn2⟩ : ∃ n, n = L2.length := ⟨_, rfl⟩
    rw [← hn1, ← hn2]
    have hne : ((n1 : Int) == (n2 : Int)) = false := by rw [beq_eq_false_iff_ne]; omega
    clear g1 g2 hr hn1 hn2 he hm
    go_enter Try.func64, Try.ntmps64
    go_wp2
    go_returns
    exact ⟨rfl, Below.refl _ _⟩

end Go.Proofs.Ytenjjgghoacboaa
