/-
  THE REFERENCE's Place, below, Follows. Of chains of at most a million nodes.
-/
import Derived.Test.YtomjlhmkmihbeaaChainE
import Derived.Test.YtomjlhmkmihbeaaChainA
import Derived.Test.YtomjlhmkmihbeaaItemRC
import Derived.Test.YtomjlhmkmihbeaaPackBase
namespace Go.Proofs.Ytomjlhmkmihbeaa
open Go.RowKit

theorem wrap_up (n : Nat) (h : n ≤ 1000000) : wrap64 ((n : Int) + 1) = (n : Int) + 1 := IntWalk.wrap64_in _ (by omega)
theorem wrap_down (n : Nat) (h : n ≤ 1000000) : wrap64 ((n : Int) - 1) = (n : Int) - 1 := IntWalk.wrap64_in _ (by omega)

set_option maxHeartbeats 2000000 in
theorem rhplace_r (ep : Int) (v : Value) (L : List Int) (x : Int) (B : Nat) (w : World) (hI : Ints w B v L) (hB : B ≤ w.heap.size) (hlim : L.length ≤ 1000000) {R : Int} (hR : plcV L x = R) :
    Calls Try.prog 44 #[.agg #[.int .i64 ep, v], .int .i64 x] w fun e w' => e = .returned (.int .i64 R) ∧ Below w.heap.size w w' := by
  have HR := Lib.hid hR
  obtain ⟨a0, c0, rfl⟩ : ∃ a c, v = .slice a L.length c := by obtain ⟨a, c, h, _⟩ := hI; exact ⟨a, c, h⟩
  obtain ⟨n, hn⟩ : ∃ n, n = L.length := ⟨_, rfl⟩
  rw [← hn] at hI hlim ⊢
  have HN := Lib.hid hn
  have HI := Lib.hid hI
  clear hR hn hI
  go_enter Try.func44, Try.ntmps44
  go_wp2
  go_loopw [5] (fun s5 wr => ∃ k : Nat, k ≤ n ∧ s5 = .int .i64 k ∧ Hid (x ∉ L.take k) ∧ Hid (ChT wr w.heap.size ep (.slice a0 n c0) ∧ Below w.heap.size w wr)) (fun s5 _ => n - (intOf s5).toNat)
  case atStart => exact ⟨0, Nat.zero_le _, rfl, by show _ ∉ _; simp, ChT.fresh w _ _, (Below.refl _ w).alloc (Nat.le_refl _) _⟩
  case round =>
    obtain ⟨k, hk, rfl, HK, HC⟩ := hrel
    obtain ⟨d0, d1, _, _⟩ := HC.out.1.cells
    by_cases hlt : k < n
    · obtain ⟨b, off, rfl, hb, hc0⟩ := (ints_cell HI.out).2 k hlt
      have hc := (HC.out.2.cell (p := ⟨b, off + k, none⟩) (show b < w.heap.size by omega)).trans hc0
      have k1 : (k : Int) < (n : Int) := by omega
      have k0 : (0 : Int) ≤ (k : Int) := by omega
      obtain ⟨y, hy⟩ : ∃ y, y = L.getD k 0 := ⟨_, rfl⟩
      rw [← hy] at hc
      have HY := Lib.hid hy
      clear hy hc0
      by_cases hxy : y = x
      · have HF : Hid (R = (k : Int)) := by
          show _ = _
          rw [← HR.out]
          obtain ⟨h1, h2⟩ := idx_first (L := L) (k := k) (x := x) (by have := HN.out; omega) (by rw [← HY.out, hxy]) HK.out
          unfold plcV
          rw [if_pos h1, h2]
        subst hxy
        go_wp2
        go_returns
        exact ⟨ret_num HF.out.symm, HC.out.2⟩
      · have HF : Hid (x ∉ L.take (k + 1)) := not_take (by have := HN.out; omega) HK.out (fun e => hxy (HY.out.trans e))
        have hb2 : (y == x) = false := beq_eq_false_iff_ne.2 hxy
        clear hxy
        go_wp2
        go_roundw
        case rel => exact ⟨k + 1, by omega, by go_num, HF.out, HC.out⟩
        case measure => simp [intOf]; omega
    · have hle : (n : Int) ≤ (k : Int) := by omega
      have HF : Hid (R = -1) := by
        show _ = _
        rw [← HR.out]
        unfold plcV
        rw [if_neg (not_first (by have := HN.out; omega) HK.out)]
      go_wp2
      go_returns
      exact ⟨ret_num HF.out.symm, HC.out.2⟩

end Go.Proofs.Ytomjlhmkmihbeaa
