/-
  THE REFERENCE's STORE: Ask, Ids.
-/
import Derived.Test.YtenjjgghoacboaaStoreG
namespace Go.Proofs.Ytenjjgghoacboaa
open Go.RowKit

/-! ### Ids -/
set_option maxRecDepth 100000 in
set_option maxHeartbeats 2000000 in
theorem rids_in (b : Nat) (r : Nat → List VerV) (w : World) (HV : Hid (∀ i, i < 32 → ∃ ao cap, ∀ u, Below w.heap.size w u → u.cell? ⟨b, 2 + i, none⟩ = some (.slice ao (r i).length cap))) (hlen : ∀ k, k < 32 → (r k).length ≤ 1000000) :
    Calls Try.prog 88 #[.pointer (some ⟨b, 0, none⟩)] w fun e w' => ∃ v, e = .returned v ∧ w'.ownsRow w.heap.size 3 1 v (idsV r 32).length (intCells ((idsV r 32).map fun j : Nat => (j : Int))) ∧ Below w.heap.size w w' := by
  obtain ⟨i0, hi, hz0, hz1, hz2⟩ := info_parts info_intH
  have HL := Lib.hid hlen
  clear hlen
  go_enter Try.func88, Try.ntmps88
  go_wp2
  go_loopw [3, 4] (fun vo vi wr => ∃ (k n : Nat) (a : Option Addr) (c : Nat), k ≤ 32 ∧ vi = .int .i64 k ∧ vo = .slice a n c ∧ Hid (n = (idsV r k).length) ∧ wr.ownsRow w.heap.size 3 1 (.slice a n c) n (intCells ((idsV r k).map fun j : Nat => (j : Int))) ∧ Below w.heap.size w wr) (fun _ vi _ => 32 - (intOf vi).toNat)
  case atStart => exact ⟨0, 0, none, 0, by omega, rfl, rfl, (show _ = _ from rfl), World.ownsRow_nil _ _ _ _, Below.refl _ _⟩
  case round =>
    obtain ⟨k, n, a, c, hk, rfl, rfl, HN, hrow, hbel⟩ := hrel
    have HB := Lib.hid hbel
    have HR := Lib.hid hrow
    clear hrow
    by_cases hlt : k < 32
    · obtain ⟨ao, cap, hcc⟩ := HV.out k hlt
      have ck := hcc wr hbel
      have hl6 := HL.out k hlt
      have hn32 : n ≤ 32 := by have := HN.out; have := idsV_len r k; omega
      have k0 : (0 : Int) ≤ (k : Int) := by omega
      have k1 : (k : Int) < 32 := by omega
      have k2 : (k : Int) ≤ 31 := by omega
      clear hcc hbel
      by_cases hz : (r k).length = 0
      · have HE : Hid (idsV r (k + 1) = idsV r k) := idsV_no r k hz
        rw [hz] at ck
        clear hz
        go_wp2
        go_roundw
        case rel => exact ⟨k + 1, n, a, c, by omega, by go_num, rfl, (show _ = _ by rw [HE.out]; exact HN.out), by rw [HE.out]; exact HR.out, HB.out⟩
        case measure => simp [intOf]; omega
      · have HE : Hid (idsV r (k + 1) = idsV r k ++ [k]) := idsV_yes r k (by omega)
        have hp : 0 < (r k).length := by omega
        generalize (r k).length = m at ck hp hl6
        clear hz
        go_wp2_with (at_builtin; refine wpList_append_own_src rfl (.tmp 17) (.tmp 19) 41 41 rfl w.heap.size 3 i0 (.int .i64 0) 1 8 Try.underlying41 hi hz0 hz1 hz2 rfl _ _ _ rfl (HR.out.alloc _) _ 1 [Value.int .i64 (k : Int)] rfl (src_one_int wr _ _ rfl) ?c3 ?c4 ?c5 ?_)
        case c3 => unfold maxLen; omega
        case c4 => omega
        case c5 => have := HB.out.size; simp; omega
        intro v' w1 hown' hgrow
        obtain ⟨a', c', rfl⟩ := own_shape hown'
        have HO := Lib.hid hown'
        have HB1 : Hid (Below w.heap.size w w1) := (HB.out.alloc HB.out.size _).grown hgrow (by have := HB.out.size; simp; omega) (fun j hj => (HR.out.lt j hj).1)
        clear hown' hgrow
        go_wp2
        go_roundw
        case rel =>
          refine ⟨k + 1, n + 1, a', c', by omega, by go_num, rfl, (show _ = _ by rw [HE.out, List.length_append, HN.out]; rfl), ?_, HB1.out⟩
          have h := HO.out
          rw [HE.out]
          simpa [intCells] using h
        case measure => simp [intOf]; omega
    · obtain rfl : k = 32 := by omega
      go_wp2
      go_returns
      exact ⟨_, rfl, by rw [← HN.out]; exact HR.out, HB.out⟩
theorem rids_r (b : Nat) (s : StoV) (w : World) (h : Sto layR w b s) (hlen : ∀ k, k < 32 → (s.res k).length ≤ 1000000) :
    Calls Try.prog 88 #[.pointer (some ⟨b, 0, none⟩)] w fun e W' => ∃ v, e = .returned v ∧ W'.ownsRow w.heap.size 3 1 v (idsV s.res 32).length (intCells (idL s)) ∧ Below w.heap.size w W' := by
  have hbl := h.lt
  refine rids_in b s.res w (fun i hi => ?_) hlen
  obtain ⟨ao, cap, hcc, _⟩ := sto_resR h i hi
  exact ⟨ao, cap, fun u hu => (hu.cell (p := ⟨b, 2 + i, none⟩) hbl).trans hcc⟩
end Go.Proofs.Ytenjjgghoacboaa
