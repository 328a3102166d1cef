/-
  THE PROGRAM's TABLE gone over in its order, by contract.
-/
import Derived.RangeFuncNested
import Derived.RangeFuncBound
import Derived.RangeFuncCalls
import Derived.RangeFuncLeaves
import Derived.RangeFuncBox
import Derived.Shelf.Abstract
import Derived.Shelf.RegionOpen
import Derived.WalkKit
import Derived.OwnWalkIn
import Derived.TacticsInMore
import Derived.LoopNIn
import Derived.LoopIn
import Derived.Maps.AppendAt
import Derived.Sort.QuietIn
import Derived.Test.YticokpaegadbbaaStoreN
namespace Go.Proofs.Yticokpaegadbbaa
open Go.RowKit Go.Shelf

attribute [local go_sem] Oper.semAt_some

/-- An id. -/
structure Ent where
  i : Nat
  h : i < 32
def entV (k : Nat) : Ent := ⟨min k 31, by omega⟩
/-- The ids that have come when k rounds are over, of those that have versions. -/
def idsV (r : Nat → List VerV) (k : Nat) : List Nat := (List.range k).filter fun j => decide (0 < (r j).length)
def comeS (r : Nat → List VerV) (k : Nat) : List Ent := (idsV r k).map entV
theorem idsV_yes (r : Nat → List VerV) (k : Nat) (h : 0 < (r k).length) : idsV r (k + 1) = idsV r k ++ [k] := by
  simp [idsV, List.range_succ, h]
theorem idsV_no (r : Nat → List VerV) (k : Nat) (h : (r k).length = 0) : idsV r (k + 1) = idsV r k := by
  simp [idsV, List.range_succ, h]
theorem idsV_len (r : Nat → List VerV) (k : Nat) : (idsV r k).length ≤ k := by
  have := List.length_filter_le (fun j => decide (0 < (r j).length)) (List.range k)
  simpa [idsV] using this
theorem comeS_len (r : Nat → List VerV) (k : Nat) : (comeS r k).length ≤ k := by simpa [comeS] using idsV_len r k
def encS (sl : Nat → Value) (x : Ent) : Array Value := #[.int .i64 (x.i : Int), sl x.i]
theorem enc_ent (sl : Nat → Value) (k : Nat) (h : k < 32) : encS sl (entV k) = #[.int .i64 (k : Int), sl k] := by
  have e : min k 31 = k := by omega
  simp only [encS, entV, e]

theorem drewN_below {B : Nat} {a w : World} (h : Below B a w) (n : Nat) : Below B a (w.drewN n) := ⟨h.os, h.tape, h.output, h.size, h.block⟩
theorem drewN_grown (w : World) (n : Nat) : w.grownBy (w.drewN n) none := ⟨rfl, rfl, rfl, Nat.le_refl _, fun _ _ _ => rfl⟩

set_option maxRecDepth 100000 in
set_option maxHeartbeats 2000000 in
theorem inorder1_in (F : Fence) (n : Nat) (h7 : F.fn 58) (hro : F.round = none) (hn : 1 ≤ n) (l Bs n₀ b : Nat) (r : Nat → List VerV) (sl : Nat → Value) (hsl : ∀ k, k < 32 → ∃ ao cap, sl k = .slice ao (r k).length cap) (hlen : ∀ k, k < 32 → (r k).length ≤ 1000000) (hb : b < n₀) (J Jx : List Ent → World → Prop)
    (hY : ∀ pre x W, J pre W → pre.length < 32 → YieldAt F (n - 1) Try.prog l (encS sl x) W fun e W' =>
      (e = .returned (.bool true) ∧ J (pre ++ [x]) W' ∧ Below n₀ W W') ∨ (e = .returned (.bool false) ∧ Jx (pre ++ [x]) W'))
    (W : World) (_ : n₀ ≤ W.heap.size) (hJa : AbidesFrom W.heap.size J) (hBs : W.cell? ⟨Bs, 0, none⟩ = some (.pointer (some ⟨b, 26, none⟩)))
    (hc : ∀ k, k < 32 → W.cell? ⟨b, 26 + k, none⟩ = some (sl k)) (h0 : J [] W) :
    CallsIn F n Try.prog 58 #[.func (.yield l) #[] #[], .pointer (some ⟨Bs, 0, none⟩)] W fun e W' => (∃ v, e = .returned v) ∧
      ((∃ ys, ys = comeS r 32 ∧ J ys W') ∨ (∃ pre, (∃ k, k ≤ 32 ∧ pre = comeS r k) ∧ Jx pre W')) := by
  have HC := Lib.hid hc
  have HS := Lib.hid hsl
  have HL := Lib.hid hlen
  clear hc hsl hlen
  refine callsIn_of_wp Try.func58 rfl h7 ?_ hro
  simp only [Try.ntmps58, List.size_toArray, List.length_cons, List.length_nil, Nat.reduceAdd, Nat.reduceSub, Array.replicate_succ, Array.replicate_zero, List.push_toArray, List.append_toArray, List.nil_append, List.cons_append]
  gi_wp2
  gi_loopw [7] (fun i wr => ∃ k : Nat, k ≤ 32 ∧ i = .int .i64 k ∧ J (comeS r k) wr ∧ Below n₀ W wr)
    (fun i _ => 32 - (intOf i).toNat)
  case atStart => exact ⟨0, by omega, rfl, h0, Below.refl _ _⟩
  case round =>
    obtain ⟨k, hk, rfl, hJs, hnx⟩ := hrel
    by_cases hlt : k < 32
    · obtain ⟨ao, cap, hs⟩ := HS.out k hlt
      have c0 : wr.cell? ⟨b, 26 + k, none⟩ = some (.slice ao (r k).length cap) := by rw [← hs]; exact (hnx.cell (p := ⟨b, 26 + k, none⟩) hb).trans (HC.out k hlt)
      have hl6 := HL.out k hlt
      have i0 : (0 : Int) ≤ (k : Int) := by omega
      have i1 : (k : Int) < 32 := by omega
      have HX := Lib.hid hs
      by_cases hz : (r k).length = 0
      · have HE : Hid (comeS r (k + 1) = comeS r k) := by show _ = _; unfold comeS; rw [idsV_no r k hz]
        clear hs
        rw [hz] at c0
        clear hz
        gi_wp2
        refine wpIn_region_quiet_lit hro (by kernel_rfl) (by kernel_rfl) ?_
        repeat (gi_big_quiet_step (fail))
        refine wpQuietIn_nil ?_
        intro _ hw'
        obtain ⟨nq, hw''⟩ := hw'
        subst hw''
        have hJd : J (comeS r (k + 1)) (wr.drewN nq) := by rw [HE.out]; exact hJa _ _ _ none hJs (drewN_grown wr nq) (fun r e => by cases e)
        have hBd : Below n₀ W (wr.drewN nq) := drewN_below hnx nq
        have KJ := Lib.hid hJd
        have KB := Lib.hid hBd
        clear hJd hBd hJs hnx c0 hJa hY HC HX HE
        gi_wp2
        all_goals
          refine ⟨fun _ h => (by cases h), ?_⟩
          gi_wp2
          go_roundw
          case rel => exact ⟨k + 1, by omega, by simp, KJ.out, KB.out⟩
          case measure => simp [intOf]; omega
      · have HE : Hid (comeS r (k + 1) = comeS r k ++ [entV k]) := by show _ = _; unfold comeS; rw [idsV_yes r k (by omega)]; simp
        have hp : 0 < (r k).length := by omega
        generalize hm : (r k).length = m at c0 hp hl6
        rw [hm] at HX
        clear hs hz hm
        gi_wp2
        refine wpIn_region_quiet_lit hro (by kernel_rfl) (by kernel_rfl) ?_
        repeat (gi_big_quiet_step (fail))
        refine wpQuietIn_nil ?_
        intro _ hw'
        obtain ⟨nq, hw''⟩ := hw'
        subst hw''
        have hJd : J (comeS r k) (wr.drewN nq) := hJa _ _ _ none hJs (drewN_grown wr nq) (fun r e => by cases e)
        have hBd : Below n₀ W (wr.drewN nq) := drewN_below hnx nq
        obtain ⟨fn, tmps, assign, body, hy, hR⟩ := hY _ (entV k) (wr.drewN nq) hJd (Nat.lt_of_le_of_lt (comeS_len r k) hlt)
        rw [enc_ent _ _ hlt, HX.out] at hy
        gi_wp2
        refine hR.mono ?_
        rintro e W3 (⟨rfl, hJ3, hk3⟩ | ⟨rfl, hJx3⟩)
        · gi_wp2
          go_roundw
          case rel => exact ⟨k + 1, by omega, by simp, by rw [HE.out]; exact hJ3, hBd.trans hk3⟩
          case measure => simp [intOf]; omega
        · gi_wp2
          refine bodyPost_ret (results_none rfl _ _ _) rfl ?_
          exact ⟨⟨_, rfl⟩, .inr ⟨_, ⟨k + 1, by omega, by rw [HE.out]⟩, hJx3⟩⟩
    · obtain rfl : k = 32 := by omega
      gi_wp2
      go_end0
      exact ⟨⟨_, rfl⟩, .inl ⟨_, rfl, hJs⟩⟩

set_option maxRecDepth 100000 in
set_option maxHeartbeats 1000000 in
theorem inorder_in (F : Fence) (n : Nat) (h5 : F.fn 41) (hro : F.round = none) (p : Option Addr) (w : World) :
    CallsIn F n Try.prog 41 #[.pointer p] w fun e w' => e = .returned (.func (.func 58) #[] #[.pointer (some ⟨w.heap.size, 0, none⟩)]) ∧ w' = w.alloc (.cells #[.pointer p] 90) := by
  refine callsIn_of_wp Try.func41 rfl h5 ?_ hro
  simp only [Try.ntmps41, List.size_toArray, List.length_cons, List.length_nil, Nat.reduceAdd, Nat.reduceSub, Array.replicate_succ, Array.replicate_zero, List.push_toArray, List.append_toArray, List.nil_append, List.cons_append]
  gi_wp2
  go_ret
  exact ⟨rfl, rfl⟩

theorem inorder_stops (F : Fence) (n : Nat) (h8 : F.fn 58) (hro : F.round = none) (hn : 1 ≤ n) (Bs n₀ b : Nat) (r : Nat → List VerV) (sl : Nat → Value) (hsl : ∀ k, k < 32 → ∃ ao cap, sl k = .slice ao (r k).length cap) (hlen : ∀ k, k < 32 → (r k).length ≤ 1000000) (w : World) (hBs : Bs < w.heap.size) (hn₀ : n₀ ≤ w.heap.size)
    (hb : b < n₀) (hc : w.cell? ⟨Bs, 0, none⟩ = some (.pointer (some ⟨b, 26, none⟩))) (hI : ∀ k, k < 32 → w.cell? ⟨b, 26 + k, none⟩ = some (sl k)) :
    SeqStopsK F n Try.prog 58 #[.pointer (some ⟨Bs, 0, none⟩)] (encS sl) (Below n₀) (fun ys => ys = comeS r 32) (fun pre => ∃ k, k ≤ 32 ∧ pre = comeS r k) 32 w := fun l J Jx W hW hJa _ hY h0 => by
  have hc' := (hW.cell (p := ⟨Bs, 0, none⟩) hBs).trans hc
  have hI' : ∀ k, k < 32 → W.cell? ⟨b, 26 + k, none⟩ = some (sl k) := fun k hk => (hW.cell (p := ⟨b, 26 + k, none⟩) (show b < w.heap.size by omega)).trans (hI k hk)
  exact inorder1_in F n h8 hro hn l Bs n₀ b r sl hsl hlen hb J Jx hY W (Nat.le_trans hn₀ hW.size) hJa hc' hI' h0
end Go.Proofs.Yticokpaegadbbaa
