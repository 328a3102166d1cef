/-
  THE PROGRAM's STORE: its table in order, Ids; Put and Ask as one contract each; the laws' few and told. Merged by gen/merge.py.
-/
import Derived.RangeFuncNested
import Derived.RangeFuncBound
import Derived.RangeFuncCalls
import Derived.RangeFuncLeaves
import Derived.RangeFuncBox
import Derived.Shelf.Abstract
import Derived.Shelf.RegionOpen
import Derived.WalkKit
import Derived.OwnWalkIn
import Derived.TacticsInMore
import Derived.LoopNIn
import Derived.LoopIn
import Derived.Maps.AppendAt
import Derived.Sort.QuietIn
import Derived.Test.YtenjjgghoacboaaChartH2
import Derived.Test.YtenjjgghoacboaaStoreP
import Derived.Test.YtenjjgghoacboaaChartArgs
/-! ## StoreH -/
/-
  THE PROGRAM's TABLE gone over in its order, by contract.
-/
namespace Go.Proofs.Ytenjjgghoacboaa
open Go.RowKit Go.Shelf

attribute [local go_sem] Oper.semAt_some

/-- An id. -/
structure Ent where
  i : Nat
  h : i < 32
def entV (k : Nat) : Ent := ⟨min k 31, by omega⟩
/-- The ids that have come when k rounds are over, of those that have versions. -/
def idsV (r : Nat → List VerV) (k : Nat) : List Nat := (List.range k).filter fun j => decide (0 < (r j).length)
def comeS (r : Nat → List VerV) (k : Nat) : List Ent := (idsV r k).map entV
theorem idsV_yes (r : Nat → List VerV) (k : Nat) (h : 0 < (r k).length) : idsV r (k + 1) = idsV r k ++ [k] := by
  simp [idsV, List.range_succ, h]
theorem idsV_no (r : Nat → List VerV) (k : Nat) (h : (r k).length = 0) : idsV r (k + 1) = idsV r k := by
  simp [idsV, List.range_succ, h]
theorem idsV_len (r : Nat → List VerV) (k : Nat) : (idsV r k).length ≤ k := by
  have := List.length_filter_le (fun j => decide (0 < (r j).length)) (List.range k)
  simpa [idsV] using this
theorem comeS_len (r : Nat → List VerV) (k : Nat) : (comeS r k).length ≤ k := by simpa [comeS] using idsV_len r k
def encS (sl : Nat → Value) (x : Ent) : Array Value := #[.int .i64 (x.i : Int), sl x.i]
theorem enc_ent (sl : Nat → Value) (k : Nat) (h : k < 32) : encS sl (entV k) = #[.int .i64 (k : Int), sl k] := by
  have e : min k 31 = k := by omega
  simp only [encS, entV, e]

theorem drewN_below {B : Nat} {a w : World} (h : Below B a w) (n : Nat) : Below B a (w.drewN n) := ⟨h.os, h.tape, h.output, h.size, h.block⟩
theorem drewN_grown (w : World) (n : Nat) : w.grownBy (w.drewN n) none := ⟨rfl, rfl, rfl, Nat.le_refl _, fun _ _ _ => rfl⟩

set_option maxRecDepth 100000 in
set_option maxHeartbeats 2000000 in
theorem inorder1_in (F : Fence) (n : Nat) (h7 : F.fn 101) (hro : F.round = none) (hn : 1 ≤ n) (l Bs n₀ b : Nat) (r : Nat → List VerV) (sl : Nat → Value) (hsl : ∀ k, k < 32 → ∃ ao cap, sl k = .slice ao (r k).length cap) (hlen : ∀ k, k < 32 → (r k).length ≤ 1000000) (hb : b < n₀) (J Jx : List Ent → World → Prop)
    (hY : ∀ pre x W, J pre W → pre.length < 32 → YieldAt F (n - 1) Try.prog l (encS sl x) W fun e W' =>
      (e = .returned (.bool true) ∧ J (pre ++ [x]) W' ∧ Below n₀ W W') ∨ (e = .returned (.bool false) ∧ Jx (pre ++ [x]) W'))
    (W : World) (_ : n₀ ≤ W.heap.size) (hJa : AbidesFrom W.heap.size J) (hBs : W.cell? ⟨Bs, 0, none⟩ = some (.pointer (some ⟨b, 26, none⟩)))
    (hc : ∀ k, k < 32 → W.cell? ⟨b, 26 + k, none⟩ = some (sl k)) (h0 : J [] W) :
    CallsIn F n Try.prog 101 #[.func (.yield l) #[] #[], .pointer (some ⟨Bs, 0, none⟩)] W fun e W' => (∃ v, e = .returned v) ∧
      ((∃ ys, ys = comeS r 32 ∧ J ys W') ∨ (∃ pre, (∃ k, k ≤ 32 ∧ pre = comeS r k) ∧ Jx pre W')) := by
  have HC := Lib.hid hc
  have HS := Lib.hid hsl
  have HL := Lib.hid hlen
  clear hc hsl hlen
  refine callsIn_of_wp Try.func101 rfl h7 ?_ hro
  simp only [Try.ntmps101, List.size_toArray, List.length_cons, List.length_nil, Nat.reduceAdd, Nat.reduceSub, Array.replicate_succ, Array.replicate_zero, List.push_toArray, List.append_toArray, List.nil_append, List.cons_append]
  gi_wp2
  gi_loopw [7] (fun i wr => ∃ k : Nat, k ≤ 32 ∧ i = .int .i64 k ∧ J (comeS r k) wr ∧ Below n₀ W wr)
    (fun i _ => 32 - (intOf i).toNat)
  case atStart => exact ⟨0, by omega, rfl, h0, Below.refl _ _⟩
  case round =>
    obtain ⟨k, hk, rfl, hJs, hnx⟩ := hrel
    by_cases hlt : k < 32
    · obtain ⟨ao, cap, hs⟩ := HS.out k hlt
      have c0 : wr.cell? ⟨b, 26 + k, none⟩ = some (.slice ao (r k).length cap) := by rw [← hs]; exact (hnx.cell (p := ⟨b, 26 + k, none⟩) hb).trans (HC.out k hlt)
      have hl6 := HL.out k hlt
      have i0 : (0 : Int) ≤ (k : Int) := by omega
      have i1 : (k : Int) < 32 := by omega
      have HX := Lib.hid hs
      by_cases hz : (r k).length = 0
      · have HE : Hid (comeS r (k + 1) = comeS r k) := by show _ = _; unfold comeS; rw [idsV_no r k hz]
        clear hs
        rw [hz] at c0
        clear hz
        gi_wp2
        refine wpIn_region_quiet_lit hro (by kernel_rfl) (by kernel_rfl) ?_
        repeat (gi_big_quiet_step (fail))
        refine wpQuietIn_nil ?_
        intro _ hw'
        obtain ⟨nq, hw''⟩ := hw'
        subst hw''
        have hJd : J (comeS r (k + 1)) (wr.drewN nq) := by rw [HE.out]; exact hJa _ _ _ none hJs (drewN_grown wr nq) (fun r e => by cases e)
        have hBd : Below n₀ W (wr.drewN nq) := drewN_below hnx nq
        have KJ := Lib.hid hJd
        have KBd := Lib.hid hBd
        clear hJd hBd hJs hnx c0 hJa hY HC HX HE
        gi_wp2
        all_goals
          refine ⟨fun _ h => (by cases h), ?_⟩
          gi_wp2
          go_roundw
          case rel => exact ⟨k + 1, by omega, by simp, KJ.out, KBd.out⟩
          case measure => simp [intOf]; omega
      · have HE : Hid (comeS r (k + 1) = comeS r k ++ [entV k]) := by show _ = _; unfold comeS; rw [idsV_yes r k (by omega)]; simp
        have hp : 0 < (r k).length := by omega
        generalize hm : (r k).length = m at c0 hp hl6
        rw [hm] at HX
        clear hs hz hm
        gi_wp2
        refine wpIn_region_quiet_lit hro (by kernel_rfl) (by kernel_rfl) ?_
        repeat (gi_big_quiet_step (fail))
        refine wpQuietIn_nil ?_
        intro _ hw'
        obtain ⟨nq, hw''⟩ := hw'
        subst hw''
        have hJd : J (comeS r k) (wr.drewN nq) := hJa _ _ _ none hJs (drewN_grown wr nq) (fun r e => by cases e)
        have hBd : Below n₀ W (wr.drewN nq) := drewN_below hnx nq
        obtain ⟨fn, tmps, assign, body, hy, hR⟩ := hY _ (entV k) (wr.drewN nq) hJd (Nat.lt_of_le_of_lt (comeS_len r k) hlt)
        rw [enc_ent _ _ hlt, HX.out] at hy
        gi_wp2
        refine hR.mono ?_
        rintro e W3 (⟨rfl, hJ3, hk3⟩ | ⟨rfl, hJx3⟩)
        · gi_wp2
          go_roundw
          case rel => exact ⟨k + 1, by omega, by simp, by rw [HE.out]; exact hJ3, hBd.trans hk3⟩
          case measure => simp [intOf]; omega
        · gi_wp2
          refine bodyPost_ret (results_none rfl _ _ _) rfl ?_
          exact ⟨⟨_, rfl⟩, .inr ⟨_, ⟨k + 1, by omega, by rw [HE.out]⟩, hJx3⟩⟩
    · obtain rfl : k = 32 := by omega
      gi_wp2
      go_end0
      exact ⟨⟨_, rfl⟩, .inl ⟨_, rfl, hJs⟩⟩

set_option maxRecDepth 100000 in
set_option maxHeartbeats 1000000 in
theorem inorder_in (F : Fence) (n : Nat) (h5 : F.fn 66) (hro : F.round = none) (p : Option Addr) (w : World) :
    CallsIn F n Try.prog 66 #[.pointer p] w fun e w' => e = .returned (.func (.func 101) #[] #[.pointer (some ⟨w.heap.size, 0, none⟩)]) ∧ w' = w.alloc (.cells #[.pointer p] 158) := by
  refine callsIn_of_wp Try.func66 rfl h5 ?_ hro
  simp only [Try.ntmps66, List.size_toArray, List.length_cons, List.length_nil, Nat.reduceAdd, Nat.reduceSub, Array.replicate_succ, Array.replicate_zero, List.push_toArray, List.append_toArray, List.nil_append, List.cons_append]
  gi_wp2
  go_ret
  exact ⟨rfl, rfl⟩

theorem inorder_stops (F : Fence) (n : Nat) (h8 : F.fn 101) (hro : F.round = none) (hn : 1 ≤ n) (Bs n₀ b : Nat) (r : Nat → List VerV) (sl : Nat → Value) (hsl : ∀ k, k < 32 → ∃ ao cap, sl k = .slice ao (r k).length cap) (hlen : ∀ k, k < 32 → (r k).length ≤ 1000000) (w : World) (hBs : Bs < w.heap.size) (hn₀ : n₀ ≤ w.heap.size)
    (hb : b < n₀) (hc : w.cell? ⟨Bs, 0, none⟩ = some (.pointer (some ⟨b, 26, none⟩))) (hI : ∀ k, k < 32 → w.cell? ⟨b, 26 + k, none⟩ = some (sl k)) :
    SeqStopsK F n Try.prog 101 #[.pointer (some ⟨Bs, 0, none⟩)] (encS sl) (Below n₀) (fun ys => ys = comeS r 32) (fun pre => ∃ k, k ≤ 32 ∧ pre = comeS r k) 32 w := fun l J Jx W hW hJa _ hY h0 => by
  have hc' := (hW.cell (p := ⟨Bs, 0, none⟩) hBs).trans hc
  have hI' : ∀ k, k < 32 → W.cell? ⟨b, 26 + k, none⟩ = some (sl k) := fun k hk => (hW.cell (p := ⟨b, 26 + k, none⟩) (show b < w.heap.size by omega)).trans (hI k hk)
  exact inorder1_in F n h8 hro hn l Bs n₀ b r sl hsl hlen hb J Jx hY W (Nat.le_trans hn₀ hW.size) hJa hc' hI' h0
end Go.Proofs.Ytenjjgghoacboaa

/-! ## StoreI -/
/-
  THE PROGRAM's STORE: Ids.
-/
namespace Go.Proofs.Ytenjjgghoacboaa
open Go.RowKit Go.Shelf

attribute [local go_sem] Oper.semAt_some

def entI (x : Ent) : Value := .int .i64 (x.i : Int)
theorem comeS_ints (r : Nat → List VerV) (k : Nat) (hk : k ≤ 32) : (comeS r k).map entI = intCells ((idsV r k).map fun j : Nat => (j : Int)) := by
  unfold comeS intCells
  rw [List.map_map, List.map_map]
  refine List.map_congr_left fun j hj => ?_
  have hj' : j < k := by simpa using (List.mem_filter.1 hj).1
  have e : min j 31 = j := by omega
  simp only [Function.comp, entI, entV, e]

set_option maxRecDepth 100000 in
set_option maxHeartbeats 2000000 in
theorem sids_in (F : Fence) (n : Nat) (h27 : F.fn 87) (h41 : F.fn 66) (h58 : F.fn 101) (hro : F.round = none) (hn : 3 ≤ n) (b : Nat) (r : Nat → List VerV) (sl : Nat → Value) (w : World) (hb : b < w.heap.size)
    (hsl : ∀ k, k < 32 → ∃ ao cap, sl k = .slice ao (r k).length cap) (hlen : ∀ k, k < 32 → (r k).length ≤ 1000000) (hI : ∀ k, k < 32 → w.cell? ⟨b, 26 + k, none⟩ = some (sl k)) :
    CallsIn F n Try.prog 87 #[.pointer (some ⟨b, 0, none⟩)] w fun e W' => ∃ v, e = .returned v ∧ W'.ownsRow w.heap.size 3 1 v (idsV r 32).length (intCells ((idsV r 32).map fun j : Nat => (j : Int))) ∧ Below w.heap.size w W' := by
  have h1 : 1 ≤ n := by omega
  obtain ⟨i0, hi, hz0, hz1, hz2⟩ := info_parts info_intH
  have HI0 := Lib.hid hI
  have HS := Lib.hid hsl
  have HL := Lib.hid hlen
  clear hI hsl hlen
  refine callsIn_of_wp_marks Try.func87 rfl h27 ?_ hro
  simp only [Try.ntmps87, List.size_toArray, List.length_cons, List.length_nil, Nat.reduceAdd, Nat.reduceSub, Array.replicate_succ, Array.replicate_zero, List.push_toArray, List.append_toArray, List.nil_append, List.cons_append]
  gi_wp2_with (gi_at_call 66; refine (inorder_in F (n - 1) h41 hro _ _).mono ?_; rintro e w' ⟨rfl, rfl⟩)
  obtain ⟨w3, hw3⟩ : ∃ w3, w3 = (w.alloc (.cells #[.slice none 0 0] 41)).alloc (.cells #[.pointer (some ⟨b, 26, none⟩)] 158) := ⟨_, rfl⟩
  have hs3 : w3.heap.size = w.heap.size + 2 := by rw [hw3]; simp
  have hB3 : Below w.heap.size w w3 := by rw [hw3]; exact ((Below.refl _ w).alloc (Nat.le_refl _) _).alloc (by simp) _
  have hX3 : Boxed w3 w.heap.size 41 (.slice none 0 0) := by rw [hw3]; exact Boxed.alloc (Boxed.new w 41 _) _
  have hN3 : w3.cell? ⟨w.heap.size + 1, 0, none⟩ = some (.pointer (some ⟨b, 26, none⟩)) := by
    rw [hw3]
    have := heap_alloc_new (w.alloc (.cells #[.slice none 0 0] 41)) (.cells #[.pointer (some ⟨b, 26, none⟩)] 158)
    rw [World.size_alloc] at this
    exact cell_of_one this
  rw [← hw3]
  clear hw3
  refine wpIn_rangeFunc_ownF hro h1 (gf := 101) (lb := #[.pointer (some ⟨w.heap.size + 1, 0, none⟩)]) rfl h58 (enters_of Try.func101 (by kernel_rfl) rfl)
    (inorder_stops F (n - 1) h58 hro (by omega) (w.heap.size + 1) w.heap.size b r sl HS.out HL.out w3 (by omega) (by omega) hb hN3 (fun k hk => (hB3.cell (p := ⟨b, 26 + k, none⟩) hb).trans (HI0.out k hk)))
    belowK_t (belowK_b (by omega)) (Below.refl _ _) (fun _ => rfl)
    (fun pre W => (∃ v, Boxed W w.heap.size 41 v ∧ W.ownsRow w.heap.size 3 1 v pre.length (pre.map entI) ∧ True) ∧ Below w.heap.size w W)
    (fun _ _ _ => False)
    (OwnFrom.and (Own.from (holdsRow_own w.heap.size w.heap.size 41 3 1 (fun pre : List Ent => pre.length) (fun pre => pre.map entI) (fun _ _ => True)) _) (ownFrom_below (Nat.le_refl _) (by omega)))
    (fun _ _ _ _ _ hs _ _ => hs)
    ⟨⟨_, hX3, World.ownsRow_nil _ _ _ _, trivial⟩, hB3⟩
    (fun x => { tmps := #[.pointer (some ⟨b, 0, none⟩), undef, .slice none 0 0, .pointer (some ⟨w.heap.size, 0, none⟩), .int .i64 (x.i : Int), .pointer (some ⟨b, 0, none⟩), .bool false, .pointer (some ⟨b, 0, none⟩), .pointer (some ⟨b, 0, none⟩), .pointer (some ⟨b, 26, none⟩),
        .func (.func 101) #[] #[.pointer (some ⟨w.heap.size + 1, 0, none⟩)], .int .i64 (x.i : Int), sl x.i, undef, undef, undef, undef, undef], defers := [] }) ?assign ?body ?done ?stop
  case assign =>
    intro l x W K hK
    simp only [encS]
    gi_wp2
    exact hK
  case body =>
    rintro l pre ⟨i, hi32⟩ W ⟨⟨v, hv, hrow, _⟩, hB⟩ hlt
    have hc := hv.cell
    have hl32 : pre.length < 32 := hlt
    have j0 : (0 : Int) ≤ (i : Int) := by omega
    have j1 : (i : Int) < 32 := by omega
    clear hlt
    dsimp only
    gi_wp2_with (gi_at_builtin; refine wpListIn_append_own _ rfl _ _ 41 rfl w.heap.size 3 i0 (.int .i64 0) 1 8 Try.underlying41 hi hz0 hz1 hz2 rfl (by decide) _ _ _ rfl (hrow.alloc _) ⟨W.heap.size, 0, none⟩ 1 1 [.int .i64 (i : Int)] rfl rfl (cell_one_new _ _ _) (by simp [Value.oneCell']) (by unfold maxLen; omega) (by omega) (by have := hB.size; simp; omega) ?_; intro v' w1 hown' hgrow _; obtain ⟨g', cap', rfl⟩ := ownsRow_succ hown'; obtain ⟨hv1, hv2, hr2, hk2, hb2⟩ := hv.appended (by decide) hrow hB.size (Nat.le_refl _) hown' hgrow; have hc1 := hv1.cell; have hf1 := hv1.frozen)
    exact ⟨hk2, hb2, ⟨_, hv2, by simpa [entI] using hr2, trivial⟩, hB.trans hb2⟩
  case done =>
    rintro D ys W hD rfl ⟨⟨v, hv, hrow, _⟩, hB⟩ hK
    have hc := hv.cell
    obtain ⟨a', c', rfl⟩ := own_shape hrow
    rw [comeS_ints r 32 (Nat.le_refl _)] at hrow
    have hcl : (comeS r 32).length = (idsV r 32).length := by simp [comeS]
    rw [hcl] at hrow hc hv
    gi_wp2
    refine ⟨by simp, .inl ⟨_, _, rfl, run_takeDeferred hK, ?_⟩⟩
    exact ⟨_, results_tmp rfl _ _ _, _, rfl, ownsRow_putObj hrow _ hK rfl, hB.trans (belowK_b (w := w) (Nat.le_refl _) W D _ _ (by omega) hK rfl rfl)⟩
  case stop =>
    rintro D c pre W _ _ h _
    exact h.elim

/-- The ids that have versions. -/
def idL (s : StoV) : List Int := (idsV s.res 32).map fun j : Nat => (j : Int)
theorem sto_slices {b : Nat} {s : StoV} {w : World} (h : Sto layP w b s) : ∃ sl : Nat → Value, (∀ k, k < 32 → ∃ ao cap, sl k = .slice ao (s.res k).length cap) ∧ (∀ k, k < 32 → w.cell? ⟨b, 26 + k, none⟩ = some (sl k)) ∧ ∀ k, k < 32 → Vers w w.heap.size (sl k) (s.res k) := by
  obtain ⟨f, hk, ht⟩ := h
  exact ⟨fun k => f (26 + k), fun k hk' => (ht.2.2.2.2 k hk').shape, fun k hk' => hk.cell (26 + k) (by omega), fun k hk' => ht.2.2.2.2 k hk'⟩
theorem sids_r (b : Nat) (s : StoV) (w : World) (h : Sto layP w b s) (hlen : ∀ k, k < 32 → (s.res k).length ≤ 1000000) :
    Calls Try.prog 87 #[.pointer (some ⟨b, 0, none⟩)] w fun e W' => ∃ v, e = .returned v ∧ W'.ownsRow w.heap.size 3 1 v (idsV s.res 32).length (intCells (idL s)) ∧ Below w.heap.size w W' := by
  obtain ⟨sl, h1, h2, _⟩ := sto_slices h
  exact callsIn_wide.1 (sids_in Fence.wide 3 trivial trivial trivial rfl (Nat.le_refl _) b s.res sl w h.lt h1 hlen h2)
set_option maxHeartbeats 400000 in
theorem sids_nil (w : World) : Calls Try.prog 87 #[.pointer none] w fun e w' => e = .returned (.slice none 0 0) ∧ w = w' := by
  go_enter Try.func87, Try.ntmps87
  go_wp2
  go_returns
  exact ⟨rfl, rfl⟩
end Go.Proofs.Ytenjjgghoacboaa

/-! ## StoreT -/
/-
  THE PROGRAM's STORE: Put and Ask as one contract each; the laws' few and told. No condition but that the store is within its bounds.
-/
namespace Go.Proofs.Ytenjjgghoacboaa
open Go.RowKit

/-- The store is within its bounds; at most N requests were put. -/
structure Fit (s : StoV) (N : Nat) : Prop where
  quota : 1 ≤ s.quota ∧ s.quota ≤ 100
  places : 0 ≤ s.places ∧ s.places ≤ N
  res : ∀ i, i < 32 → (s.res i).length ≤ 100 ∧ ∀ v ∈ s.res i, v.data.size ≤ 64
  cl : ∀ c, c < 4 → 0 ≤ (s.cl c).seq ∧ (s.cl c).seq ≤ 1073741824 ∧ 0 ≤ (s.cl c).place ∧ (s.cl c).place ≤ s.places
theorem Fit.new (q : Int) (h1 : 1 ≤ q) (h2 : q ≤ 100) : Fit (newV q) 0 :=
  ⟨⟨h1, h2⟩, ⟨Int.le_refl _, Int.le_refl _⟩, fun _ _ => ⟨Nat.zero_le _, by intro v hv; cases hv⟩, fun _ _ => ⟨Int.le_refl _, by show (0 : Int) ≤ _; omega, Int.le_refl _, Int.le_refl _⟩⟩
theorem Fit.mono {s : StoV} {N M : Nat} (h : Fit s N) (hm : N ≤ M) : Fit s M := ⟨h.quota, ⟨h.places.1, by have := h.places.2; omega⟩, h.res, h.cl⟩

/-- A request that may be and writes. -/
def ReqV.puts (q : ReqV) : Prop := q.may ∧ q.kind ≤ 3
instance (q : ReqV) : Decidable q.puts := by unfold ReqV.puts; infer_instance
/-- What Put makes and tells. -/
structure PutA where
  s : StoV
  code : Int
  ver : Int
  data : ByteArray
  err : Int
def putA (s : StoV) (q : ReqV) : PutA :=
  if ¬ q.puts then ⟨s, 0, 0, ⟨#[]⟩, 1⟩
  else if q.seq ≤ (s.cl q.client.toNat).seq then ⟨s, 0, 0, ⟨#[]⟩, 9⟩
  else ⟨putV s q.client.toNat q.id.toNat q.seq q.kind q.mtch q.data, (doR (s.res q.id.toNat) q.kind q.mtch s.quota).code, (doR (s.res q.id.toNat) q.kind q.mtch s.quota).ver, (doR (s.res q.id.toNat) q.kind q.mtch s.quota).data, 0⟩
theorem putA_bad (s : StoV) (q : ReqV) (h : ¬ q.puts) : putA s q = ⟨s, 0, 0, ⟨#[]⟩, 1⟩ := if_pos h
theorem putA_old (s : StoV) (q : ReqV) (h : q.puts) (h2 : q.seq ≤ (s.cl q.client.toNat).seq) : putA s q = ⟨s, 0, 0, ⟨#[]⟩, 9⟩ := by
  unfold putA; rw [if_neg (fun h' => h' h), if_pos h2]
theorem putA_done (s : StoV) (q : ReqV) (h : q.puts) (h2 : ¬ q.seq ≤ (s.cl q.client.toNat).seq) :
    putA s q = ⟨putV s q.client.toNat q.id.toNat q.seq q.kind q.mtch q.data, (doR (s.res q.id.toNat) q.kind q.mtch s.quota).code, (doR (s.res q.id.toNat) q.kind q.mtch s.quota).ver, (doR (s.res q.id.toNat) q.kind q.mtch s.quota).data, 0⟩ := by
  unfold putA; rw [if_neg (fun h' => h' h), if_neg h2]
theorem putA_nat (s : StoV) (c i : Nat) (sq kd mt : Int) (dt : ByteArray) (h : ReqV.puts ⟨c, sq, kd, i, mt, dt⟩) (h2 : ¬ sq ≤ (s.cl c).seq) :
    putA s ⟨c, sq, kd, i, mt, dt⟩ = ⟨putV s c i sq kd mt dt, (doR (s.res i) kd mt s.quota).code, (doR (s.res i) kd mt s.quota).ver, (doR (s.res i) kd mt s.quota).data, 0⟩ := putA_done s _ h h2
theorem doR_list (L : List VerV) (kd mt quota : Int) (h : wrV kd = true) : (doR L kd mt quota).list = [] := by
  unfold doR; rw [if_pos h]; split <;> rfl
theorem doL_fit (L : List VerV) (kd mt : Int) (dt : ByteArray) (quota : Int) (hq : quota ≤ 100) (hd : dt.size ≤ 64) (hL : L.length ≤ 100 ∧ ∀ v ∈ L, v.data.size ≤ 64) : (doL L kd mt dt quota).length ≤ 100 ∧ ∀ v ∈ doL L kd mt dt quota, v.data.size ≤ 64 := by
  unfold doL
  split
  · rename_i h
    have hv := h.2
    have : (L.length : Int) < quota := by
      unfold verdV at hv
      split at hv
      · omega
      split at hv
      · rename_i h3; exact absurd hv h3.2
      split at hv
      · omega
      split at hv
      · omega
      · omega
    refine ⟨by rw [List.length_append]; simp; omega, fun v hv => ?_⟩
    rcases List.mem_append.1 hv with hv | hv
    · exact hL.2 v hv
    · rw [List.mem_singleton.1 hv]
      unfold makeV
      split
      · exact Nat.zero_le _
      · exact hd
  · exact hL
theorem Fit.put {s : StoV} {N : Nat} (h : Fit s N) (q : ReqV) : Fit (putA s q).s (N + 1) := by
  by_cases hp : q.puts
  · by_cases hs : q.seq ≤ (s.cl q.client.toNat).seq
    · rw [putA_old s q hp hs]; exact h.mono (by omega)
    · rw [putA_done s q hp hs]
      have hm := hp.1
      unfold ReqV.may at hm
      refine ⟨h.quota, ⟨by show 0 ≤ s.places + 1; have := h.places; omega, by show s.places + 1 ≤ _; have := h.places; omega⟩, fun i hi => ?_, fun c hc => ?_⟩
      · show (updF s.res _ _ i).length ≤ 100 ∧ ∀ v ∈ updF s.res _ _ i, _
        by_cases e : i = q.id.toNat
        · subst e
          rw [updF_same]
          exact doL_fit _ _ _ _ _ h.quota.2 hm.2.2.2.2.2.2.2.2.1 (h.res _ hi)
        · rw [updF_other _ _ _ _ e]
          exact h.res i hi
      · show 0 ≤ (updF s.cl _ _ c).seq ∧ (updF s.cl _ _ c).seq ≤ _ ∧ 0 ≤ (updF s.cl _ _ c).place ∧ (updF s.cl _ _ c).place ≤ s.places + 1
        have hpl := h.places
        by_cases e : c = q.client.toNat
        · subst e
          rw [updF_same]
          refine ⟨?_, ?_, ?_, ?_⟩ <;> dsimp only <;> omega
        · rw [updF_other _ _ _ _ e]
          have := h.cl c hc
          omega
  · rw [putA_bad s q hp]; exact h.mono (by omega)

/-- Behind a Put. -/
def PutR (y : Lay) (b : Nat) (s' : StoV) (cd vr : Int) (d : ByteArray) (x : Int) (w : World) (e : Ending) (w' : World) : Prop :=
  ∃ ao cap, e = .returned (.tuple #[.agg #[.int .i64 cd, .int .i64 vr, .string d, .slice ao 0 cap], .int .i64 x]) ∧ Nil0 (.slice ao 0 cap) ∧ Besides b w w' ∧ Sto y w' b s'

theorem Refused.put {y : Lay} {b : Nat} {s : StoV} {x : Int} {w : World} {e : Ending} {w' : World} (h : Refused x w e w') (hs : Sto y w b s) : PutR y b s 0 0 ⟨#[]⟩ x w e w' :=
  ⟨none, 0, h.1, Nil0.none, Besides.of h.2, hs.on h.2⟩

theorem sput_r (b : Nat) (s s' : StoV) (N : Nat) (cl sq kd id mt : Int) (dt : ByteArray) (cd vr : Int) (d : ByteArray) (x : Int) (HP : Hid (putA s ⟨cl, sq, kd, id, mt, dt⟩ = ⟨s', cd, vr, d, x⟩)) (hd : dt.size ≤ maxLen) (hf : Fit s N) (hN : N ≤ 1000000) (w : World) (h : Sto layP w b s) :
    Calls Try.prog 63 #[.pointer (some ⟨b, 0, none⟩), .agg #[.int .i64 cl, .int .i64 sq, .int .i64 kd, .int .i64 id, .int .i64 mt, .string dt]] w (PutR layP b s' cd vr d x w) := by
  have hd' : dt.size ≤ 9223372036854775807 := by unfold maxLen at hd; omega
  have HP' := HP.out
  by_cases hm : ReqV.may ⟨cl, sq, kd, id, mt, dt⟩
  · have HM : Hid (∀ u, Calls Try.prog 59 #[.agg #[.int .i64 cl, .int .i64 sq, .int .i64 kd, .int .i64 id, .int .i64 mt, .string dt]] u fun e w' => e = .returned (.bool true) ∧ Below u.heap.size u w') :=
      fun u => mayreq_r cl sq kd id mt dt hd' true (decide_eq_true hm).symm u
    have hm' := hm
    unfold ReqV.may at hm'
    simp only at hm'
    by_cases hw : kd ≤ 3
    · have HW : Hid (∀ u, Calls Try.prog 60 #[.agg #[.int .i64 cl, .int .i64 sq, .int .i64 kd, .int .i64 id, .int .i64 mt, .string dt]] u fun e w' => e = .returned (.bool true) ∧ Below u.heap.size u w') := by
        intro u
        have h := writes_any cl sq kd id mt dt u
        rwa [decide_eq_true (show 1 ≤ kd ∧ kd ≤ 3 by omega)] at h
      obtain ⟨c, rfl⟩ : ∃ c : Nat, cl = c := ⟨cl.toNat, by omega⟩
      obtain ⟨i, rfl⟩ : ∃ i : Nat, id = i := ⟨id.toNat, by omega⟩
      have hc : c < 4 := by omega
      have hi : i < 32 := by omega
      by_cases ho : sq ≤ (s.cl c).seq
      · rw [putA_old s _ ⟨hm, hw⟩ (by simpa using ho)] at HP'
        obtain ⟨rfl, rfl, rfl, rfl, rfl⟩ := PutA.mk.inj HP'
        refine (sput_old b c s sq kd i mt dt w hc h HM HW (fun u => newer_r c sq kd i mt (s.cl c).seq dt hd' false ?_ u)).mono fun e w' hr => hr.put h
        show _ = _
        rw [decide_eq_true hm, decide_eq_false (by omega)]
        rfl
      · rw [putA_nat s c i sq kd mt dt ⟨hm, hw⟩ ho] at HP'
        obtain ⟨rfl, rfl, rfl, rfl, rfl⟩ := PutA.mk.inj HP'
        have hwr : wrV kd = true := by unfold wrV; simp only [Bool.or_eq_true, beq_iff_eq]; omega
        have hq := hf.places
        have HN : Hid (∀ u, Calls Try.prog 61 #[.agg #[.int .i64 c, .int .i64 sq, .int .i64 kd, .int .i64 i, .int .i64 mt, .string dt], .int .i64 (s.cl c).seq] u fun e w' => e = .returned (.bool true) ∧ Below u.heap.size u w') := by
          intro u
          refine newer_r c sq kd i mt (s.cl c).seq dt hd' true ?_ u
          show _ = _
          rw [decide_eq_true hm, decide_eq_true (by omega)]
          rfl
        have HY : Hid (∀ u, Calls Try.prog 62 #[.agg #[.int .i64 c, .int .i64 sq, .int .i64 kd, .int .i64 i, .int .i64 mt, .string dt]] u fun e w' => e = .returned (.int .i64 i) ∧ Below u.heap.size u w') :=
          fun u => key_r c sq kd i mt dt hd' i (show _ = _ from (if_pos hm).symm) u
        have HR : doR (s.res i) kd mt s.quota = ⟨(doR (s.res i) kd mt s.quota).code, (doR (s.res i) kd mt s.quota).ver, (doR (s.res i) kd mt s.quota).data, []⟩ := by
          rw [← doR_list (s.res i) kd mt s.quota hwr]
        exact sput_done b c i s sq kd mt dt (doL (s.res i) kd mt dt s.quota) (doL (s.res i) kd mt dt s.quota).length _ _ _ w hc hi h hq.1 (by omega) HM HW HN HY
          (fun u v hv => do_n v (s.res i) _ _ _ c sq kd i mt dt s.quota _ _ _ [] 0 (show _ = _ from rfl) (show _ = _ from HR) rfl rfl u hv (Nat.le_refl _) (by have := (hf.res i hi).1; omega))
    · have HW : Hid (∀ u, Calls Try.prog 60 #[.agg #[.int .i64 cl, .int .i64 sq, .int .i64 kd, .int .i64 id, .int .i64 mt, .string dt]] u fun e w' => e = .returned (.bool false) ∧ Below u.heap.size u w') := by
        intro u
        have h := writes_any cl sq kd id mt dt u
        rwa [decide_eq_false (show ¬ (1 ≤ kd ∧ kd ≤ 3) by omega)] at h
      rw [putA_bad s _ (fun hp => hw hp.2)] at HP'
      obtain ⟨rfl, rfl, rfl, rfl, rfl⟩ := PutA.mk.inj HP'
      exact (sput_bad2 b cl sq kd id mt dt w HM HW).mono fun e w' hr => hr.put h
  · have HM : Hid (∀ u, Calls Try.prog 59 #[.agg #[.int .i64 cl, .int .i64 sq, .int .i64 kd, .int .i64 id, .int .i64 mt, .string dt]] u fun e w' => e = .returned (.bool false) ∧ Below u.heap.size u w') :=
      fun u => mayreq_r cl sq kd id mt dt hd' false (decide_eq_false hm).symm u
    rw [putA_bad s _ (fun hp => hm hp.1)] at HP'
    obtain ⟨rfl, rfl, rfl, rfl, rfl⟩ := PutA.mk.inj HP'
    exact (sput_bad1 b cl sq kd id mt dt w HM).mono fun e w' hr => hr.put h
end Go.Proofs.Ytenjjgghoacboaa

/-! ## StoreR -/
/-
  FOR THE LAWS ON A STORE THAT ASK NO BYTES: requests of a slice, what is refused. No condition.
-/
namespace Go.Proofs.Ytenjjgghoacboaa
open Go.RowKit

/-- The cells of a request in a slice. -/
def ReqCells (u : World) (b o : Nat) (q : ReqV) : Prop :=
  u.cell? ⟨b, o, none⟩ = some (.int .i64 q.client) ∧ u.cell? ⟨b, o + 1, none⟩ = some (.int .i64 q.seq) ∧ u.cell? ⟨b, o + 2, none⟩ = some (.int .i64 q.kind) ∧ u.cell? ⟨b, o + 3, none⟩ = some (.int .i64 q.id) ∧ u.cell? ⟨b, o + 4, none⟩ = some (.int .i64 q.mtch) ∧ u.cell? ⟨b, o + 5, none⟩ = some (.string q.data)
/-- Where the requests lie, in every world that goes on from w. -/
def ReqsAt (w : World) (ao : Option Addr) (L : List ReqV) : Prop := ∀ i (h : i < L.length), ∃ b off, ao = some ⟨b, off, none⟩ ∧ b < w.heap.size ∧ ∀ u, Below w.heap.size w u → ReqCells u b (off + i * 6) L[i]
theorem reqs_at {w : World} {ao : Option Addr} {n cap : Nat} {L : List ReqV} (h : Reqs w w.heap.size (.slice ao n cap) L) : ReqsAt w ao L ∧ n = L.length ∧ L.length ≤ maxLen ∧ ∀ q ∈ L, q.data.size ≤ maxLen := by
  obtain ⟨ao', cap', he, hm, hs, hc⟩ := h
  simp only [Value.slice.injEq] at he
  obtain ⟨rfl, rfl, rfl⟩ := he
  refine ⟨fun i hi => ?_, rfl, hm, hs⟩
  obtain ⟨b, off, rfl, hb, hc⟩ := hc (by intro e; rw [e] at hi; simp at hi)
  refine ⟨b, off, rfl, hb, fun u hu => ?_⟩
  have h := hc i hi
  exact ⟨(hu.cell (p := ⟨b, off + i * 6, none⟩) hb).trans h.1, (hu.cell (p := ⟨b, off + i * 6 + 1, none⟩) hb).trans h.2.1, (hu.cell (p := ⟨b, off + i * 6 + 2, none⟩) hb).trans h.2.2.1, (hu.cell (p := ⟨b, off + i * 6 + 3, none⟩) hb).trans h.2.2.2.1,
    (hu.cell (p := ⟨b, off + i * 6 + 4, none⟩) hb).trans h.2.2.2.2.1, (hu.cell (p := ⟨b, off + i * 6 + 5, none⟩) hb).trans h.2.2.2.2.2⟩

theorem reqs_on {w u : World} {v : Value} {L : List ReqV} (h : Reqs w w.heap.size v L) (hu : Below w.heap.size w u) : Reqs u u.heap.size v L := by
  obtain ⟨ao, cap, rfl, hm, hs, hc⟩ := h
  refine ⟨ao, cap, rfl, hm, hs, fun hl => ?_⟩
  obtain ⟨b, off, rfl, hb, hc⟩ := hc hl
  refine ⟨b, off, rfl, Nat.lt_of_lt_of_le hb hu.size, fun i hi => ?_⟩
  have h := hc i hi
  exact ⟨(hu.cell (p := ⟨b, off + i * 6, none⟩) hb).trans h.1, (hu.cell (p := ⟨b, off + i * 6 + 1, none⟩) hb).trans h.2.1, (hu.cell (p := ⟨b, off + i * 6 + 2, none⟩) hb).trans h.2.2.1, (hu.cell (p := ⟨b, off + i * 6 + 3, none⟩) hb).trans h.2.2.2.1,
    (hu.cell (p := ⟨b, off + i * 6 + 4, none⟩) hb).trans h.2.2.2.2.1, (hu.cell (p := ⟨b, off + i * 6 + 5, none⟩) hb).trans h.2.2.2.2.2⟩

/-- What is refused leaves the store as it was. -/
theorem putA_refused (s : StoV) (q : ReqV) (h : (putA s q).err ≠ 0) : putA s q = ⟨s, 0, 0, ⟨#[]⟩, (putA s q).err⟩ := by
  by_cases hp : q.puts
  · by_cases ho : q.seq ≤ (s.cl q.client.toNat).seq
    · rw [putA_old s q hp ho]
    · rw [putA_done s q hp ho] at h; exact absurd rfl h
  · rw [putA_bad s q hp]
theorem putA_err (s : StoV) (q : ReqV) (h : (putA s q).err = 0) : q.puts ∧ ¬ q.seq ≤ (s.cl q.client.toNat).seq := by
  by_cases hp : q.puts
  · by_cases ho : q.seq ≤ (s.cl q.client.toNat).seq
    · rw [putA_old s q hp ho] at h; cases h
    · exact ⟨hp, ho⟩
  · rw [putA_bad s q hp] at h; cases h

/-- A reply that no client was told, and its twin. -/
theorem same_nil (c n : Int) (d : ByteArray) (v1 v2 : Value) (h1 : Nil0 v1) (h2 : Nil0 v2) (u : World) : Calls Try.prog 23 #[.agg #[.int .i64 c, .int .i64 n, .string d, v1], .agg #[.int .i64 c, .int .i64 n, .string d, v2]] u fun e w' => e = .returned (.bool true) ∧ Below u.heap.size u w' :=
  refsamereply_any c n c n d d v1 v2 [] [] _ u (h1.ints u u.heap.size) (h2.ints u u.heap.size) (Nat.le_refl _) (by decide) true (show _ = _ by simp)
theorem same_nil0 (c n : Int) (d : ByteArray) (v1 v2 : Value) (h1 : Nil0 v1) (h2 : Nil0 v2) (u : World) : Calls Try.prog 23 #[.agg #[.int .i64 c, .int .i64 n, .string d, v1], .agg #[.int .i64 c, .int .i64 n, .string d, v2]] u fun e w' => e = .returned (.bool true) ∧ Below u.heap.size u w' := same_nil c n d v1 v2 h1 h2 u
theorem putA_quota (s : StoV) (q : ReqV) : (putA s q).s.quota = s.quota := by
  by_cases hp : q.puts
  · by_cases ho : q.seq ≤ (s.cl q.client.toNat).seq
    · rw [putA_old s q hp ho]
    · rw [putA_done s q hp ho]; rfl
  · rw [putA_bad s q hp]
end Go.Proofs.Ytenjjgghoacboaa

/-! ## StoreF -/
/-
  THE LAWS' OWN HELPERS: few, told.
-/
namespace Go.Proofs.Ytenjjgghoacboaa
open Go.RowKit

def fewR (L : List ReqV) : Prop := (∀ q ∈ L, q.data.size ≤ 100) ∧ L.length ≤ 200
instance (L : List ReqV) : Decidable (fewR L) := by unfold fewR; infer_instance

/-- The law's own request, and what it makes of a new store. -/
def tq5 : ReqV := ⟨1, 3, 1, 4, 0, ⟨#[97]⟩⟩
def ts5 : StoV := putV (newV 5) 1 4 3 1 0 ⟨#[97]⟩
theorem tq1 : putA (newV 5) tq5 = ⟨ts5, 1, 1, ⟨#[]⟩, 0⟩ := by rfl
theorem tq2 : putA ts5 tq5 = ⟨ts5, 0, 0, ⟨#[]⟩, 9⟩ := by rfl
theorem ts_fit : Fit ts5 1 := by have h := (Fit.new 5 (by decide) (by decide)).put tq5; rw [tq1] at h; exact h

end Go.Proofs.Ytenjjgghoacboaa

/-! ## StoreM -/
/-
  THE PROGRAM's STORE: Ask as one contract. No condition but that the store is within its bounds.
-/
namespace Go.Proofs.Ytenjjgghoacboaa
open Go.RowKit

/-- A request that may be and does not write. -/
def ReqV.asks (q : ReqV) : Prop := q.may ∧ 3 < q.kind
instance (q : ReqV) : Decidable q.asks := by unfold ReqV.asks; infer_instance
structure AskA where
  r : RepV
  err : Int
def askA (s : StoV) (q : ReqV) : AskA := if q.asks then ⟨askV (s.res q.id.toNat) q.kind q.mtch, 0⟩ else ⟨⟨0, 0, ⟨#[]⟩, []⟩, 1⟩
/-- Behind an Ask. -/
def AskR (l : List Int) (m : Nat) (c r : Int) (d : ByteArray) (x : Int) (w : World) (e : Ending) (w' : World) : Prop :=
  ∃ ao cap, e = .returned (.tuple #[.agg #[.int .i64 c, .int .i64 r, .string d, .slice ao m cap], .int .i64 x]) ∧ Ints w' w'.heap.size (.slice ao m cap) l ∧ Below w.heap.size w w'
theorem Refused.ask {w : World} {e : Ending} {w' : World} {x : Int} (h : Refused x w e w') : AskR [] 0 0 0 ⟨#[]⟩ x w e w' := ⟨none, 0, h.1, Ints.none _ _, h.2⟩

theorem askV_list (L : List VerV) (kd mt : Int) : (askV L kd mt).list.length ≤ L.length := by
  unfold askV
  split
  · rw [rdV_list]; exact Nat.zero_le _
  split
  · rw [rdV_list]; exact Nat.zero_le _
  split
  · unfold histV
    split
    · exact Nat.zero_le _
    · show (signs L L.length).length ≤ _; rw [signs_length]; exact Nat.le_refl _
  · exact Nat.zero_le _

theorem sask_r (b : Nat) (s : StoV) (N : Nat) (cl sq kd id mt : Int) (dt : ByteArray) (c r : Int) (d : ByteArray) (l : List Int) (m : Nat) (x : Int) (HA : Hid (askA s ⟨cl, sq, kd, id, mt, dt⟩ = ⟨⟨c, r, d, l⟩, x⟩)) (hlm : l.length = m) (hd : dt.size ≤ maxLen) (hf : Fit s N) (w : World) (h : Sto layP w b s) :
    Calls Try.prog 69 #[.pointer (some ⟨b, 0, none⟩), .agg #[.int .i64 cl, .int .i64 sq, .int .i64 kd, .int .i64 id, .int .i64 mt, .string dt]] w (AskR l m c r d x w) := by
  have hd' : dt.size ≤ 9223372036854775807 := by unfold maxLen at hd; omega
  have HA' := HA.out
  unfold askA at HA'
  by_cases hm : ReqV.may ⟨cl, sq, kd, id, mt, dt⟩
  · have HM : Hid (∀ u, Calls Try.prog 59 #[.agg #[.int .i64 cl, .int .i64 sq, .int .i64 kd, .int .i64 id, .int .i64 mt, .string dt]] u fun e w' => e = .returned (.bool true) ∧ Below u.heap.size u w') :=
      fun u => mayreq_r cl sq kd id mt dt hd' true (decide_eq_true hm).symm u
    have hm' := hm
    unfold ReqV.may at hm'
    simp only at hm'
    by_cases hw : 3 < kd
    · rw [if_pos ⟨hm, hw⟩] at HA'
      obtain ⟨ha, rfl⟩ := AskA.mk.inj HA'
      have HW : Hid (∀ u, Calls Try.prog 60 #[.agg #[.int .i64 cl, .int .i64 sq, .int .i64 kd, .int .i64 id, .int .i64 mt, .string dt]] u fun e w' => e = .returned (.bool false) ∧ Below u.heap.size u w') := by
        intro u
        have h := writes_any cl sq kd id mt dt u
        rwa [decide_eq_false (show ¬ (1 ≤ kd ∧ kd ≤ 3) by omega)] at h
      obtain ⟨i, rfl⟩ : ∃ i : Nat, id = i := ⟨id.toNat, by omega⟩
      have hi : i < 32 := by omega
      simp only [Int.toNat_natCast] at ha
      obtain ⟨ar, cr, hcr, hvr⟩ := sto_res h i hi
      exact sask_done b i (s.res i) cl sq kd mt dt l m c r d w hi h.lt hlm ar _ cr hcr hvr HM HW (fun u => key_r cl sq kd i mt dt hd' i (show _ = _ from (if_pos hm).symm) u)
        (fun u v hv => ask_r v (s.res i) _ cl sq kd i mt dt c r d l (show _ = _ from ha) u hv (Nat.le_refl _) (by have := (hf.res i hi).1; omega))
    · rw [if_neg (fun h => hw h.2)] at HA'
      obtain ⟨ha, rfl⟩ := AskA.mk.inj HA'
      obtain ⟨rfl, rfl, rfl, rfl⟩ := RepV.mk.inj ha
      subst hlm
      have HW : Hid (∀ u, Calls Try.prog 60 #[.agg #[.int .i64 cl, .int .i64 sq, .int .i64 kd, .int .i64 id, .int .i64 mt, .string dt]] u fun e w' => e = .returned (.bool true) ∧ Below u.heap.size u w') := by
        intro u
        have h := writes_any cl sq kd id mt dt u
        rwa [decide_eq_true (show 1 ≤ kd ∧ kd ≤ 3 by omega)] at h
      exact (sask_bad2 b cl sq kd id mt dt w HM HW).mono fun _ _ h => h.ask
  · rw [if_neg (fun h => hm h.1)] at HA'
    obtain ⟨ha, rfl⟩ := AskA.mk.inj HA'
    obtain ⟨rfl, rfl, rfl, rfl⟩ := RepV.mk.inj ha
    subst hlm
    have HM : Hid (∀ u, Calls Try.prog 59 #[.agg #[.int .i64 cl, .int .i64 sq, .int .i64 kd, .int .i64 id, .int .i64 mt, .string dt]] u fun e w' => e = .returned (.bool false) ∧ Below u.heap.size u w') :=
      fun u => mayreq_r cl sq kd id mt dt hd' false (decide_eq_false hm).symm u
    exact (sask_bad1 b cl sq kd id mt dt w HM).mono fun _ _ h => h.ask
end Go.Proofs.Ytenjjgghoacboaa
