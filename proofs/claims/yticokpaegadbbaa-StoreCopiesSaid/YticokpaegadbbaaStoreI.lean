/-
  THE PROGRAM's STORE: Ids.
-/
import Derived.Test.YticokpaegadbbaaStoreH
import Derived.Test.YticokpaegadbbaaChartH2
namespace Go.Proofs.Yticokpaegadbbaa
open Go.RowKit Go.Shelf

attribute [local go_sem] Oper.semAt_some

def entI (x : Ent) : Value := .int .i64 (x.i : Int)
theorem comeS_ints (r : Nat → List VerV) (k : Nat) (hk : k ≤ 32) : (comeS r k).map entI = intCells ((idsV r k).map fun j : Nat => (j : Int)) := by
  unfold comeS intCells
  rw [List.map_map, List.map_map]
  refine List.map_congr_left fun j hj => ?_
  have hj' : j < k := by simpa using (List.mem_filter.1 hj).1
  have e : min j 31 = j := by omega
  simp only [Function.comp, entI, entV, e]

set_option maxRecDepth 100000 in
set_option maxHeartbeats 2000000 in
theorem sids_in (F : Fence) (n : Nat) (h27 : F.fn 27) (h41 : F.fn 41) (h58 : F.fn 58) (hro : F.round = none) (hn : 3 ≤ n) (b : Nat) (r : Nat → List VerV) (sl : Nat → Value) (w : World) (hb : b < w.heap.size)
    (hsl : ∀ k, k < 32 → ∃ ao cap, sl k = .slice ao (r k).length cap) (hlen : ∀ k, k < 32 → (r k).length ≤ 1000000) (hI : ∀ k, k < 32 → w.cell? ⟨b, 26 + k, none⟩ = some (sl k)) :
    CallsIn F n Try.prog 27 #[.pointer (some ⟨b, 0, none⟩)] w fun e W' => ∃ v, e = .returned v ∧ W'.ownsRow w.heap.size 3 1 v (idsV r 32).length (intCells ((idsV r 32).map fun j : Nat => (j : Int))) ∧ Below w.heap.size w W' := by
  have h1 : 1 ≤ n := by omega
  obtain ⟨i0, hi, hz0, hz1, hz2⟩ := info_parts info_intH
  have HI0 := Lib.hid hI
  have HS := Lib.hid hsl
  have HL := Lib.hid hlen
  clear hI hsl hlen
  refine callsIn_of_wp_marks Try.func27 rfl h27 ?_ hro
  simp only [Try.ntmps27, List.size_toArray, List.length_cons, List.length_nil, Nat.reduceAdd, Nat.reduceSub, Array.replicate_succ, Array.replicate_zero, List.push_toArray, List.append_toArray, List.nil_append, List.cons_append]
  gi_wp2_with (gi_at_call 41; refine (inorder_in F (n - 1) h41 hro _ _).mono ?_; rintro e w' ⟨rfl, rfl⟩)
  obtain ⟨w3, hw3⟩ : ∃ w3, w3 = (w.alloc (.cells #[.slice none 0 0] 32)).alloc (.cells #[.pointer (some ⟨b, 26, none⟩)] 90) := ⟨_, rfl⟩
  have hs3 : w3.heap.size = w.heap.size + 2 := by rw [hw3]; simp
  have hB3 : Below w.heap.size w w3 := by rw [hw3]; exact ((Below.refl _ w).alloc (Nat.le_refl _) _).alloc (by simp) _
  have hX3 : Boxed w3 w.heap.size 32 (.slice none 0 0) := by rw [hw3]; exact Boxed.alloc (Boxed.new w 32 _) _
  have hN3 : w3.cell? ⟨w.heap.size + 1, 0, none⟩ = some (.pointer (some ⟨b, 26, none⟩)) := by
    rw [hw3]
    have := heap_alloc_new (w.alloc (.cells #[.slice none 0 0] 32)) (.cells #[.pointer (some ⟨b, 26, none⟩)] 90)
    rw [World.size_alloc] at this
    exact cell_of_one this
  rw [← hw3]
  clear hw3
  refine wpIn_rangeFunc_ownF hro h1 (gf := 58) (lb := #[.pointer (some ⟨w.heap.size + 1, 0, none⟩)]) rfl h58 (enters_of Try.func58 (by kernel_rfl) rfl)
    (inorder_stops F (n - 1) h58 hro (by omega) (w.heap.size + 1) w.heap.size b r sl HS.out HL.out w3 (by omega) (by omega) hb hN3 (fun k hk => (hB3.cell (p := ⟨b, 26 + k, none⟩) hb).trans (HI0.out k hk)))
    belowK_t (belowK_b (by omega)) (Below.refl _ _) (fun _ => rfl)
    (fun pre W => (∃ v, Boxed W w.heap.size 32 v ∧ W.ownsRow w.heap.size 3 1 v pre.length (pre.map entI) ∧ True) ∧ Below w.heap.size w W)
    (fun _ _ _ => False)
    (OwnFrom.and (Own.from (holdsRow_own w.heap.size w.heap.size 32 3 1 (fun pre : List Ent => pre.length) (fun pre => pre.map entI) (fun _ _ => True)) _) (ownFrom_below (Nat.le_refl _) (by omega)))
    (fun _ _ _ _ _ hs _ _ => hs)
    ⟨⟨_, hX3, World.ownsRow_nil _ _ _ _, trivial⟩, hB3⟩
    (fun x => { tmps := #[.pointer (some ⟨b, 0, none⟩), undef, .slice none 0 0, .pointer (some ⟨w.heap.size, 0, none⟩), .int .i64 (x.i : Int), .pointer (some ⟨b, 0, none⟩), .bool false, .pointer (some ⟨b, 0, none⟩), .pointer (some ⟨b, 0, none⟩), .pointer (some ⟨b, 26, none⟩),
        .func (.func 58) #[] #[.pointer (some ⟨w.heap.size + 1, 0, none⟩)], .int .i64 (x.i : Int), sl x.i, undef, undef, undef, undef, undef], defers := [] }) ?assign ?body ?done ?stop
  case assign =>
    intro l x W K hK
    simp only [encS]
    gi_wp2
    exact hK
  case body =>
    rintro l pre ⟨i, hi32⟩ W ⟨⟨v, hv, hrow, _⟩, hB⟩ hlt
    have hc := hv.cell
    have hl32 : pre.length < 32 := hlt
    have j0 : (0 : Int) ≤ (i : Int) := by omega
    have j1 : (i : Int) < 32 := by omega
    clear hlt
    dsimp only
    gi_wp2_with (gi_at_builtin; refine wpListIn_append_own _ rfl _ _ 32 rfl w.heap.size 3 i0 (.int .i64 0) 1 8 Try.underlying32 hi hz0 hz1 hz2 rfl (by decide) _ _ _ rfl (hrow.alloc _) ⟨W.heap.size, 0, none⟩ 1 1 [.int .i64 (i : Int)] rfl rfl (cell_one_new _ _ _) (by simp [Value.oneCell']) (by unfold maxLen; omega) (by omega) (by have := hB.size; simp; omega) ?_; intro v' w1 hown' hgrow _; obtain ⟨g', cap', rfl⟩ := ownsRow_succ hown'; obtain ⟨hv1, hv2, hr2, hk2, hb2⟩ := hv.appended (by decide) hrow hB.size (Nat.le_refl _) hown' hgrow; have hc1 := hv1.cell; have hf1 := hv1.frozen)
    exact ⟨hk2, hb2, ⟨_, hv2, by simpa [entI] using hr2, trivial⟩, hB.trans hb2⟩
  case done =>
    rintro D ys W hD rfl ⟨⟨v, hv, hrow, _⟩, hB⟩ hK
    have hc := hv.cell
    obtain ⟨a', c', rfl⟩ := own_shape hrow
    rw [comeS_ints r 32 (Nat.le_refl _)] at hrow
    have hcl : (comeS r 32).length = (idsV r 32).length := by simp [comeS]
    rw [hcl] at hrow hc hv
    gi_wp2
    refine ⟨by simp, .inl ⟨_, _, rfl, run_takeDeferred hK, ?_⟩⟩
    exact ⟨_, results_tmp rfl _ _ _, _, rfl, ownsRow_putObj hrow _ hK rfl, hB.trans (belowK_b (w := w) (Nat.le_refl _) W D _ _ (by omega) hK rfl rfl)⟩
  case stop =>
    rintro D c pre W _ _ h _
    exact h.elim

/-- The ids that have versions. -/
def idL (s : StoV) : List Int := (idsV s.res 32).map fun j : Nat => (j : Int)
theorem sto_slices {b : Nat} {s : StoV} {w : World} (h : Sto layP w b s) : ∃ sl : Nat → Value, (∀ k, k < 32 → ∃ ao cap, sl k = .slice ao (s.res k).length cap) ∧ (∀ k, k < 32 → w.cell? ⟨b, 26 + k, none⟩ = some (sl k)) ∧ ∀ k, k < 32 → Vers w w.heap.size (sl k) (s.res k) := by
  obtain ⟨f, hk, ht⟩ := h
  exact ⟨fun k => f (26 + k), fun k hk' => (ht.2.2.2.2 k hk').shape, fun k hk' => hk.cell (26 + k) (by omega), fun k hk' => ht.2.2.2.2 k hk'⟩
theorem sids_r (b : Nat) (s : StoV) (w : World) (h : Sto layP w b s) (hlen : ∀ k, k < 32 → (s.res k).length ≤ 1000000) :
    Calls Try.prog 27 #[.pointer (some ⟨b, 0, none⟩)] w fun e W' => ∃ v, e = .returned v ∧ W'.ownsRow w.heap.size 3 1 v (idsV s.res 32).length (intCells (idL s)) ∧ Below w.heap.size w W' := by
  obtain ⟨sl, h1, h2, _⟩ := sto_slices h
  exact callsIn_wide.1 (sids_in Fence.wide 3 trivial trivial trivial rfl (Nat.le_refl _) b s.res sl w h.lt h1 hlen h2)
set_option maxHeartbeats 400000 in
theorem sids_nil (w : World) : Calls Try.prog 27 #[.pointer none] w fun e w' => e = .returned (.slice none 0 0) ∧ w = w' := by
  go_enter Try.func27, Try.ntmps27
  go_wp2
  go_returns
  exact ⟨rfl, rfl⟩
end Go.Proofs.Yticokpaegadbbaa
