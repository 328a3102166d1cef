/-
  DIRTY'S Clean AND Dirty, by contract: of a log as a law has it, and of none. No condition but that a log has at most a hundred thousand requests.
-/
import Derived.Test.YtenjjgghoacboaaLnU
import Derived.RangeFuncNested
import Derived.RangeFuncBound
import Derived.RangeFuncCalls
import Derived.RangeFuncLeaves
import Derived.RangeFuncBox
import Derived.Shelf.Abstract
import Derived.Shelf.RegionOpen
import Derived.WalkKit
import Derived.OwnWalkIn
import Derived.TacticsInMore
import Derived.LoopNIn
import Derived.LoopIn
import Derived.Maps.AppendAt
import Derived.Sort.QuietIn
namespace Go.Proofs.Ytenjjgghoacboaa
open Go.RowKit Go.Shelf

attribute [local go_sem] Oper.semAt_some

/-! ### Clean -/
/-- Is an id clean? -/
def cleanV (L : List ReqV) (c : Nat) (x : Int) : Bool := decide (0 ≤ x ∧ x ≤ 31 ∧ lastV18 L x ≤ (c : Int))
set_option maxHeartbeats 1000000 in
theorem dclean_r {n : Nat} {w : World} {g : Nat} {q : Int} {L : List ReqV} {c : Nat} {S : Nat → Prop} {u : World} (H : GLo n w g q L c S u) (x : Int) (R : Bool) (hR : cleanV L c x = R) :
    Calls Try.prog 30 #[.pointer (some ⟨g, 0, none⟩), .int .i64 x] u fun e w' => e = .returned (.bool R) ∧ u = w' := by
  have HL := Lib.hid (H.last x _ rfl)
  have HC := Lib.hid H.com
  unfold cleanV at hR
  generalize lastV18 L x = M at HL hR
  clear H
  by_cases h0 : x < 0
  · rw [decide_eq_false (by omega)] at hR
    subst hR
    go_enter Try.func30, Try.ntmps30
    go_wp2
    go_returns
    exact ⟨rfl, rfl⟩
  have h1 : 0 ≤ x := by omega
  clear h0
  by_cases h2 : 31 < x
  · rw [decide_eq_false (by omega)] at hR
    subst hR
    go_enter Try.func30, Try.ntmps30
    go_wp2
    go_returns
    exact ⟨rfl, rfl⟩
  have h3 : x ≤ 31 := by omega
  clear h2
  by_cases h4 : M ≤ (c : Int)
  · rw [decide_eq_true ⟨h1, h3, h4⟩] at hR
    subst hR
    go_enter Try.func30, Try.ntmps30
    go_wp2_with fail
    refine HL.out.mono ?_
    rintro e w1 ⟨rfl, rfl⟩
    go_wp2_with fail
    refine HC.out.mono ?_
    rintro e w1 ⟨rfl, rfl⟩
    go_wp2
    go_returns
    exact ⟨rfl, rfl⟩
  · rw [decide_eq_false (by omega)] at hR
    subst hR
    go_enter Try.func30, Try.ntmps30
    go_wp2_with fail
    refine HL.out.mono ?_
    rintro e w1 ⟨rfl, rfl⟩
    go_wp2_with fail
    refine HC.out.mono ?_
    rintro e w1 ⟨rfl, rfl⟩
    go_wp2
    go_returns
    exact ⟨by simp [h4], rfl⟩
set_option maxHeartbeats 400000 in
theorem dclean_nil (x : Int) (u : World) : Calls Try.prog 30 #[.pointer none, .int .i64 x] u fun e w' => e = .returned (.bool false) ∧ u = w' := by
  go_enter Try.func30, Try.ntmps30
  go_wp2
  go_returns
  exact ⟨rfl, rfl⟩

/-! ### The iterator -/
/-- An id. -/
structure Idn where
  i : Nat
  h : i < 32
def idnV (k : Nat) : Idn := ⟨min k 31, by omega⟩
/-- Those below k that are not clean. -/
def dirN (T : Nat → Bool) (k : Nat) : List Nat := (List.range k).filter fun j => !T j
def comeD (T : Nat → Bool) (k : Nat) : List Idn := (dirN T k).map idnV
theorem dirN_yes {T : Nat → Bool} {k : Nat} (h : T k = false) : dirN T (k + 1) = dirN T k ++ [k] := by
  simp [dirN, List.range_succ, h]
theorem dirN_no {T : Nat → Bool} {k : Nat} (h : T k = true) : dirN T (k + 1) = dirN T k := by
  simp [dirN, List.range_succ, h]
theorem dirN_len (T : Nat → Bool) (k : Nat) : (dirN T k).length ≤ k := by
  have := List.length_filter_le (fun j : Nat => !T j) (List.range k)
  simpa [dirN] using this
theorem comeD_len (T : Nat → Bool) (k : Nat) : (comeD T k).length ≤ k := by simpa [comeD] using dirN_len T k
def encD19 (x : Idn) : Array Value := #[.int .i64 (x.i : Int)]
theorem enc_idn (k : Nat) (h : k < 32) : encD19 (idnV k) = #[.int .i64 (k : Int)] := by
  have e : min k 31 = k := by omega
  simp only [encD19, idnV, e]
def idnI (x : Idn) : Value := .int .i64 (x.i : Int)
theorem comeD_ints (T : Nat → Bool) (k : Nat) (hk : k ≤ 32) : (comeD T k).map idnI = intCells ((dirN T k).map fun j : Nat => (j : Int)) := by
  unfold comeD intCells
  rw [List.map_map, List.map_map]
  refine List.map_congr_left fun j hj => ?_
  have hj' : j < k := by simpa using (List.mem_filter.1 hj).1
  have e : min j 31 = j := by omega
  simp only [Function.comp, idnI, idnV, e]

/-- Block R alone is turned, of those below R + 2. -/
def KeepD (R : Nat) (A C : World) : Prop := Only (fun k => k = R ∨ R + 2 ≤ k) A C
theorem KeepD.refl (R : Nat) (A : World) : KeepD R A A := Only.refl _ _
theorem KeepD.trans {R : Nat} {A C D : World} (h : KeepD R A C) (k : KeepD R C D) : KeepD R A D := Only.trans h k
theorem KeepD.of {R : Nat} {A C : World} (h : Below (R + 2) A C) : KeepD R A C := ⟨h.os, h.tape, h.output, h.size, fun k _ hn => h.block k (by omega)⟩
theorem KeepD.bel {R : Nat} {A C : World} (h : KeepD R A C) (hn : R ≤ A.heap.size) : Below R A C := ⟨h.os, h.tape, h.output, h.size, fun k hk => h.block k (by omega) (by omega)⟩
theorem KeepD.block {R : Nat} {A C : World} (h : KeepD R A C) {k : Nat} (hk : k < A.heap.size) (h1 : k < R ∨ k = R + 1) : C.heap[k]? = A.heap[k]? := Only.block h k hk (by omega)

theorem rowLowD {w : World} {base base' : Nat} {e : TypeId} {size : Nat} {v : Value} {n : Nat} {xs : List Value} (h : w.ownsRow base e size v n xs) (hb : base' ≤ base) : w.ownsRow base' e size v n xs := by
  refine ⟨h.1, ?_⟩
  rcases h.2 with h0 | ⟨g, cap, cur, rfl, hr, rest⟩
  · exact .inl h0
  · exact .inr ⟨g, cap, cur, rfl, by omega, rest⟩
theorem dir_next {W w1 : World} {R : Nat} {v v' : Value} {k m : Nat} {xs ys : List Value} {tmp : Obj} (hv : Boxed W R 41 v) (hrow : W.ownsRow (R + 2) 3 1 v k xs) (hR : R + 2 ≤ W.heap.size)
    (hown : w1.ownsRow (R + 2) 3 1 v' m ys) (hgrow : (W.alloc tmp).grownBy w1 v.ownBlock) :
    Boxed w1 R 41 v ∧ Boxed (w1.setCell ⟨R, 0, none⟩ v') R 41 v' ∧ (w1.setCell ⟨R, 0, none⟩ v').ownsRow (R + 2) 3 1 v' m ys ∧ KeepsOthers W (w1.setCell ⟨R, 0, none⟩ v') ∧ KeepD R W (w1.setCell ⟨R, 0, none⟩ v') := by
  obtain ⟨h1, h2, _, h4, h5⟩ := hv.appended (t := 41) (e := 3) (by decide) (rowLowD hrow (by omega)) (by omega) (Nat.le_refl R) (rowLowD hown (by omega)) hgrow
  refine ⟨h1, h2, hown.kept (grownBy_setCell' w1 R v') (.inr (h1.not_row (by decide) hown).symm), h4, h5.os, h5.tape, h5.output, h5.size, fun j hj hn => ?_⟩
  have hs : (W.alloc tmp).heap.size = W.heap.size + 1 := by simp
  exact (Below.heap_setCell _ _ _ j (by show j ≠ R; omega)).trans ((hgrow.block j (by omega) (fun e => by have := (hrow.lt j e.symm).1; omega)).trans (((Below.refl _ W).alloc (Nat.le_refl _) tmp).block j hj))

/-- What the iterator asks of its log, or of none. -/
def AsksD (R : Nat) (pv : Option Addr) (T : Nat → Bool) (W : World) : Prop := ∀ u (k : Nat), k < 32 → Below R W u → Calls Try.prog 30 #[.pointer pv, .int .i64 k] u fun e w' => e = .returned (.bool (T k)) ∧ u = w'

set_option maxRecDepth 100000 in
set_option maxHeartbeats 4000000 in
theorem dirty1_in (m l R : Nat) (pv : Option Addr) (T : Nat → Bool) (J Jx : List Idn → World → Prop)
    (hY : ∀ pre x W, J pre W → pre.length < 32 → YieldAt Fence.wide (m - 1) Try.prog l (encD19 x) W fun e W' =>
      (e = .returned (.bool true) ∧ J (pre ++ [x]) W' ∧ KeepD R W W') ∨ (e = .returned (.bool false) ∧ Jx (pre ++ [x]) W'))
    (W : World) (hR : R + 2 ≤ W.heap.size) (_ : AbidesFrom W.heap.size J) (hg : AsksD R pv T W) (hp : Boxed W (R + 1) 23 (.pointer pv)) (h0 : J [] W) :
    CallsIn Fence.wide m Try.prog 106 #[.func (.yield l) #[] #[], .pointer (some ⟨R + 1, 0, none⟩)] W fun e W' => (∃ v, e = .returned v) ∧
      ((∃ ys, ys = comeD T 32 ∧ J ys W') ∨ (∃ pre, (∃ k, k ≤ 32 ∧ pre = comeD T k) ∧ Jx pre W')) := by
  have hro : Fence.wide.round = none := rfl
  have HG := Lib.hid hg
  have HP := Lib.hid hp
  clear hg hp
  refine callsIn_of_wp Try.func106 rfl trivial ?_ hro
  simp only [Try.ntmps106, List.size_toArray, List.length_cons, List.length_nil, Nat.reduceAdd, Nat.reduceSub, Array.replicate_succ, Array.replicate_zero, List.push_toArray, List.append_toArray, List.nil_append, List.cons_append]
  gi_wp2
  gi_loopw [4] (fun i wr => ∃ k : Nat, k ≤ 32 ∧ i = .int .i64 k ∧ J (comeD T k) wr ∧ KeepD R W wr)
    (fun i _ => 32 - (intOf i).toNat)
  case atStart => exact ⟨0, Nat.zero_le _, rfl, h0, KeepD.refl _ _⟩
  case round =>
    obtain ⟨k, hk, rfl, hJs, hnx⟩ := hrel
    by_cases hlt : k < 32
    · have hsz := hnx.size
      have gw := HG.out wr k hlt (hnx.bel (by omega))
      have cp : wr.cell? ⟨R + 1, 0, none⟩ = some (.pointer pv) := (World.cell?_of_block (a := ⟨R + 1, 0, none⟩) (hnx.block (show R + 1 < W.heap.size by omega) (.inr rfl))).trans HP.out.cell
      have k1 : (k : Int) < 32 := by omega
      have HK := Lib.hid hnx
      have HY := Lib.hid (hY _ (idnV k) wr hJs (Nat.lt_of_le_of_lt (comeD_len T k) (by omega)))
      rw [enc_idn k (by omega)] at HY
      cases hT : T k with
      | true =>
        have HT : Hid (CallsIn Fence.wide (m - 1) Try.prog 30 #[.pointer pv, .int .i64 (k : Int)] wr fun e w' => e = .returned (.bool true) ∧ wr = w') := callsIn_wide.2 (hT ▸ gw)
        have HE : Hid (comeD T (k + 1) = comeD T k) := by show _ = _; unfold comeD; rw [dirN_no hT]
        clear hT gw hnx hY HY
        gi_wp2_with (refine ⟨trivial, (fun h => by cases h), ?_⟩; refine HT.out.mono ?_; rintro e w1 ⟨rfl, rfl⟩)
        all_goals
          refine ⟨fun _ h => (by cases h), ?_⟩
          gi_wp2
          go_roundw
          case rel => exact ⟨k + 1, by omega, by simp, by rw [HE.out]; exact hJs, HK.out⟩
          case measure => simp [intOf]; omega
      | false =>
        have HT : Hid (CallsIn Fence.wide (m - 1) Try.prog 30 #[.pointer pv, .int .i64 (k : Int)] wr fun e w' => e = .returned (.bool false) ∧ wr = w') := callsIn_wide.2 (hT ▸ gw)
        have HE : Hid (comeD T (k + 1) = comeD T k ++ [idnV k]) := by show _ = _; unfold comeD; rw [dirN_yes hT]; simp
        clear hT gw hnx hY
        obtain ⟨fn, tmps, assign, body, hy, hRR⟩ := HY.out
        clear HY
        gi_wp2_with (first
          | (refine ⟨trivial, (fun h => by cases h), ?_⟩; refine HT.out.mono ?_; rintro e w1 ⟨rfl, rfl⟩)
          | (refine ⟨(fun h => by cases h), ?_⟩; refine hRR.mono ?_; rintro e w2 (⟨rfl, hj, hk2⟩ | ⟨rfl, hj⟩)))
        · go_roundw
          case rel => exact ⟨k + 1, by omega, by simp, by rw [HE.out]; exact hj, HK.out.trans hk2⟩
          case measure => simp [intOf]; omega
        · refine bodyPost_ret (results_none rfl _ _ _) rfl ?_
          exact ⟨⟨_, rfl⟩, .inr ⟨_, ⟨k + 1, by omega, by rw [HE.out]⟩, hj⟩⟩
    · obtain rfl : k = 32 := by omega
      gi_wp2
      go_end0
      exact ⟨⟨_, rfl⟩, .inl ⟨_, rfl, hJs⟩⟩

theorem dirty_stops (m R : Nat) (pv : Option Addr) (T : Nat → Bool) (w : World) (hR : R + 2 ≤ w.heap.size) (hg : ∀ u, Below w.heap.size w u → AsksD R pv T u) (hp : Boxed w (R + 1) 23 (.pointer pv)) :
    SeqStopsK Fence.wide m Try.prog 106 #[.pointer (some ⟨R + 1, 0, none⟩)] encD19 (KeepD R) (fun ys => ys = comeD T 32) (fun pre => ∃ k, k ≤ 32 ∧ pre = comeD T k) 32 w := fun l J Jx W hW hJa _ hY h0 =>
  dirty1_in m l R pv T J Jx hY W (Nat.le_trans hR hW.size) hJa (hg _ hW) ((hW.block (R + 1) (by omega)).trans hp) h0

theorem info_intD : (Try.prog.info? 3).map (fun i => (i.zero, i.size, i.bytes)) = some (some (.int .i64 0), 1, 8) := by kernel_rfl

set_option maxHeartbeats 400000 in
theorem dtdirty_any (p : Option Addr) (w : World) : Calls Try.prog 70 #[.pointer p] w fun e w' => e = .returned (.func (.func 106) #[] #[.pointer (some ⟨w.heap.size, 0, none⟩)]) ∧ w' = w.alloc (.cells #[.pointer p] 23) := by
  go_enter Try.func70, Try.ntmps70
  go_wp2
  go_ret
  exact ⟨rfl, rfl⟩

set_option maxRecDepth 100000 in
set_option maxHeartbeats 2000000 in
theorem dtdirty_in (m : Nat) (hm : 3 ≤ m) (pv : Option Addr) (T : Nat → Bool) (w : World) (hg : AsksD w.heap.size pv T w) :
    CallsIn Fence.wide m Try.prog 29 #[.pointer pv] w fun e W' => ∃ v, e = .returned v ∧ W'.ownsRow w.heap.size 3 1 v (dirN T 32).length (intCells ((dirN T 32).map fun j : Nat => (j : Int))) ∧ Below w.heap.size w W' := by
  have h1 : 1 ≤ m := by omega
  have hro : Fence.wide.round = none := rfl
  obtain ⟨i0, hi, hz0, hz1, hz2⟩ := info_parts info_intD
  have HW := Lib.hid hg
  clear hg
  refine callsIn_of_wp_marks Try.func29 rfl trivial ?_ hro
  simp only [Try.ntmps29, List.size_toArray, List.length_cons, List.length_nil, Nat.reduceAdd, Nat.reduceSub, Array.replicate_succ, Array.replicate_zero, List.push_toArray, List.append_toArray, List.nil_append, List.cons_append]
  gi_wp2_with fail
  refine ⟨trivial, (callsIn_wide.2 (dtdirty_any _ _)).mono ?_⟩
  rintro e w' ⟨rfl, rfl⟩
  gi_wp2_with fail
  obtain ⟨w3, hw3⟩ : ∃ w3, w3 = (w.alloc (.cells #[.slice none 0 0] 41)).alloc (.cells #[.pointer pv] 23) := ⟨_, rfl⟩
  have hs3 : w3.heap.size = w.heap.size + 2 := by rw [hw3]; simp
  have hB3 : Below w.heap.size w w3 := by rw [hw3]; exact ((Below.refl _ w).alloc (Nat.le_refl _) _).alloc (by simp) _
  have hX3 : Boxed w3 w.heap.size 41 (.slice none 0 0) := by rw [hw3]; exact Boxed.alloc (Boxed.new w 41 _) _
  have hP3 : Boxed w3 (w.heap.size + 1) 23 (.pointer pv) := by
    rw [hw3]
    have := Boxed.new (w.alloc (.cells #[.slice none 0 0] 41)) 23 (.pointer pv)
    rwa [World.size_alloc] at this
  rw [← hw3]
  clear hw3
  refine wpIn_rangeFunc_ownF hro h1 (gf := 106) (lb := #[.pointer (some ⟨w.heap.size + 1, 0, none⟩)]) rfl trivial (enters_of Try.func106 (by kernel_rfl) rfl)
    (dirty_stops (m - 1) w.heap.size pv T w3 (by omega) (fun u hu v k hk hv => HW.out v k hk (hB3.trans ((hu.mono (by omega)).trans hv))) hP3)
    (fun h k => KeepD.trans h k) (fun W l o o' hl ho h1 h2 => KeepD.of (belowK_b (w := w3) (by omega) W l o o' hl ho h1 h2)) (Below.refl _ _) (fun _ => rfl)
    (fun pre W => (∃ v, Boxed W w.heap.size 41 v ∧ W.ownsRow (w.heap.size + 2) 3 1 v pre.length (pre.map idnI) ∧ True) ∧ Below w.heap.size w3 W)
    (fun _ _ _ => False)
    (OwnFrom.and (Own.from (holdsRow_own (w.heap.size + 2) w.heap.size 41 3 1 (fun pre : List Idn => pre.length) (fun pre => pre.map idnI) (fun _ _ => True)) _) (ownFrom_below (by omega) (by omega)))
    (fun _ _ _ _ _ hs _ _ => hs)
    ⟨⟨_, hX3, World.ownsRow_nil _ _ _ _, trivial⟩, Below.refl _ _⟩
    (fun x => { tmps := #[.pointer pv, undef, .slice none 0 0, .pointer (some ⟨w.heap.size, 0, none⟩), .int .i64 (x.i : Int), .pointer pv,
        .func (.func 106) #[] #[.pointer (some ⟨w.heap.size + 1, 0, none⟩)], .int .i64 (x.i : Int), undef, undef, undef, undef, undef], defers := [] }) ?assign ?body ?done ?stop
  case assign =>
    intro l x W K hK
    simp only [encD19]
    gi_wp2
    exact hK
  case body =>
    rintro l pre ⟨i, hi5⟩ W ⟨⟨v, hv, hrow, _⟩, hB⟩ hlt
    have hc := hv.cell
    have hl5 : pre.length < 32 := hlt
    have hsz : w.heap.size + 2 ≤ W.heap.size := by have := hB.size; omega
    have j0 : (0 : Int) ≤ (i : Int) := by omega
    have j1 : (i : Int) < 32 := by omega
    clear hlt
    dsimp only
    gi_wp2_with (gi_at_builtin; refine wpListIn_append_own _ rfl _ _ 41 rfl (w.heap.size + 2) 3 i0 (.int .i64 0) 1 8 Try.underlying41 hi hz0 hz1 hz2 rfl (by decide) _ _ _ rfl (hrow.alloc _) ⟨W.heap.size, 0, none⟩ 1 1 [.int .i64 (i : Int)] rfl rfl (cell_one_new _ _ _) (by simp [Value.oneCell']) (by unfold maxLen; omega) (by omega) (by simp; omega) ?_; intro v' w1 hown' hgrow _; obtain ⟨g', cap', rfl⟩ := ownsRow_succ hown'; obtain ⟨hv1, hv2, hr2, hk2, hb2⟩ := dir_next hv hrow hsz hown' hgrow; have hc1 := hv1.cell; have hf1 := hv1.frozen)
    exact ⟨hk2, hb2, ⟨_, hv2, by simpa [idnI] using hr2, trivial⟩, hB.trans (hb2.bel (by omega))⟩
  case done =>
    rintro D ys W hD rfl ⟨⟨v, hv, hrow, _⟩, hB⟩ hK
    have hc := hv.cell
    obtain ⟨a', c', rfl⟩ := own_shape hrow
    rw [comeD_ints T 32 (Nat.le_refl _)] at hrow
    have hcl : (comeD T 32).length = (dirN T 32).length := by simp [comeD]
    rw [hcl] at hrow hc hv
    gi_wp2
    refine ⟨by simp, .inl ⟨_, _, rfl, run_takeDeferred hK, ?_⟩⟩
    exact ⟨_, results_tmp rfl _ _ _, _, rfl, ownsRow_putObj (rowLowD hrow (by omega)) _ hK rfl, (hB3.trans hB).trans (belowK_b (w := w) (Nat.le_refl _) W D _ _ (by omega) hK rfl rfl)⟩
  case stop =>
    rintro D c pre W _ _ h _
    exact h.elim

/-- Those that are not clean. -/
def dirL (L : List ReqV) (c : Nat) : List Int := (dirN (fun k => cleanV L c (k : Int)) 32).map fun j : Nat => (j : Int)
/-- What Dirty tells. -/
def DirR (l : List Int) (w : World) (e : Ending) (w' : World) : Prop := ∃ v, e = .returned v ∧ w'.ownsRow w.heap.size 3 1 v l.length (intCells l) ∧ Below w.heap.size w w'
theorem ddirty_r {n : Nat} {w : World} {g : Nat} {q : Int} {L : List ReqV} {c : Nat} {S : Nat → Prop} {u : World} (H : GLo n w g q L c S u) :
    Calls Try.prog 29 #[.pointer (some ⟨g, 0, none⟩)] u (DirR (dirL L c) u) := by
  have h := callsIn_wide.1 (dtdirty_in 3 (Nat.le_refl _) (some ⟨g, 0, none⟩) (fun k => cleanV L c (k : Int)) u (fun v k _ hv => dclean_r (H.on hv) k _ rfl))
  exact h.mono fun e w' ⟨v, he, hr, hb⟩ => ⟨v, he, by unfold dirL; rw [List.length_map]; exact hr, hb⟩
end Go.Proofs.Ytenjjgghoacboaa
