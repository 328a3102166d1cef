/-
  THE WATCH's ITERATOR OVER THOSE THAT ARE GONE, AND Gone, by contract. No condition but that a time is a number of its kind.
-/
import Derived.Test.YtomjlhmkmihbeaaWatV
import Derived.RangeFuncNested
import Derived.RangeFuncBound
import Derived.RangeFuncCalls
import Derived.RangeFuncLeaves
import Derived.RangeFuncBox
import Derived.Shelf.Abstract
import Derived.Shelf.RegionOpen
import Derived.WalkKit
import Derived.OwnWalkIn
import Derived.TacticsInMore
import Derived.LoopNIn
import Derived.LoopIn
import Derived.Maps.AppendAt
import Derived.Sort.QuietIn
namespace Go.Proofs.Ytomjlhmkmihbeaa
open Go.RowKit Go.Shelf

attribute [local go_sem] Oper.semAt_some

/-- A node. -/
structure Nod where
  i : Nat
  h : i < 5
def nodV (k : Nat) : Nod := ⟨min k 4, by omega⟩
/-- Those below k that are not there. -/
def goneN (n s : Nat) (f : Nat → Nat) (t : Int) (k : Nat) : List Nat := (List.range k).filter fun j => !isT n s f t (j : Int)
def comeG (n s : Nat) (f : Nat → Nat) (t : Int) (k : Nat) : List Nod := (goneN n s f t k).map nodV
theorem goneN_yes {n s : Nat} {f : Nat → Nat} {t : Int} {k : Nat} (h : isT n s f t (k : Int) = false) : goneN n s f t (k + 1) = goneN n s f t k ++ [k] := by
  simp [goneN, List.range_succ, h]
theorem goneN_no {n s : Nat} {f : Nat → Nat} {t : Int} {k : Nat} (h : isT n s f t (k : Int) = true) : goneN n s f t (k + 1) = goneN n s f t k := by
  simp [goneN, List.range_succ, h]
theorem goneN_len (n s : Nat) (f : Nat → Nat) (t : Int) (k : Nat) : (goneN n s f t k).length ≤ k := by
  have := List.length_filter_le (fun j : Nat => !isT n s f t (j : Int)) (List.range k)
  simpa [goneN] using this
theorem comeG_len (n s : Nat) (f : Nat → Nat) (t : Int) (k : Nat) : (comeG n s f t k).length ≤ k := by simpa [comeG] using goneN_len n s f t k
def encN (x : Nod) : Array Value := #[.int .i64 (x.i : Int)]
theorem enc_nod (k : Nat) (h : k < 5) : encN (nodV k) = #[.int .i64 (k : Int)] := by
  have e : min k 4 = k := by omega
  simp only [encN, nodV, e]
def nodI (x : Nod) : Value := .int .i64 (x.i : Int)
theorem comeG_ints (n s : Nat) (f : Nat → Nat) (t : Int) (k : Nat) (hk : k ≤ 5) : (comeG n s f t k).map nodI = intCells ((goneN n s f t k).map fun j : Nat => (j : Int)) := by
  unfold comeG intCells
  rw [List.map_map, List.map_map]
  refine List.map_congr_left fun j hj => ?_
  have hj' : j < k := by simpa using (List.mem_filter.1 hj).1
  have e : min j 4 = j := by omega
  simp only [Function.comp, nodI, nodV, e]

/-- Block R alone is turned, of those below R + 3. -/
def KeepC (R : Nat) (A C : World) : Prop := Only (fun k => k = R ∨ R + 3 ≤ k) A C
theorem KeepC.refl (R : Nat) (A : World) : KeepC R A A := Only.refl _ _
theorem KeepC.trans {R : Nat} {A C D : World} (h : KeepC R A C) (k : KeepC R C D) : KeepC R A D := Only.trans h k
theorem KeepC.of {R : Nat} {A C : World} (h : Below (R + 3) A C) : KeepC R A C := ⟨h.os, h.tape, h.output, h.size, fun k _ hn => h.block k (by omega)⟩
theorem KeepC.bel {R : Nat} {A C : World} (h : KeepC R A C) (hn : R ≤ A.heap.size) : Below R A C := ⟨h.os, h.tape, h.output, h.size, fun k hk => h.block k (by omega) (by omega)⟩
theorem KeepC.block {R : Nat} {A C : World} (h : KeepC R A C) {k : Nat} (hk : k < A.heap.size) (h1 : k < R ∨ k = R + 1 ∨ k = R + 2) : C.heap[k]? = A.heap[k]? := Only.block h k hk (by omega)

theorem rowLow {w : World} {base base' : Nat} {e : TypeId} {size : Nat} {v : Value} {n : Nat} {xs : List Value} (h : w.ownsRow base e size v n xs) (hb : base' ≤ base) : w.ownsRow base' e size v n xs := by
  refine ⟨h.1, ?_⟩
  rcases h.2 with h0 | ⟨g, cap, cur, rfl, hr, rest⟩
  · exact .inl h0
  · exact .inr ⟨g, cap, cur, rfl, by omega, rest⟩
theorem gone_next {W w1 : World} {R : Nat} {v v' : Value} {k m : Nat} {xs ys : List Value} {tmp : Obj} (hv : Boxed W R 41 v) (hrow : W.ownsRow (R + 3) 3 1 v k xs) (hR : R + 3 ≤ W.heap.size)
    (hown : w1.ownsRow (R + 3) 3 1 v' m ys) (hgrow : (W.alloc tmp).grownBy w1 v.ownBlock) :
    Boxed w1 R 41 v ∧ Boxed (w1.setCell ⟨R, 0, none⟩ v') R 41 v' ∧ (w1.setCell ⟨R, 0, none⟩ v').ownsRow (R + 3) 3 1 v' m ys ∧ KeepsOthers W (w1.setCell ⟨R, 0, none⟩ v') ∧ KeepC R W (w1.setCell ⟨R, 0, none⟩ v') := by
  obtain ⟨h1, h2, _, h4, h5⟩ := hv.appended (t := 41) (e := 3) (by decide) (rowLow hrow (by omega)) (by omega) (Nat.le_refl R) (rowLow hown (by omega)) hgrow
  refine ⟨h1, h2, hown.kept (grownBy_setCell' w1 R v') (.inr (h1.not_row (by decide) hown).symm), h4, h5.os, h5.tape, h5.output, h5.size, fun j hj hn => ?_⟩
  have hs : (W.alloc tmp).heap.size = W.heap.size + 1 := by simp
  exact (Below.heap_setCell _ _ _ j (by show j ≠ R; omega)).trans ((hgrow.block j (by omega) (fun e => by have := (hrow.lt j e.symm).1; omega)).trans (((Below.refl _ W).alloc (Nat.le_refl _) tmp).block j hj))

/-- What the iterator asks of its watch, or of none. -/
structure Asks (R : Nat) (pv : Option Addr) (n s : Nat) (f : Nat → Nat) (t : Int) (W : World) : Prop where
  le : n ≤ 5
  size : Calls Try.prog 48 #[.pointer pv] W fun e w' => e = .returned (.int .i64 n) ∧ W = w'
  there : ∀ u (k : Nat), k < n → KeepC R W u → Calls Try.prog 33 #[.pointer pv, .int .i64 t, .int .i64 k] u fun e w' => e = .returned (.bool (isT n s f t k)) ∧ u = w'
theorem Asks.wt {R b n s : Nat} {f : Nat → Nat} {t : Int} {W : World} (h : Wt W b n s f) (ht : Top t) (hb : b < R) : Asks R (some ⟨b, 0, none⟩) n s f t W :=
  ⟨h.le, wtsize_r h, fun _ k _ hu => wtthere_r (h.keep hu (by omega)) t k ht rfl⟩
theorem Asks.nobody (R : Nat) (t : Int) (W : World) : Asks R none 0 0 (fun _ => 0) t W := ⟨by omega, wtsize_nil W, fun _ k hk _ => by omega⟩

set_option maxRecDepth 100000 in
set_option maxHeartbeats 4000000 in
theorem gone1_in (m l R : Nat) (pv : Option Addr) (n s : Nat) (f : Nat → Nat) (t : Int) (J Jx : List Nod → World → Prop)
    (hY : ∀ pre x W, J pre W → pre.length < 5 → YieldAt Fence.wide (m - 1) Try.prog l (encN x) W fun e W' =>
      (e = .returned (.bool true) ∧ J (pre ++ [x]) W' ∧ KeepC R W W') ∨ (e = .returned (.bool false) ∧ Jx (pre ++ [x]) W'))
    (W : World) (hR : R + 3 ≤ W.heap.size) (_ : AbidesFrom W.heap.size J) (hg : Asks R pv n s f t W) (hp : Boxed W (R + 1) 47 (.pointer pv)) (hq : Boxed W (R + 2) 3 (.int .i64 t)) (h0 : J [] W) :
    CallsIn Fence.wide m Try.prog 49 #[.func (.yield l) #[] #[], .pointer (some ⟨R + 1, 0, none⟩), .pointer (some ⟨R + 2, 0, none⟩)] W fun e W' => (∃ v, e = .returned v) ∧
      ((∃ ys, ys = comeG n s f t n ∧ J ys W') ∨ (∃ pre, (∃ k, k ≤ n ∧ pre = comeG n s f t k) ∧ Jx pre W')) := by
  have hro : Fence.wide.round = none := rfl
  have HG := Lib.hid hg
  have HP := Lib.hid hp
  have HQ := Lib.hid hq
  have cp := hp.cell
  have cq := hq.cell
  have H5 := Lib.hid hg.le
  have HS : Hid (CallsIn Fence.wide (m - 1) Try.prog 48 #[.pointer pv] W fun e w' => e = .returned (.int .i64 n) ∧ W = w') := callsIn_wide.2 hg.size
  clear hg hp hq
  refine callsIn_of_wp Try.func49 rfl trivial ?_ hro
  simp only [Try.ntmps49, List.size_toArray, List.length_cons, List.length_nil, Nat.reduceAdd, Nat.reduceSub, Array.replicate_succ, Array.replicate_zero, List.push_toArray, List.append_toArray, List.nil_append, List.cons_append]
  gi_wp2_with (refine ⟨trivial, (fun h => by cases h), ?_⟩; refine HS.out.mono ?_; rintro e w1 ⟨rfl, rfl⟩)
  clear cp cq
  gi_loopw [7] (fun i wr => ∃ k : Nat, k ≤ n ∧ i = .int .i64 k ∧ J (comeG n s f t k) wr ∧ KeepC R W wr)
    (fun i _ => n - (intOf i).toNat)
  case atStart => exact ⟨0, Nat.zero_le _, rfl, h0, KeepC.refl _ _⟩
  case round =>
    obtain ⟨k, hk, rfl, hJs, hnx⟩ := hrel
    have k5 := H5.out
    by_cases hlt : k < n
    · have hsz := hnx.size
      have gw := HG.out.there wr k hlt hnx
      have cp : wr.cell? ⟨R + 1, 0, none⟩ = some (.pointer pv) := (World.cell?_of_block (a := ⟨R + 1, 0, none⟩) (hnx.block (show R + 1 < W.heap.size by omega) (.inr (.inl rfl)))).trans HP.out.cell
      have cq : wr.cell? ⟨R + 2, 0, none⟩ = some (.int .i64 t) := (World.cell?_of_block (a := ⟨R + 2, 0, none⟩) (hnx.block (show R + 2 < W.heap.size by omega) (.inr (.inr rfl)))).trans HQ.out.cell
      have k1 : (k : Int) < (n : Int) := by omega
      have HK := Lib.hid hnx
      have HY := Lib.hid (hY _ (nodV k) wr hJs (Nat.lt_of_le_of_lt (comeG_len n s f t k) (by omega)))
      rw [enc_nod k (by omega)] at HY
      cases hT : isT n s f t (k : Int) with
      | true =>
        have HT : Hid (CallsIn Fence.wide (m - 1) Try.prog 33 #[.pointer pv, .int .i64 t, .int .i64 (k : Int)] wr fun e w' => e = .returned (.bool true) ∧ wr = w') := callsIn_wide.2 (hT ▸ gw)
        have HE : Hid (comeG n s f t (k + 1) = comeG n s f t k) := by show _ = _; unfold comeG; rw [goneN_no hT]
        clear hT gw hnx hY HY
        gi_wp2_with (refine ⟨trivial, (fun h => by cases h), ?_⟩; refine HT.out.mono ?_; rintro e w1 ⟨rfl, rfl⟩)
        all_goals
          refine ⟨fun _ h => (by cases h), ?_⟩
          gi_wp2
          go_roundw
          case rel => exact ⟨k + 1, by omega, by simp, by rw [HE.out]; exact hJs, HK.out⟩
          case measure => simp [intOf]; omega
      | false =>
        have HT : Hid (CallsIn Fence.wide (m - 1) Try.prog 33 #[.pointer pv, .int .i64 t, .int .i64 (k : Int)] wr fun e w' => e = .returned (.bool false) ∧ wr = w') := callsIn_wide.2 (hT ▸ gw)
        have HE : Hid (comeG n s f t (k + 1) = comeG n s f t k ++ [nodV k]) := by show _ = _; unfold comeG; rw [goneN_yes hT]; simp
        clear hT gw hnx hY
        obtain ⟨fn, tmps, assign, body, hy, hRR⟩ := HY.out
        clear HY
        gi_wp2_with (first
          | (refine ⟨trivial, (fun h => by cases h), ?_⟩; refine HT.out.mono ?_; rintro e w1 ⟨rfl, rfl⟩)
          | (refine ⟨(fun h => by cases h), ?_⟩; refine hRR.mono ?_; rintro e w2 (⟨rfl, hj, hk2⟩ | ⟨rfl, hj⟩)))
        · go_roundw
          case rel => exact ⟨k + 1, by omega, by simp, by rw [HE.out]; exact hj, HK.out.trans hk2⟩
          case measure => simp [intOf]; omega
        · refine bodyPost_ret (results_none rfl _ _ _) rfl ?_
          exact ⟨⟨_, rfl⟩, .inr ⟨_, ⟨k + 1, by omega, by rw [HE.out]⟩, hj⟩⟩
    · obtain rfl : k = n := by omega
      gi_wp2
      go_end0
      exact ⟨⟨_, rfl⟩, .inl ⟨_, rfl, hJs⟩⟩

theorem gone_stops (m R : Nat) (pv : Option Addr) (n s : Nat) (f : Nat → Nat) (t : Int) (w : World) (hR : R + 3 ≤ w.heap.size) (hg : ∀ u, Below w.heap.size w u → Asks R pv n s f t u) (hp : Boxed w (R + 1) 47 (.pointer pv)) (hq : Boxed w (R + 2) 3 (.int .i64 t)) :
    SeqStopsK Fence.wide m Try.prog 49 #[.pointer (some ⟨R + 1, 0, none⟩), .pointer (some ⟨R + 2, 0, none⟩)] encN (KeepC R) (fun ys => ys = comeG n s f t n) (fun pre => ∃ k, k ≤ n ∧ pre = comeG n s f t k) 5 w := fun l J Jx W hW hJa _ hY h0 =>
  gone1_in m l R pv n s f t J Jx hY W (Nat.le_trans hR hW.size) hJa (hg _ hW) ((hW.block (R + 1) (by omega)).trans hp) ((hW.block (R + 2) (by omega)).trans hq) h0

theorem info_intW : (Try.prog.info? 3).map (fun i => (i.zero, i.size, i.bytes)) = some (some (.int .i64 0), 1, 8) := by kernel_rfl

set_option maxHeartbeats 400000 in
theorem wtgone_any (p : Option Addr) (t : Int) (w : World) : Calls Try.prog 46 #[.pointer p, .int .i64 t] w fun e w' => e = .returned (.func (.func 49) #[] #[.pointer (some ⟨w.heap.size, 0, none⟩), .pointer (some ⟨w.heap.size + 1, 0, none⟩)]) ∧ w' = (w.alloc (.cells #[.pointer p] 47)).alloc (.cells #[.int .i64 t] 3) := by
  go_enter Try.func46, Try.ntmps46
  go_wp2
  go_ret
  exact ⟨rfl, rfl⟩

set_option maxRecDepth 100000 in
set_option maxHeartbeats 2000000 in
theorem wtgone_in (m : Nat) (hm : 3 ≤ m) (pv : Option Addr) (n s : Nat) (f : Nat → Nat) (t : Int) (w : World) (hn5 : n ≤ 5) (hg : ∀ u, Below w.heap.size w u → Asks w.heap.size pv n s f t u) :
    CallsIn Fence.wide m Try.prog 31 #[.pointer pv, .int .i64 t] w fun e W' => ∃ v, e = .returned v ∧ W'.ownsRow w.heap.size 3 1 v (goneN n s f t n).length (intCells ((goneN n s f t n).map fun j : Nat => (j : Int))) ∧ Below w.heap.size w W' := by
  have h1 : 1 ≤ m := by omega
  have hro : Fence.wide.round = none := rfl
  obtain ⟨i0, hi, hz0, hz1, hz2⟩ := info_parts info_intW
  have HW := Lib.hid hg
  clear hg
  refine callsIn_of_wp_marks Try.func31 rfl trivial ?_ hro
  simp only [Try.ntmps31, List.size_toArray, List.length_cons, List.length_nil, Nat.reduceAdd, Nat.reduceSub, Array.replicate_succ, Array.replicate_zero, List.push_toArray, List.append_toArray, List.nil_append, List.cons_append]
  gi_wp2_with fail
  refine ⟨trivial, (callsIn_wide.2 (wtgone_any _ _ _)).mono ?_⟩
  rintro e w' ⟨rfl, rfl⟩
  gi_wp2_with fail
  obtain ⟨w3, hw3⟩ : ∃ w3, w3 = ((w.alloc (.cells #[.slice none 0 0] 41)).alloc (.cells #[.pointer pv] 47)).alloc (.cells #[.int .i64 t] 3) := ⟨_, rfl⟩
  have hs3 : w3.heap.size = w.heap.size + 3 := by rw [hw3]; simp
  have hB3 : Below w.heap.size w w3 := by rw [hw3]; exact (((Below.refl _ w).alloc (Nat.le_refl _) _).alloc (by simp) _).alloc (by simp; omega) _
  have hX3 : Boxed w3 w.heap.size 41 (.slice none 0 0) := by rw [hw3]; exact Boxed.alloc (Boxed.alloc (Boxed.new w 41 _) _) _
  have hP3 : Boxed w3 (w.heap.size + 1) 47 (.pointer pv) := by
    rw [hw3]
    have := Boxed.new (w.alloc (.cells #[.slice none 0 0] 41)) 47 (.pointer pv)
    rw [World.size_alloc] at this
    exact Boxed.alloc this _
  have hQ3 : Boxed w3 (w.heap.size + 2) 3 (.int .i64 t) := by
    rw [hw3]
    have := Boxed.new ((w.alloc (.cells #[.slice none 0 0] 41)).alloc (.cells #[.pointer pv] 47)) 3 (.int .i64 t)
    rwa [World.size_alloc, World.size_alloc] at this
  rw [← hw3]
  clear hw3
  refine wpIn_rangeFunc_ownF hro h1 (gf := 49) (lb := #[.pointer (some ⟨w.heap.size + 1, 0, none⟩), .pointer (some ⟨w.heap.size + 2, 0, none⟩)]) rfl trivial (enters_of Try.func49 (by kernel_rfl) rfl)
    (gone_stops (m - 1) w.heap.size pv n s f t w3 (by omega) (fun u hu => HW.out u (hB3.trans (hu.mono (by omega)))) hP3 hQ3)
    (fun h k => KeepC.trans h k) (fun W l o o' hl ho h1 h2 => KeepC.of (belowK_b (w := w3) (by omega) W l o o' hl ho h1 h2)) (Below.refl _ _) (fun _ => rfl)
    (fun pre W => (∃ v, Boxed W w.heap.size 41 v ∧ W.ownsRow (w.heap.size + 3) 3 1 v pre.length (pre.map nodI) ∧ True) ∧ Below w.heap.size w3 W)
    (fun _ _ _ => False)
    (OwnFrom.and (Own.from (holdsRow_own (w.heap.size + 3) w.heap.size 41 3 1 (fun pre : List Nod => pre.length) (fun pre => pre.map nodI) (fun _ _ => True)) _) (ownFrom_below (by omega) (by omega)))
    (fun _ _ _ _ _ hs _ _ => hs)
    ⟨⟨_, hX3, World.ownsRow_nil _ _ _ _, trivial⟩, Below.refl _ _⟩
    (fun x => { tmps := #[.pointer pv, .int .i64 t, undef, undef, .slice none 0 0, .pointer (some ⟨w.heap.size, 0, none⟩), .int .i64 (x.i : Int), .pointer pv, .int .i64 t,
        .func (.func 49) #[] #[.pointer (some ⟨w.heap.size + 1, 0, none⟩), .pointer (some ⟨w.heap.size + 2, 0, none⟩)], .int .i64 (x.i : Int), undef, undef, undef, undef, undef], defers := [] }) ?assign ?body ?done ?stop
  case assign =>
    intro l x W K hK
    simp only [encN]
    gi_wp2
    exact hK
  case body =>
    rintro l pre ⟨i, hi5⟩ W ⟨⟨v, hv, hrow, _⟩, hB⟩ hlt
    have hc := hv.cell
    have hl5 : pre.length < 5 := hlt
    have hsz : w.heap.size + 3 ≤ W.heap.size := by have := hB.size; omega
    have j0 : (0 : Int) ≤ (i : Int) := by omega
    have j1 : (i : Int) < 5 := by omega
    clear hlt
    dsimp only
    gi_wp2_with (gi_at_builtin; refine wpListIn_append_own _ rfl _ _ 41 rfl (w.heap.size + 3) 3 i0 (.int .i64 0) 1 8 Try.underlying41 hi hz0 hz1 hz2 rfl (by decide) _ _ _ rfl (hrow.alloc _) ⟨W.heap.size, 0, none⟩ 1 1 [.int .i64 (i : Int)] rfl rfl (cell_one_new _ _ _) (by simp [Value.oneCell']) (by unfold maxLen; omega) (by omega) (by simp; omega) ?_; intro v' w1 hown' hgrow _; obtain ⟨g', cap', rfl⟩ := ownsRow_succ hown'; obtain ⟨hv1, hv2, hr2, hk2, hb2⟩ := gone_next hv hrow hsz hown' hgrow; have hc1 := hv1.cell; have hf1 := hv1.frozen)
    exact ⟨hk2, hb2, ⟨_, hv2, by simpa [nodI] using hr2, trivial⟩, hB.trans (hb2.bel (by omega))⟩
  case done =>
    rintro D ys W hD rfl ⟨⟨v, hv, hrow, _⟩, hB⟩ hK
    have hc := hv.cell
    obtain ⟨a', c', rfl⟩ := own_shape hrow
    rw [comeG_ints n s f t n hn5] at hrow
    have hcl : (comeG n s f t n).length = (goneN n s f t n).length := by simp [comeG]
    rw [hcl] at hrow hc hv
    gi_wp2
    refine ⟨by simp, .inl ⟨_, _, rfl, run_takeDeferred hK, ?_⟩⟩
    exact ⟨_, results_tmp rfl _ _ _, _, rfl, ownsRow_putObj (rowLow hrow (by omega)) _ hK rfl, (hB3.trans hB).trans (belowK_b (w := w) (Nat.le_refl _) W D _ _ (by omega) hK rfl rfl)⟩
  case stop =>
    rintro D c pre W _ _ h _
    exact h.elim

/-- Those that are gone. -/
def goneL (n s : Nat) (f : Nat → Nat) (t : Int) : List Int := (goneN n s f t n).map fun j : Nat => (j : Int)
theorem wtgone_r {w : World} {b n s : Nat} {f : Nat → Nat} (H : Wt w b n s f) (t : Int) (ht : Top t) :
    Calls Try.prog 31 #[.pointer (some ⟨b, 0, none⟩), .int .i64 t] w fun e W' => ∃ v, e = .returned v ∧ W'.ownsRow w.heap.size 3 1 v (goneL n s f t).length (intCells (goneL n s f t)) ∧ Below w.heap.size w W' := by
  have h := callsIn_wide.1 (wtgone_in 3 (Nat.le_refl _) (some ⟨b, 0, none⟩) n s f t w H.le (fun u hu => .wt (H.on hu) ht H.lt))
  unfold goneL
  simpa using h
theorem wtgone_nil (t : Int) (w : World) :
    Calls Try.prog 31 #[.pointer none, .int .i64 t] w fun e W' => ∃ a c, e = .returned (.slice a 0 c) ∧ Below w.heap.size w W' := by
  refine (callsIn_wide.1 (wtgone_in 3 (Nat.le_refl _) none 0 0 (fun _ => 0) t w (by omega) (fun u _ => .nobody _ t u))).mono ?_
  rintro e W' ⟨v, he, hr, hb⟩
  obtain ⟨a, c, rfl⟩ := own_shape hr
  exact ⟨a, c, he, hb⟩
end Go.Proofs.Ytomjlhmkmihbeaa
