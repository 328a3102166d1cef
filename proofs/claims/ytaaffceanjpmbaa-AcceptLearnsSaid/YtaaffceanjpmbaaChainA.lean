/-
  THE PROGRAM's at, AND ITS ITERATOR OVER WHO STANDS WHERE, by contract. Of chains of at most a million nodes.
-/
import Derived.Test.YtaaffceanjpmbaaChainV
import Derived.Test.YtaaffceanjpmbaaRound
import Derived.Test.YtaaffceanjpmbaaItemCMay
namespace Go.Proofs.Ytaaffceanjpmbaa
open Go.RowKit Go.Shelf

attribute [local go_sem] Oper.semAt_some

set_option maxHeartbeats 1000000 in
theorem chat_r (ep : Int) (v : Value) (L : List Int) (k : Int) (B : Nat) (w : World) (hI : Ints w B v L) (hB : B ≤ w.heap.size) {R : Int} (hR : chAt L k = R) :
    Calls Try.prog 82 #[.agg #[.int .i64 ep, v], .int .i64 k] w fun e w' => e = .returned (.int .i64 R) ∧ Below w.heap.size w w' := by
  obtain ⟨ao, cap, rfl, h1, h2, h3, h4⟩ := hI
  obtain ⟨n, hn⟩ : ∃ n, n = L.length := ⟨_, rfl⟩
  rw [← hn] at h4 ⊢
  by_cases h0 : k < 0
  · have HF : Hid (R = -1) := by show _ = _; rw [← hR]; exact chAt_out (.inl h0)
    clear hR h4
    go_enter Try.func82, Try.ntmps82
    go_wp2
    go_returns
    exact ⟨ret_num HF.out.symm, by go_grown⟩
  · by_cases hk : k < (n : Int)
    · obtain ⟨m, rfl⟩ : ∃ m : Nat, k = m := ⟨k.toNat, by omega⟩
      obtain ⟨b, off, rfl, hbB, hc⟩ := h4 (by intro h; rw [h] at hn; simp at hn; omega)
      have hcell := hc m (by omega)
      rw [← chAt_in (by omega), hR] at hcell
      have hbel : ∀ o, (w.alloc o).cell? ⟨b, off + m, none⟩ = some (.int .i64 R) := fun o => (((Below.refl _ w).alloc (Nat.le_refl _) o).cell (p := ⟨b, off + m, none⟩) (show b < w.heap.size by omega)).trans hcell
      have hcell' := hbel (.cells #[.int .i64 ep, .slice (some ⟨b, off, none⟩) n cap] 28)
      clear hR hc h4 hbel hn hcell
      go_enter Try.func82, Try.ntmps82
      go_wp2
      go_returns
      exact ⟨rfl, by go_grown⟩
    · have HF : Hid (R = -1) := by show _ = _; rw [← hR]; exact chAt_out (.inr (by omega))
      clear hR h4
      go_enter Try.func82, Try.ntmps82
      go_wp2
      go_returns
      exact ⟨ret_num HF.out.symm, by go_grown⟩

/-- Where a node stands: who is above it, it, who is below it. -/
structure SpotV where
  ab : Int
  nd : Int
  bl : Int
def SpotV.val (x : SpotV) : Value := .agg #[.int .i64 x.ab, .int .i64 x.nd, .int .i64 x.bl]
def encSp (x : SpotV) : Array Value := #[x.val]
def spotOf (L : List Int) (k : Nat) : SpotV := ⟨chAt L ((k : Int) - 1), L.getD k 0, chAt L ((k : Int) + 1)⟩
def spotsOf (L : List Int) (k : Nat) : List SpotV := (List.range k).map (spotOf L)
theorem spotsOf_succ (L : List Int) (k : Nat) : spotsOf L (k + 1) = spotsOf L k ++ [spotOf L k] := by simp [spotsOf, List.range_succ]
theorem spotsOf_length (L : List Int) (k : Nat) : (spotsOf L k).length = k := by simp [spotsOf]
/-- What a maker makes, up to a number. -/
def mks {α : Type} (mk : Nat → α) (k : Nat) : List α := (List.range k).map mk
theorem mks_succ {α : Type} (mk : Nat → α) (k : Nat) : mks mk (k + 1) = mks mk k ++ [mk k] := by simp [mks, List.range_succ]
theorem mks_length {α : Type} (mk : Nat → α) (k : Nat) : (mks mk k).length = k := by simp [mks]
theorem spotsOf_nodes (L : List Int) (k : Nat) (hk : k ≤ L.length) : (spotsOf L k).map (·.nd) = L.take k := by
  induction k with
  | zero => simp [spotsOf]
  | succ k ih => rw [spotsOf_succ, List.map_append, ih (by omega), take_snoc L k hk]; rfl

theorem ints_cell {w : World} {B : Nat} {ao : Option Addr} {n cap : Nat} {L : List Int} (h : Ints w B (.slice ao n cap) L) : n = L.length ∧ (∀ k, k < n → ∃ b off, ao = some ⟨b, off, none⟩ ∧ b < B ∧ w.cell? ⟨b, off + k, none⟩ = some (.int .i64 (L.getD k 0))) := by
  obtain ⟨a, c, he, h1, h2, h3, h4⟩ := h
  simp only [Value.slice.injEq] at he
  obtain ⟨rfl, rfl, rfl⟩ := he
  refine ⟨rfl, fun k hk => ?_⟩
  obtain ⟨b, off, rfl, hb, hc⟩ := h4 (fun e => by rw [e] at hk; simp at hk)
  exact ⟨b, off, rfl, hb, hc k hk⟩

theorem anyIn_take {F : Fence} {n : Nat} {P : Program} {ops : Array Oper} {Q : Exit → Act → World → Prop} {md : Region.Mode} {oi : Oper} {fuel : Nat} {listed : Array Bool} {a : Act} {w : World} (i d : Nat) {v : Value} (hro : F.round = none) (hi : ops[i]? = some oi) (hd : oi.dst = some d)
    (hs : Region.noSelect ops = true) (hf : Region.free md ops listed i = true) (hr : (Region.ready md ops listed).contains i = true)
    (hQ : ∀ c a w, Q (.panic c) (a.put oi.dst v) w → Q (.panic c) a w) (hy : YieldsFenced P ops oi v a)
    (h : wpAnyIn F n P md ops Q fuel (listed.setIfInBounds i true) (a.put (some d) v) w) : wpAnyIn F n P md ops Q (fuel + 1) listed a w :=
  wpAnyIn_take hro hi hs hf hr hQ hy (hd ▸ h)

set_option maxRecDepth 100000 in
set_option maxHeartbeats 8000000 in
theorem spots1_g {α : Type} (mk : Nat → α) (encs : α → Array Value) (n : Nat) (l Bs n₀ B : Nat) (ep : Int) (v0 : Value) (w0 : World) (L : List Int) (hlim : L.length ≤ 1000000) (hI : Ints w0 B v0 L) (hBn : B ≤ n₀) (he : ∀ k, k < L.length → encs (mk k) = encSp (spotOf L k)) (J Jx : List α → World → Prop)
    (hY : ∀ pre x W, J pre W → pre.length < L.length → YieldAt Fence.wide (n - 1) Try.prog l (encs x) W fun e W' =>
      (e = .returned (.bool true) ∧ J (pre ++ [x]) W' ∧ KeepB n₀ Bs W W') ∨ (e = .returned (.bool false) ∧ Jx (pre ++ [x]) W'))
    (W : World) (hn₀ : n₀ ≤ W.heap.size) (hJa : AbidesFrom W.heap.size J) (h0W : Below B w0 W) (hbox : ChB W Bs ep v0) (h0 : J [] W) :
    CallsIn Fence.wide n Try.prog 81 #[.func (.yield l) #[] #[], .pointer (some ⟨Bs, 0, none⟩)] W fun e W' => (∃ v, e = .returned v) ∧
      ((∃ ys, ys = mks mk L.length ∧ J ys W') ∨ (∃ pre, (∃ k, k ≤ L.length ∧ pre = mks mk k) ∧ Jx pre W')) := by
  obtain ⟨a0, c0, rfl⟩ : ∃ a c, v0 = .slice a L.length c := by obtain ⟨a, c, h, _⟩ := hI; exact ⟨a, c, h⟩
  obtain ⟨m, hm⟩ : ∃ m, m = L.length := ⟨_, rfl⟩
  rw [← hm] at hlim hI hbox hY ⊢
  have HI := Lib.hid hI
  have HX := Lib.hid hbox
  have HM := Lib.hid hm
  have HE := Lib.hid he
  have hro : Fence.wide.round = none := rfl
  obtain ⟨b0, b1⟩ := hbox.cells
  clear hI hbox hm he
  refine callsIn_of_wp Try.func81 rfl trivial ?_ hro
  simp only [Try.ntmps81, List.size_toArray, List.length_cons, List.length_nil, Nat.reduceAdd, Nat.reduceSub, Array.replicate_succ, Array.replicate_zero, List.push_toArray, List.append_toArray, List.nil_append, List.cons_append]
  gi_wp2
  gi_loopw [8] (fun i wr => ∃ k : Nat, k ≤ m ∧ i = .int .i64 k ∧ J (mks mk k) wr ∧ KeepB n₀ Bs W wr)
    (fun i _ => m - (intOf i).toNat)
  case atStart => exact ⟨0, Nat.zero_le _, rfl, h0, Below.refl _ _, rfl⟩
  case round =>
    obtain ⟨k, hk, rfl, hJs, hnx⟩ := hrel
    by_cases hlt : k < m
    · have hsz := hnx.1.size
      have hcb : ChB wr Bs ep (.slice a0 m c0) := by
        obtain ⟨e, h⟩ := HX.out
        exact ⟨e, hnx.2.trans h⟩
      have hbw : Below B w0 wr := h0W.trans (hnx.1.mono hBn)
      have hIw := HI.out.keep hbw
      obtain ⟨b, off, rfl, hbB, hcell⟩ := (ints_cell hIw).2 k hlt
      have HIw := Lib.hid hIw
      have HK := Lib.hid hnx
      have hBw : B ≤ wr.heap.size := by omega
      have HCB := Lib.hid hcb
      obtain ⟨d0, d1⟩ := hcb.cells
      obtain ⟨x, hx⟩ : ∃ x, x = L.getD k 0 := ⟨_, rfl⟩
      rw [← hx] at hcell
      obtain ⟨p, hp⟩ : ∃ p, p = chAt L ((k : Int) - 1) := ⟨_, rfl⟩
      obtain ⟨q, hq⟩ : ∃ q, q = chAt L ((k : Int) + 1) := ⟨_, rfl⟩
      have hsp : spotOf L k = ⟨p, x, q⟩ := by rw [hp, hx, hq]; rfl
      have HP : Hid (∀ u, Below wr.heap.size wr u → CallsIn Fence.wide (n - 1) Try.prog 82 #[.agg #[.int .i64 ep, .slice (some ⟨b, off, none⟩) m c0], .int .i64 ((k : Int) - 1)] u fun e w' => e = .returned (.int .i64 p) ∧ Below wr.heap.size wr w') := fun u hu =>
        callsIn_wide.2 ((chat_r ep _ L _ B u (HIw.out.keep (hu.mono hBw)) (Nat.le_trans hBw hu.size) hp.symm).mono fun e w' ⟨he, hb⟩ => ⟨he, hu.trans (hb.mono hu.size)⟩)
      have HQ : Hid (∀ u, Below wr.heap.size wr u → CallsIn Fence.wide (n - 1) Try.prog 82 #[.agg #[.int .i64 ep, .slice (some ⟨b, off, none⟩) m c0], .int .i64 ((k : Int) + 1)] u fun e w' => e = .returned (.int .i64 q) ∧ Below wr.heap.size wr w') := fun u hu =>
        callsIn_wide.2 ((chat_r ep _ L _ B u (HIw.out.keep (hu.mono hBw)) (Nat.le_trans hBw hu.size) hq.symm).mono fun e w' ⟨he, hb⟩ => ⟨he, hu.trans (hb.mono hu.size)⟩)
      have HYY : Hid (∀ u, Below wr.heap.size wr u → YieldAt Fence.wide (n - 1) Try.prog l #[.agg #[.int .i64 p, .int .i64 x, .int .i64 q]] u fun e W' =>
          (e = .returned (.bool true) ∧ Hid (J (mks mk (k + 1)) W' ∧ KeepB n₀ Bs W W')) ∨ (e = .returned (.bool false) ∧ Hid (Jx (mks mk (k + 1)) W'))) := fun u hu => by
        have hJ1 : J (mks mk k) u := hJa _ _ _ none hJs ⟨hu.os, hu.tape, hu.output, hu.size, fun k hk _ => hu.block k hk⟩ (fun r e => by cases e)
        have hy := hY _ (mk k) u hJ1 (by rw [mks_length]; exact hlt)
        rw [← mks_succ, HE.out k (by have := HM.out; omega), show encSp (spotOf L k) = #[.agg #[.int .i64 p, .int .i64 x, .int .i64 q]] by rw [hsp]; rfl] at hy
        refine YieldAt.mono hy fun e W' h => ?_
        rcases h with ⟨he, hj, hk⟩ | ⟨he, hj⟩
        · exact .inl ⟨he, hj, (HK.out.trans (.of hu (by omega) HCB.out.lt)).trans hk⟩
        · exact .inr ⟨he, hj⟩
      have DC : Hid (∀ u, Below wr.heap.size wr u → u.cell? ⟨Bs, 0, none⟩ = some (.int .i64 ep) ∧ u.cell? ⟨Bs, 1, none⟩ = some (.slice (some ⟨b, off, none⟩) m c0)) := fun u hu => (HCB.out.keep hu HCB.out.lt).cells
      have B0 : Below wr.heap.size wr wr.drew := (Below.refl _ _).drew
      have s1 : IntKind.i64.wrap ((k : Int) - 1) = (k : Int) - 1 := by rw [IntKind.wrap_i64]; omega
      have s2 : IntKind.i64.wrap ((k : Int) + 1) = (k : Int) + 1 := by rw [IntKind.wrap_i64]; omega
      clear hx hp hq hsp hIw hcb hbw hnx hJs hbB hY hJa h0W h0
      gi_wp2_with fail
      refine wpIn_region_any (by kernel_rfl) ?_
      change wpAnyIn _ _ _ _ _ _ _ _ _ (World.drew _)
      simp only [Array.size, List.length_cons, List.length_nil]
      refine anyIn_take 0 13 (v := .func (.yield l) #[] #[]) rfl rfl rfl (by kernel_rfl) (by kernel_rfl) (by kernel_rfl) (fun _ _ _ h => h) ⟨.inl ⟨by rfl, fun w => ?_⟩, fun w => by rfl⟩ ?_
      · first | (go_simp; done) | (go_simp; with_reducible rfl)
      simp only [Act.put, List.setIfInBounds_toArray, List.set_cons_zero, List.set_cons_succ]
      refine anyIn_take 2 15 (v := .int .i64 k) rfl rfl rfl (by kernel_rfl) (by kernel_rfl) (by kernel_rfl) (fun _ _ _ h => h) ⟨.inl ⟨by rfl, fun w => ?_⟩, fun w => by rfl⟩ ?_
      · first | (go_simp; done) | (go_simp; with_reducible rfl)
      simp only [Act.put, List.setIfInBounds_toArray, List.set_cons_zero, List.set_cons_succ]
      refine anyIn_take 3 16 (v := .int .i64 ((k : Int) - 1)) rfl rfl rfl (by kernel_rfl) (by kernel_rfl) (by kernel_rfl) (fun _ _ _ h => h) ⟨.inl ⟨by rfl, fun w => ?_⟩, fun w => by rfl⟩ ?_
      · first | (go_simp; done) | (go_simp; with_reducible rfl)
      simp only [Act.put, List.setIfInBounds_toArray, List.set_cons_zero, List.set_cons_succ]
      refine anyIn_take 5 18 (v := .int .i64 x) rfl rfl rfl (by kernel_rfl) (by kernel_rfl) (by kernel_rfl) (fun _ _ _ h => h) ⟨.inl ⟨by rfl, fun w => ?_⟩, fun w => by rfl⟩ ?_
      · first | (go_simp; done) | (go_simp; with_reducible rfl)
      simp only [Act.put, List.setIfInBounds_toArray, List.set_cons_zero, List.set_cons_succ]
      refine anyIn_take 7 20 (v := .int .i64 k) rfl rfl rfl (by kernel_rfl) (by kernel_rfl) (by kernel_rfl) (fun _ _ _ h => h) ⟨.inl ⟨by rfl, fun w => ?_⟩, fun w => by rfl⟩ ?_
      · first | (go_simp; done) | (go_simp; with_reducible rfl)
      simp only [Act.put, List.setIfInBounds_toArray, List.set_cons_zero, List.set_cons_succ]
      refine anyIn_take 8 21 (v := .int .i64 ((k : Int) + 1)) rfl rfl rfl (by kernel_rfl) (by kernel_rfl) (by kernel_rfl) (fun _ _ _ h => h) ⟨.inl ⟨by rfl, fun w => ?_⟩, fun w => by rfl⟩ ?_
      · first | (go_simp; done) | (go_simp; with_reducible rfl)
      simp only [Act.put, List.setIfInBounds_toArray, List.set_cons_zero, List.set_cons_succ]
      refine wpAnyIn_ready (rs := [1, 6]) (by kernel_rfl) (by simp) (AllReadyIn.cons rfl (fun K hK => ?_) (AllReadyIn.cons rfl (fun K hK => ?_) AllReadyIn.nil))
      · obtain ⟨l0, l1⟩ := DC.out _ B0
        go_simp
        with_reducible refine hK _ _ ?_
        clear hK K l0 l1
        refine wpAnyIn_ready (rs := [4, 6]) (by kernel_rfl) (by simp) (AllReadyIn.cons rfl (fun K hK => ?_) (AllReadyIn.cons rfl (fun K hK => ?_) AllReadyIn.nil))
        · go_simp
          refine ⟨trivial, (fun h => by cases h), ?_⟩
          with_reducible refine (HP.out _ B0).mono ?_
          rintro e u1 ⟨rfl, B1⟩
          with_reducible refine hK _ _ ?_
          clear hK K
          refine wpAnyIn_ready (rs := [6]) (by kernel_rfl) (by simp) (AllReadyIn.cons rfl (fun K hK => ?_) AllReadyIn.nil)
          obtain ⟨l0, l1⟩ := DC.out _ B1
          go_simp
          with_reducible refine hK _ _ ?_
          clear hK K l0 l1
          refine wpAnyIn_ready (rs := [9]) (by kernel_rfl) (by simp) (AllReadyIn.cons rfl (fun K hK => ?_) AllReadyIn.nil)
          go_simp
          refine ⟨trivial, (fun h => by cases h), ?_⟩
          with_reducible refine (HQ.out _ B1).mono ?_
          rintro e u2 ⟨rfl, B2⟩
          with_reducible refine hK _ _ ?_
          clear hK K
          refine anyIn_take 10 23 (v := .agg #[.int .i64 p, .int .i64 x, .int .i64 q]) rfl rfl rfl (by kernel_rfl) (by kernel_rfl) (by kernel_rfl) (fun _ _ _ h => h) ⟨.inl ⟨by rfl, fun w => ?_⟩, fun w => by rfl⟩ ?_
          · first | (go_simp; done) | (go_simp; with_reducible rfl)
          simp only [Act.put, List.setIfInBounds_toArray, List.set_cons_zero, List.set_cons_succ]
          refine wpAnyIn_ready (rs := [11]) (by kernel_rfl) (by simp) (AllReadyIn.cons rfl (fun K hK => ?_) AllReadyIn.nil)
          obtain ⟨fn, tmps, assign, body, hy, hR⟩ := HYY.out _ B2
          go_simp
          refine ⟨(fun h => by cases h), ?_⟩
          with_reducible refine hR.mono ?_
          rintro e u9 (⟨rfl, hj⟩ | ⟨rfl, hj⟩)
          all_goals
            with_reducible refine hK _ _ ?_
            clear hK K hy hR
          · refine anyIn_take 12 25 (v := .bool false) rfl rfl rfl (by kernel_rfl) (by kernel_rfl) (by kernel_rfl) (fun _ _ _ h => h) ⟨.inl ⟨by rfl, fun w => ?_⟩, fun w => by rfl⟩ ?_
            · first | (go_simp; done) | (go_simp; with_reducible rfl)
            simp only [Act.put, List.setIfInBounds_toArray, List.set_cons_zero, List.set_cons_succ]
            refine wpAnyIn_done (by kernel_rfl) ?_ _
            gi_wp2
            go_roundw
            case rel => exact ⟨k + 1, by omega, by simp, hj.out.1, hj.out.2⟩
            case measure => simp [intOf]; omega
          · refine anyIn_take 12 25 (v := .bool true) rfl rfl rfl (by kernel_rfl) (by kernel_rfl) (by kernel_rfl) (fun _ _ _ h => h) ⟨.inl ⟨by rfl, fun w => ?_⟩, fun w => by rfl⟩ ?_
            · first | (go_simp; done) | (go_simp; with_reducible rfl)
            simp only [Act.put, List.setIfInBounds_toArray, List.set_cons_zero, List.set_cons_succ]
            refine wpAnyIn_done (by kernel_rfl) ?_ _
            gi_wp2
            refine bodyPost_ret (results_none rfl _ _ _) rfl ?_
            exact ⟨⟨_, rfl⟩, .inr ⟨_, ⟨k + 1, by have := HM.out; omega, rfl⟩, hj.out⟩⟩
        · obtain ⟨l0, l1⟩ := DC.out _ B0
          go_simp
          with_reducible refine hK _ _ ?_
          clear hK K l0 l1
          refine wpAnyIn_ready (rs := [4]) (by kernel_rfl) (by simp) (AllReadyIn.cons rfl (fun K hK => ?_) AllReadyIn.nil)
          go_simp
          refine ⟨trivial, (fun h => by cases h), ?_⟩
          with_reducible refine (HP.out _ B0).mono ?_
          rintro e u1 ⟨rfl, B1⟩
          with_reducible refine hK _ _ ?_
          clear hK K
          refine wpAnyIn_ready (rs := [9]) (by kernel_rfl) (by simp) (AllReadyIn.cons rfl (fun K hK => ?_) AllReadyIn.nil)
          go_simp
          refine ⟨trivial, (fun h => by cases h), ?_⟩
          with_reducible refine (HQ.out _ B1).mono ?_
          rintro e u2 ⟨rfl, B2⟩
          with_reducible refine hK _ _ ?_
          clear hK K
          refine anyIn_take 10 23 (v := .agg #[.int .i64 p, .int .i64 x, .int .i64 q]) rfl rfl rfl (by kernel_rfl) (by kernel_rfl) (by kernel_rfl) (fun _ _ _ h => h) ⟨.inl ⟨by rfl, fun w => ?_⟩, fun w => by rfl⟩ ?_
          · first | (go_simp; done) | (go_simp; with_reducible rfl)
          simp only [Act.put, List.setIfInBounds_toArray, List.set_cons_zero, List.set_cons_succ]
          refine wpAnyIn_ready (rs := [11]) (by kernel_rfl) (by simp) (AllReadyIn.cons rfl (fun K hK => ?_) AllReadyIn.nil)
          obtain ⟨fn, tmps, assign, body, hy, hR⟩ := HYY.out _ B2
          go_simp
          refine ⟨(fun h => by cases h), ?_⟩
          with_reducible refine hR.mono ?_
          rintro e u9 (⟨rfl, hj⟩ | ⟨rfl, hj⟩)
          all_goals
            with_reducible refine hK _ _ ?_
            clear hK K hy hR
          · refine anyIn_take 12 25 (v := .bool false) rfl rfl rfl (by kernel_rfl) (by kernel_rfl) (by kernel_rfl) (fun _ _ _ h => h) ⟨.inl ⟨by rfl, fun w => ?_⟩, fun w => by rfl⟩ ?_
            · first | (go_simp; done) | (go_simp; with_reducible rfl)
            simp only [Act.put, List.setIfInBounds_toArray, List.set_cons_zero, List.set_cons_succ]
            refine wpAnyIn_done (by kernel_rfl) ?_ _
            gi_wp2
            go_roundw
            case rel => exact ⟨k + 1, by omega, by simp, hj.out.1, hj.out.2⟩
            case measure => simp [intOf]; omega
          · refine anyIn_take 12 25 (v := .bool true) rfl rfl rfl (by kernel_rfl) (by kernel_rfl) (by kernel_rfl) (fun _ _ _ h => h) ⟨.inl ⟨by rfl, fun w => ?_⟩, fun w => by rfl⟩ ?_
            · first | (go_simp; done) | (go_simp; with_reducible rfl)
            simp only [Act.put, List.setIfInBounds_toArray, List.set_cons_zero, List.set_cons_succ]
            refine wpAnyIn_done (by kernel_rfl) ?_ _
            gi_wp2
            refine bodyPost_ret (results_none rfl _ _ _) rfl ?_
            exact ⟨⟨_, rfl⟩, .inr ⟨_, ⟨k + 1, by have := HM.out; omega, rfl⟩, hj.out⟩⟩
      · obtain ⟨l0, l1⟩ := DC.out _ B0
        go_simp
        with_reducible refine hK _ _ ?_
        clear hK K l0 l1
        refine wpAnyIn_ready (rs := [1]) (by kernel_rfl) (by simp) (AllReadyIn.cons rfl (fun K hK => ?_) AllReadyIn.nil)
        obtain ⟨l0, l1⟩ := DC.out _ B0
        go_simp
        with_reducible refine hK _ _ ?_
        clear hK K l0 l1
        refine wpAnyIn_ready (rs := [4]) (by kernel_rfl) (by simp) (AllReadyIn.cons rfl (fun K hK => ?_) AllReadyIn.nil)
        go_simp
        refine ⟨trivial, (fun h => by cases h), ?_⟩
        with_reducible refine (HP.out _ B0).mono ?_
        rintro e u1 ⟨rfl, B1⟩
        with_reducible refine hK _ _ ?_
        clear hK K
        refine wpAnyIn_ready (rs := [9]) (by kernel_rfl) (by simp) (AllReadyIn.cons rfl (fun K hK => ?_) AllReadyIn.nil)
        go_simp
        refine ⟨trivial, (fun h => by cases h), ?_⟩
        with_reducible refine (HQ.out _ B1).mono ?_
        rintro e u2 ⟨rfl, B2⟩
        with_reducible refine hK _ _ ?_
        clear hK K
        refine anyIn_take 10 23 (v := .agg #[.int .i64 p, .int .i64 x, .int .i64 q]) rfl rfl rfl (by kernel_rfl) (by kernel_rfl) (by kernel_rfl) (fun _ _ _ h => h) ⟨.inl ⟨by rfl, fun w => ?_⟩, fun w => by rfl⟩ ?_
        · first | (go_simp; done) | (go_simp; with_reducible rfl)
        simp only [Act.put, List.setIfInBounds_toArray, List.set_cons_zero, List.set_cons_succ]
        refine wpAnyIn_ready (rs := [11]) (by kernel_rfl) (by simp) (AllReadyIn.cons rfl (fun K hK => ?_) AllReadyIn.nil)
        obtain ⟨fn, tmps, assign, body, hy, hR⟩ := HYY.out _ B2
        go_simp
        refine ⟨(fun h => by cases h), ?_⟩
        with_reducible refine hR.mono ?_
        rintro e u9 (⟨rfl, hj⟩ | ⟨rfl, hj⟩)
        all_goals
          with_reducible refine hK _ _ ?_
          clear hK K hy hR
        · refine anyIn_take 12 25 (v := .bool false) rfl rfl rfl (by kernel_rfl) (by kernel_rfl) (by kernel_rfl) (fun _ _ _ h => h) ⟨.inl ⟨by rfl, fun w => ?_⟩, fun w => by rfl⟩ ?_
          · first | (go_simp; done) | (go_simp; with_reducible rfl)
          simp only [Act.put, List.setIfInBounds_toArray, List.set_cons_zero, List.set_cons_succ]
          refine wpAnyIn_done (by kernel_rfl) ?_ _
          gi_wp2
          go_roundw
          case rel => exact ⟨k + 1, by omega, by simp, hj.out.1, hj.out.2⟩
          case measure => simp [intOf]; omega
        · refine anyIn_take 12 25 (v := .bool true) rfl rfl rfl (by kernel_rfl) (by kernel_rfl) (by kernel_rfl) (fun _ _ _ h => h) ⟨.inl ⟨by rfl, fun w => ?_⟩, fun w => by rfl⟩ ?_
          · first | (go_simp; done) | (go_simp; with_reducible rfl)
          simp only [Act.put, List.setIfInBounds_toArray, List.set_cons_zero, List.set_cons_succ]
          refine wpAnyIn_done (by kernel_rfl) ?_ _
          gi_wp2
          refine bodyPost_ret (results_none rfl _ _ _) rfl ?_
          exact ⟨⟨_, rfl⟩, .inr ⟨_, ⟨k + 1, by have := HM.out; omega, rfl⟩, hj.out⟩⟩
    · obtain rfl : k = m := by omega
      have HJ := Lib.hid hJs
      gi_wp2
      go_end0
      exact ⟨⟨_, rfl⟩, .inl ⟨_, rfl, HJ.out⟩⟩

theorem spots1_in (n l Bs n₀ B : Nat) (ep : Int) (v0 : Value) (w0 : World) (L : List Int) (hlim : L.length ≤ 1000000) (hI : Ints w0 B v0 L) (hBn : B ≤ n₀) (J Jx : List SpotV → World → Prop)
    (hY : ∀ pre x W, J pre W → pre.length < L.length → YieldAt Fence.wide (n - 1) Try.prog l (encSp x) W fun e W' =>
      (e = .returned (.bool true) ∧ J (pre ++ [x]) W' ∧ KeepB n₀ Bs W W') ∨ (e = .returned (.bool false) ∧ Jx (pre ++ [x]) W'))
    (W : World) (hn₀ : n₀ ≤ W.heap.size) (hJa : AbidesFrom W.heap.size J) (h0W : Below B w0 W) (hbox : ChB W Bs ep v0) (h0 : J [] W) :
    CallsIn Fence.wide n Try.prog 81 #[.func (.yield l) #[] #[], .pointer (some ⟨Bs, 0, none⟩)] W fun e W' => (∃ v, e = .returned v) ∧
      ((∃ ys, ys = spotsOf L L.length ∧ J ys W') ∨ (∃ pre, (∃ k, k ≤ L.length ∧ pre = spotsOf L k) ∧ Jx pre W')) :=
  spots1_g (spotOf L) encSp n l Bs n₀ B ep v0 w0 L hlim hI hBn (fun _ _ => rfl) J Jx hY W hn₀ hJa h0W hbox h0
end Go.Proofs.Ytaaffceanjpmbaa
