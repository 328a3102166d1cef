/-
  THE PROGRAM's BOOK: what is gone over is collected, as many as may be; From, Back, Keys, Least. Of at most five thousand keys.
-/
import Derived.Test.YtkieifkbkmdgdaaBookI
namespace Go.Proofs.Ytkieifkbkmdgdaa
open Go.RowKit Go.Shelf

attribute [local go_sem] Oper.semAt_some

def valI (x : Int) : Value := .int .i64 x

theorem ownsRow_base {w : World} {base base' : Nat} {e : TypeId} {size : Nat} {v : Value} {n : Nat} {xs : List Value} (h : w.ownsRow base e size v n xs) (hb : base' ≤ base) : w.ownsRow base' e size v n xs := by
  refine ⟨h.1, ?_⟩
  rcases h.2 with h0 | ⟨g, cap, cur, hv, hg, hr⟩
  · exact .inl h0
  · exact .inr ⟨g, cap, cur, hv, Nat.le_trans hb hg, hr⟩

set_option maxRecDepth 100000 in
set_option maxHeartbeats 2000000 in
theorem first_in (F : Fence) (n : Nat) (h27 : F.fn 28) (gf : Nat) (lb : Array Value) (hgf : F.fn gf) (eg : ∀ args w, (callFunc gf args).run Try.prog w = .ok (.enter gf args) w) (hro : F.round = none) (hn : 3 ≤ n) (lim : Int) (xs : List Int) (hx : xs.length ≤ 10000) (w : World)
    (hseq : ∀ w0, Below w.heap.size w w0 → SeqStopsK F (n - 1) Try.prog gf lb encI (Below w.heap.size) (fun ys => ys = xs) (fun pre => pre <+: xs) xs.length w0) :
    CallsIn F n Try.prog 28 #[.int .i64 lim, .func (.func gf) #[] lb] w fun e W' => ∃ v, e = .returned v ∧ W'.ownsRow w.heap.size 3 1 v (xs.take lim.toNat).length (intCells (xs.take lim.toNat)) ∧ Below w.heap.size w W' := by
  have h1 : 1 ≤ n := by omega
  obtain ⟨i0, hi, hz0, hz1, hz2⟩ := info_parts info_int6
  have HQ := Lib.hid hseq
  clear hseq
  refine callsIn_of_wp_marks Try.func28 rfl h27 ?_ hro
  simp only [Try.ntmps28, List.size_toArray, List.length_cons, List.length_nil, Nat.reduceAdd, Nat.reduceSub, Array.replicate_succ, Array.replicate_zero, List.push_toArray, List.append_toArray, List.nil_append, List.cons_append]
  gi_wp2_with fail
  obtain ⟨w3, hw3⟩ : ∃ w3, w3 = (w.alloc (.cells #[.int .i64 lim] 3)).alloc (.cells #[.slice none 0 0] 26) := ⟨_, rfl⟩
  have hs3 : w3.heap.size = w.heap.size + 2 := by rw [hw3]; simp
  have hB3 : Below w.heap.size w w3 := by rw [hw3]; exact ((Below.refl _ w).alloc (Nat.le_refl _) _).alloc (by simp) _
  have hL3 : Boxed w3 w.heap.size 3 (.int .i64 lim) := by rw [hw3]; exact Boxed.alloc (Boxed.new w 3 _) _
  have hX3 : Boxed w3 (w.heap.size + 1) 26 (.slice none 0 0) := by
    rw [hw3]
    have := Boxed.new (w.alloc (.cells #[.int .i64 lim] 3)) 26 (.slice none 0 0)
    rwa [World.size_alloc] at this
  rw [← hw3]
  clear hw3
  refine wpIn_rangeFunc_ownF hro h1 (gf := gf) (lb := lb) rfl hgf eg
    (HQ.out w3 hB3)
    belowK_t (belowK_b (by omega)) (Below.refl _ _) (fun _ => rfl)
    (fun pre W => (∃ v, Boxed W (w.heap.size + 1) 26 v ∧ W.ownsRow (w.heap.size + 1) 3 1 v pre.length (pre.map valI) ∧ pre.length ≤ lim.toNat) ∧ Boxed W w.heap.size 3 (.int .i64 lim) ∧ Below w.heap.size w W)
    (fun c pre W => (c = .exit 0 ∧ pre.length = lim.toNat + 1) ∧ (∃ v, Boxed W (w.heap.size + 1) 26 v ∧ W.ownsRow (w.heap.size + 1) 3 1 v pre.dropLast.length (pre.dropLast.map valI) ∧ True) ∧ Below w.heap.size w W)
    (OwnFrom.and (Own.from (holdsRow_own (w.heap.size + 1) (w.heap.size + 1) 26 3 1 (fun pre : List Int => pre.length) (fun pre => pre.map valI) (fun pre _ => pre.length ≤ lim.toNat)) _) (OwnFrom.and (Own.from (boxed_own w.heap.size 3 _) _) (ownFrom_below (Nat.le_refl _) (by omega))))
    (fun c => OwnFrom.and (ownFrom_pure _ (fun pre : List Int => c = .exit 0 ∧ pre.length = lim.toNat + 1)) (OwnFrom.and (Own.from (holdsRow_own (w.heap.size + 1) (w.heap.size + 1) 26 3 1 (fun pre : List Int => pre.dropLast.length) (fun pre => pre.dropLast.map valI) (fun _ _ => True)) _) (ownFrom_below (Nat.le_refl _) (by omega))))
    ⟨⟨_, hX3, World.ownsRow_nil _ _ _ _, Nat.zero_le _⟩, hL3, hB3⟩
    (fun x => { tmps := #[.int .i64 lim, .func (.func gf) #[] lb, .pointer (some ⟨w.heap.size, 0, none⟩), undef, .slice none 0 0, .pointer (some ⟨w.heap.size + 1, 0, none⟩), .int .i64 x, .func (.func gf) #[] lb, .int .i64 x, undef, undef, undef, undef, undef, undef, undef, undef, undef], defers := [] }) ?assign ?body ?done ?stop
  case assign =>
    intro l x W K hK
    simp only [encI]
    gi_wp2
    exact hK
  case body =>
    rintro l pre x W ⟨⟨v, hv, hrow, hG⟩, hL, hB⟩ hlt
    obtain ⟨a, c, rfl⟩ := own_shape hrow
    have hc := hv.cell
    have hc2 := hL.cell
    have hlx : pre.length < 10000 := by omega
    have HL := Lib.hid hL
    have HG := Lib.hid hG
    have hsz := hB.size
    have hbsz : w.heap.size + 2 ≤ W.heap.size := by have := hv.lt; omega
    clear hlt hL hG
    by_cases hlen : lim ≤ (pre.length : Int)
    · gi_wp2
      refine ⟨KeepsOthers.refl _, ⟨rfl, ?_⟩, ⟨_, hv, ?_, trivial⟩, hB⟩
      · have := HG.out
        simp
        omega
      · simpa using hrow
    · have hlen' : (pre.length : Int) < lim := by omega
      have HL2 := Lib.hid hlen'
      clear hlen
      gi_wp2_with (gi_at_builtin; refine wpListIn_append_own _ rfl _ _ 26 rfl (w.heap.size + 1) 3 i0 (.int .i64 0) 1 8 Try.underlying26 hi hz0 hz1 hz2 rfl (by decide) _ _ _ rfl (hrow.alloc _) ⟨W.heap.size, 0, none⟩ 1 1 [.int .i64 x] rfl rfl (cell_one_new _ _ _) (by simp [Value.oneCell']) (by unfold maxLen; omega) (by omega) (by simp; omega) ?_; intro v' w1 hown' hgrow _; obtain ⟨g', cap', rfl⟩ := ownsRow_succ hown'; obtain ⟨hv1, hv2, hr2, hk2, hb2⟩ := hv.appended (by decide) hrow (by omega) (Nat.le_refl _) hown' hgrow; have hc1 := hv1.cell; have hf1 := hv1.frozen)
      refine ⟨hk2, hb2.mono (by omega), ⟨_, hv2, ?_, ?_⟩, ?_, hB.trans (hb2.mono (by omega))⟩
      · simpa [valI] using hr2
      · have := HL2.out
        simp
        omega
      · exact (hb2.block w.heap.size (by omega)).trans HL.out
  case done =>
    rintro D ys W hD rfl ⟨⟨v, hv, hrow, hG⟩, hL, hB⟩ hK
    have hc := hv.cell
    obtain ⟨a', c', rfl⟩ := own_shape hrow
    have ht : ys.take lim.toNat = ys := List.take_of_length_le hG
    have hrow' : W.ownsRow w.heap.size 3 1 (.slice a' ys.length c') (ys.take lim.toNat).length (intCells (ys.take lim.toNat)) := by
      rw [ht]; exact ownsRow_base hrow (by omega)
    have HR := Lib.hid hrow'
    clear hrow hrow' ht hG
    gi_wp2
    refine ⟨by simp, .inl ⟨_, _, rfl, run_takeDeferred hK, ?_⟩⟩
    exact ⟨_, results_tmp rfl _ _ _, _, rfl, ownsRow_putObj HR.out _ hK rfl, hB.trans (belowK_b (w := w) (Nat.le_refl _) W D _ _ (by omega) hK rfl rfl)⟩
  case stop =>
    rintro D c pre W hD hSp ⟨⟨rfl, hlen⟩, ⟨v, hv, hrow, _⟩, hB⟩ hK
    have hc := hv.cell
    obtain ⟨a', c', rfl⟩ := own_shape hrow
    have ht : xs.take lim.toNat = pre.dropLast := by
      obtain ⟨r, hr⟩ := hSp
      rw [← hr, List.dropLast_eq_take, List.take_append_of_le_length (by omega)]
      congr 1
      omega
    have hrow' : W.ownsRow w.heap.size 3 1 (.slice a' pre.dropLast.length c') (xs.take lim.toNat).length (intCells (xs.take lim.toNat)) := by
      rw [ht]; exact ownsRow_base hrow (by omega)
    obtain ⟨m, hm⟩ : ∃ m, m = pre.dropLast.length := ⟨_, rfl⟩
    rw [← hm] at hrow' hc
    have HR := Lib.hid hrow'
    clear hrow hrow' ht hlen hm hv
    gi_wp2
    refine ⟨by simp, .inl ⟨_, _, rfl, run_takeDeferred hK, ?_⟩⟩
    exact ⟨_, results_tmp rfl _ _ _, _, rfl, ownsRow_putObj HR.out _ hK rfl, hB.trans (belowK_b (w := w) (Nat.le_refl _) W D _ _ (by omega) hK rfl rfl)⟩

/-- Ints are told, in memory of one's own. -/
def TellsL (L : List Int) (w : World) (e : Ending) (w' : World) : Prop :=
  ∃ ao cap, e = .returned (.slice ao L.length cap) ∧ Ints w' w'.heap.size (.slice ao L.length cap) L ∧ Below w.heap.size w w'

set_option maxHeartbeats 2000000 in
theorem bfrom_any (B : Nat) (T : BT) (key lim : Int) (w : World) (H : Bk w B T) (hn : T.list.length ≤ 5000) :
    Calls Try.prog 15 #[.pointer (some ⟨B, 0, none⟩), .int .i64 key, .int .i64 lim] w (TellsL ((upL key T.list).take lim.toNat) w) := by
  obtain ⟨w2, hw2⟩ : ∃ w2, w2 = (w.alloc (.cells #[.pointer (some ⟨B, 0, none⟩)] 55)).alloc (.cells #[.int .i64 key] 3) := ⟨_, rfl⟩
  have K1 : Hid (Calls Try.prog 29 #[.pointer (some ⟨B, 0, none⟩), .int .i64 key] w fun e w' => e = .returned (.func (.func 34) #[] #[.pointer (some ⟨w.heap.size, 0, none⟩), .pointer (some ⟨w.heap.size + 1, 0, none⟩)]) ∧ w' = w2) := by
    have h := callsIn_wide.1 (from_in Fence.wide 3 trivial rfl (some ⟨B, 0, none⟩) key w)
    rwa [← hw2] at h
  have hs2 : w2.heap.size = w.heap.size + 2 := by rw [hw2]; simp
  have hB2 : Below w.heap.size w w2 := by rw [hw2]; exact ((Below.refl _ w).alloc (Nat.le_refl _) _).alloc (by simp) _
  have hBt : w2.cell? ⟨w.heap.size, 0, none⟩ = some (.pointer (some ⟨B, 0, none⟩)) := by rw [hw2]; exact (Boxed.alloc (Boxed.new w 55 (.pointer (some ⟨B, 0, none⟩))) _).cell
  have hBk : w2.cell? ⟨w.heap.size + 1, 0, none⟩ = some (.int .i64 key) := by
    rw [hw2]
    have := (Boxed.new (w.alloc (.cells #[.pointer (some ⟨B, 0, none⟩)] 55)) 3 (.int .i64 key)).cell
    rwa [World.size_alloc] at this
  have hup : T.up key = upL key T.list := T.up_eq key H.2.2.1
  have K2 : Hid (Calls Try.prog 28 #[.int .i64 lim, .func (.func 34) #[] #[.pointer (some ⟨w.heap.size, 0, none⟩), .pointer (some ⟨w.heap.size + 1, 0, none⟩)]] w2 (TellsL ((upL key T.list).take lim.toNat) w)) := by
    refine (callsIn_wide.1 (first_in Fence.wide 3 trivial 34 #[.pointer (some ⟨w.heap.size, 0, none⟩), .pointer (some ⟨w.heap.size + 1, 0, none⟩)] trivial (enters_of Try.func34 (by kernel_rfl) rfl) rfl (Nat.le_refl _) lim (upL key T.list) (by have := upL_len key T.list; omega) w2 ?_)).mono ?_
    · intro w0 hb0
      have hz := hb0.size
      rw [← hup]
      exact from_stops Fence.wide rfl 2 trivial trivial rfl key w.heap.size (w.heap.size + 1) B w2.heap.size T w0 ((hb0.cell (p := ⟨w.heap.size, 0, none⟩) (show w.heap.size < w2.heap.size by omega)).trans hBt) ((hb0.cell (p := ⟨w.heap.size + 1, 0, none⟩) (show w.heap.size + 1 < w2.heap.size by omega)).trans hBk) ⟨by omega, by omega⟩ hz
        ((hb0.cell (p := ⟨B, 0, none⟩) (show B < w2.heap.size by have := H.1.lt; omega)).trans ((hB2.cell (p := ⟨B, 0, none⟩) H.1.lt).trans H.1.cells.1)) (by have := H.1.lt; omega)
        ((H.2.1.below hB2 fun x hx => H.2.1.lt x hx).below hb0 fun x hx => by have := H.2.1.lt x hx; omega) (fun x hx => by have := H.2.1.lt x hx; omega)
    · rintro e w' ⟨v, he, hr, hb⟩
      obtain ⟨a, c, rfl⟩ := own_shape hr
      exact ⟨a, c, he, ints_own hr (Nat.le_refl _), hB2.trans (hb.mono (by omega))⟩
  clear hw2 hs2 hB2 hBt hBk hup H hn
  go_enter Try.func15, Try.ntmps15
  go_wp2_with (first
    | (go_at_call 29; refine K1.out.mono ?_; rintro e w' ⟨rfl, rfl⟩)
    | (go_at_call 28; refine K2.out.mono ?_; rintro e w' ⟨a, c, rfl, hi, hb⟩; have KI1 := Lib.hid hi; have HB := Lib.hid hb; clear hi hb))
  go_returns
  exact ⟨a, c, (by first | rfl | (rw [List.length_take]; rfl)), KI1.out, HB.out⟩
set_option maxHeartbeats 400000 in
theorem bfrom_nil (key lim : Int) (w : World) : Calls Try.prog 15 #[.pointer none, .int .i64 key, .int .i64 lim] w fun e w' => e = .returned (.slice none 0 0) ∧ w = w' := by
  go_enter Try.func15, Try.ntmps15
  go_wp2
  go_returns
  exact ⟨rfl, rfl⟩

set_option maxHeartbeats 2000000 in
theorem bback_any (B : Nat) (T : BT) (key lim : Int) (w : World) (H : Bk w B T) (hn : T.list.length ≤ 5000) :
    Calls Try.prog 17 #[.pointer (some ⟨B, 0, none⟩), .int .i64 key, .int .i64 lim] w (TellsL ((downL key T.list).take lim.toNat) w) := by
  obtain ⟨w2, hw2⟩ : ∃ w2, w2 = (w.alloc (.cells #[.pointer (some ⟨B, 0, none⟩)] 55)).alloc (.cells #[.int .i64 key] 3) := ⟨_, rfl⟩
  have K1 : Hid (Calls Try.prog 30 #[.pointer (some ⟨B, 0, none⟩), .int .i64 key] w fun e w' => e = .returned (.func (.func 36) #[] #[.pointer (some ⟨w.heap.size, 0, none⟩), .pointer (some ⟨w.heap.size + 1, 0, none⟩)]) ∧ w' = w2) := by
    have h := callsIn_wide.1 (back_in Fence.wide 3 trivial rfl (some ⟨B, 0, none⟩) key w)
    rwa [← hw2] at h
  have hs2 : w2.heap.size = w.heap.size + 2 := by rw [hw2]; simp
  have hB2 : Below w.heap.size w w2 := by rw [hw2]; exact ((Below.refl _ w).alloc (Nat.le_refl _) _).alloc (by simp) _
  have hBt : w2.cell? ⟨w.heap.size, 0, none⟩ = some (.pointer (some ⟨B, 0, none⟩)) := by rw [hw2]; exact (Boxed.alloc (Boxed.new w 55 (.pointer (some ⟨B, 0, none⟩))) _).cell
  have hBk : w2.cell? ⟨w.heap.size + 1, 0, none⟩ = some (.int .i64 key) := by
    rw [hw2]
    have := (Boxed.new (w.alloc (.cells #[.pointer (some ⟨B, 0, none⟩)] 55)) 3 (.int .i64 key)).cell
    rwa [World.size_alloc] at this
  have hup : T.down key = downL key T.list := T.down_eq key H.2.2.1
  have K2 : Hid (Calls Try.prog 28 #[.int .i64 lim, .func (.func 36) #[] #[.pointer (some ⟨w.heap.size, 0, none⟩), .pointer (some ⟨w.heap.size + 1, 0, none⟩)]] w2 (TellsL ((downL key T.list).take lim.toNat) w)) := by
    refine (callsIn_wide.1 (first_in Fence.wide 3 trivial 36 #[.pointer (some ⟨w.heap.size, 0, none⟩), .pointer (some ⟨w.heap.size + 1, 0, none⟩)] trivial (enters_of Try.func36 (by kernel_rfl) rfl) rfl (Nat.le_refl _) lim (downL key T.list) (by have := downL_len key T.list; omega) w2 ?_)).mono ?_
    · intro w0 hb0
      have hz := hb0.size
      rw [← hup]
      exact back_stops Fence.wide rfl 2 trivial trivial rfl key w.heap.size (w.heap.size + 1) B w2.heap.size T w0 ((hb0.cell (p := ⟨w.heap.size, 0, none⟩) (show w.heap.size < w2.heap.size by omega)).trans hBt) ((hb0.cell (p := ⟨w.heap.size + 1, 0, none⟩) (show w.heap.size + 1 < w2.heap.size by omega)).trans hBk) ⟨by omega, by omega⟩ hz
        ((hb0.cell (p := ⟨B, 0, none⟩) (show B < w2.heap.size by have := H.1.lt; omega)).trans ((hB2.cell (p := ⟨B, 0, none⟩) H.1.lt).trans H.1.cells.1)) (by have := H.1.lt; omega)
        ((H.2.1.below hB2 fun x hx => H.2.1.lt x hx).below hb0 fun x hx => by have := H.2.1.lt x hx; omega) (fun x hx => by have := H.2.1.lt x hx; omega)
    · rintro e w' ⟨v, he, hr, hb⟩
      obtain ⟨a, c, rfl⟩ := own_shape hr
      exact ⟨a, c, he, ints_own hr (Nat.le_refl _), hB2.trans (hb.mono (by omega))⟩
  clear hw2 hs2 hB2 hBt hBk hup H hn
  go_enter Try.func17, Try.ntmps17
  go_wp2_with (first
    | (go_at_call 30; refine K1.out.mono ?_; rintro e w' ⟨rfl, rfl⟩)
    | (go_at_call 28; refine K2.out.mono ?_; rintro e w' ⟨a, c, rfl, hi, hb⟩; have KI1 := Lib.hid hi; have HB := Lib.hid hb; clear hi hb))
  go_returns
  exact ⟨a, c, (by first | rfl | (rw [List.length_take]; rfl)), KI1.out, HB.out⟩
set_option maxHeartbeats 400000 in
theorem bback_nil (key lim : Int) (w : World) : Calls Try.prog 17 #[.pointer none, .int .i64 key, .int .i64 lim] w fun e w' => e = .returned (.slice none 0 0) ∧ w = w' := by
  go_enter Try.func17, Try.ntmps17
  go_wp2
  go_returns
  exact ⟨rfl, rfl⟩

/-- All keys. -/
def keysL (L : List (Int × Int)) : List Int := L.map (·.1)
theorem upL_all {key : Int} {L : List (Int × Int)} (h : ∀ x ∈ L, key ≤ x.1) : upL key L = keysL L := by
  unfold upL keysL
  rw [filter_all fun x hx => by simpa using h x hx]
set_option maxHeartbeats 1000000 in
theorem bkeys_any (B : Nat) (T : BT) (w : World) (H : Bk w B T) (hn : T.list.length ≤ 5000) (hlow : ∀ x ∈ T.list, -9223372036854775808 ≤ x.1) :
    Calls Try.prog 21 #[.pointer (some ⟨B, 0, none⟩)] w (TellsL (keysL T.list) w) := by
  have K1 := Lib.hid (blen_any B T w H)
  have K2 : Hid (Calls Try.prog 15 #[.pointer (some ⟨B, 0, none⟩), .int .i64 (-9223372036854775808), .int .i64 T.list.length] w (TellsL (keysL T.list) w)) := by
    have h := bfrom_any B T (-9223372036854775808) T.list.length w H hn
    rw [upL_all hlow, List.take_of_length_le (by simp [keysL])] at h
    exact h
  obtain ⟨m, hm⟩ : ∃ m, m = T.list.length := ⟨_, rfl⟩
  rw [← hm] at K1 K2
  clear hm H hn hlow
  go_enter Try.func21, Try.ntmps21
  go_wp2_with (first
    | (go_at_call 20; refine K1.out.mono ?_; rintro e w' ⟨rfl, rfl⟩)
    | (go_at_call 15; refine K2.out.mono ?_; rintro e w' ⟨a, c, rfl, hi, hb⟩; have KI1 := Lib.hid hi; have HB := Lib.hid hb; clear hi hb))
  go_returns
  exact ⟨a, c, (by first | rfl | (rw [List.length_take]; rfl)), KI1.out, HB.out⟩
set_option maxHeartbeats 1000000 in
theorem bkeys_nil (w : World) : Calls Try.prog 21 #[.pointer none] w fun e w' => e = .returned (.slice none 0 0) ∧ w = w' := by
  have K1 := Lib.hid (blen_nil w)
  have K2 := Lib.hid (bfrom_nil (-9223372036854775808) 0 w)
  go_enter Try.func21, Try.ntmps21
  go_wp2_with (first
    | (go_at_call 20; refine K1.out.mono ?_; rintro e w' ⟨rfl, rfl⟩)
    | (go_at_call 15; refine K2.out.mono ?_; rintro e w' ⟨rfl, rfl⟩))
  go_returns
  exact ⟨rfl, rfl⟩
set_option maxHeartbeats 1000000 in
theorem bleast_nil (w : World) : Calls Try.prog 19 #[.pointer none] w fun e w' => e = .returned (.tuple #[.int .i64 0, .bool false]) ∧ w = w' := by
  have K2 := Lib.hid (bfrom_nil (-9223372036854775808) 1 w)
  go_enter Try.func19, Try.ntmps19
  go_wp2_with (first
    | (go_at_call 15; refine K2.out.mono ?_; rintro e w' ⟨rfl, rfl⟩))
  go_loopw [9] (fun vi wr => vi = .int .i64 0 ∧ wr = w) (fun _ _ => 0)
  case atStart => exact ⟨rfl, rfl⟩
  case round =>
    obtain ⟨rfl, rfl⟩ := hrel
    go_wp2
    go_returns
    exact ⟨rfl, rfl⟩
set_option maxHeartbeats 1000000 in
theorem bleast_any (B : Nat) (T : BT) (w : World) (H : Bk w B T) (hn : T.list.length ≤ 5000) (hlow : ∀ x ∈ T.list, -9223372036854775808 ≤ x.1) :
    Calls Try.prog 19 #[.pointer (some ⟨B, 0, none⟩)] w fun e w' => e = .returned (.tuple #[.int .i64 ((keysL T.list).headD 0), .bool (!(keysL T.list).isEmpty)]) ∧ Below w.heap.size w w' := by
  have K2 : Hid (Calls Try.prog 15 #[.pointer (some ⟨B, 0, none⟩), .int .i64 (-9223372036854775808), .int .i64 1] w (TellsL ((keysL T.list).take 1) w)) := by
    have h := bfrom_any B T (-9223372036854775808) 1 w H hn
    rw [upL_all hlow] at h
    exact h
  generalize keysL T.list = L at K2 ⊢
  clear H hn hlow
  cases L with
  | nil =>
    go_enter Try.func19, Try.ntmps19
    go_wp2_with (go_at_call 15; refine K2.out.mono ?_; rintro e w1 ⟨a, c, rfl, hi, hb⟩; have KI1 := Lib.hid hi; have HB := Lib.hid hb; clear hi hb)
    go_loopw [9] (fun vi wr => vi = .int .i64 0 ∧ wr = w1) (fun _ _ => 0)
    case atStart => exact ⟨rfl, rfl⟩
    case round =>
      obtain ⟨rfl, rfl⟩ := hrel
      go_wp2
      go_returns
      exact ⟨rfl, HB.out⟩
  | cons k L =>
    have K3 : Hid (Calls Try.prog 15 #[.pointer (some ⟨B, 0, none⟩), .int .i64 (-9223372036854775808), .int .i64 1] w fun e w' => ∃ b off c, e = .returned (.slice (some ⟨b, off, none⟩) 1 c) ∧ w'.cell? ⟨b, off, none⟩ = some (.int .i64 k) ∧ Hid (Below w.heap.size w w')) := by
      refine K2.out.mono fun e w' ⟨a, c, he, hi, hb⟩ => ?_
      obtain ⟨ao, cap, hv, _, _, _, h4⟩ := hi
      obtain ⟨b, off, rfl, _, hc⟩ := h4 (by simp)
      cases hv
      refine ⟨b, off, _, he, ?_, hb⟩
      have := hc 0 (by simp)
      simpa using this
    clear K2
    go_enter Try.func19, Try.ntmps19
    go_wp2_with (go_at_call 15; refine K3.out.mono ?_; rintro e w1 ⟨b, off, c, rfl, hc, HB⟩)
    go_loopw [9] (fun vi wr => vi = .int .i64 0 ∧ wr = w1) (fun _ _ => 0)
    case atStart => exact ⟨rfl, rfl⟩
    case round =>
      obtain ⟨rfl, rfl⟩ := hrel
      go_wp2
      go_returns
      exact ⟨rfl, HB.out⟩
end Go.Proofs.Ytkieifkbkmdgdaa
