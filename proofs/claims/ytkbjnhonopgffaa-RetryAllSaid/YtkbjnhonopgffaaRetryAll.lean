/-
  PROVED: casebooklaw20.RetryAll answers true and leaves its arguments as they were, for any numbers, any chain, any bool: the row's own reading and nothing else is assumed.
-/
import Derived.Test.YtkbjnhonopgffaaReT
import Derived.Test.YtkbjnhonopgffaaItemArgs
namespace Go.Proofs.Ytkbjnhonopgffaa.RetryAll
open Go.ChangeShapes Go.WideShapes Go.ChangeAt Go.RowKit

/-- A row of bools. -/
def rowB (k : Nat) (f : Nat → Bool) : List Value := (List.range k).map fun j => .bool (f j)
theorem rowB_get {k : Nat} (f : Nat → Bool) {j : Nat} (h : j < k) : (rowB k f)[j]? = some (.bool (f j)) := by simp [rowB, h]
def upB (f : Nat → Bool) (j : Nat) : Nat → Bool := fun x => if x = j then true else f x
theorem rowB_set (k : Nat) (f : Nat → Bool) (j : Nat) : (rowB k f).set j (.bool true) = rowB k (upB f j) := by
  apply List.ext_getElem
  · simp [rowB]
  · intro i h1 h2
    by_cases e : j = i
    · subst e
      simp [rowB, upB]
    · have e' : ¬ i = j := fun h => e h.symm
      simp [rowB, upB, e, e']
/-- The chain's box, the row of who was asked. -/
structure RA (n : Nat) (w : World) (q : Nat) (ep : Int) (v : Value) (k : Nat) (f : Nat → Bool) (u : World) : Prop where
  box : u.heap[n]? = some (.cells #[.int .i64 ep, v] 66 (0, 0))
  row : u.heap[q]? = some (.cells (rowB k f).toArray 4 (0, 0))
  bel : Below n w u
  low : n ≤ w.heap.size
  ne : n < q
section
variable {n q k : Nat} {w u u' : World} {ep : Int} {v : Value} {f : Nat → Bool}
theorem RA.on (h : RA n w q ep v k f u) (hb : Below u.heap.size u u') : RA n w q ep v k f u' := ⟨(hb.block _ (lt_of_block h.box)).trans h.box, (hb.block _ (lt_of_block h.row)).trans h.row, h.bel.trans (hb.mono (Nat.le_trans h.low h.bel.size)), h.low, h.ne⟩
theorem RA.cells (h : RA n w q ep v k f u) : u.cell? ⟨n, 0, none⟩ = some (.int .i64 ep) ∧ u.cell? ⟨n, 1, none⟩ = some v := by
  have hr := h.box
  exact ⟨by simp [World.cell?, hr], by simp [World.cell?, hr]⟩
theorem RA.cell (h : RA n w q ep v k f u) {j : Nat} (hj : j < k) : u.cell? ⟨q, j, none⟩ = some (.bool (f j)) ∧ u.frozen? ⟨q, j, none⟩ = false := by
  have hr := h.row
  exact ⟨by rw [cell_of_row _ _ _ _ _ _ hr, List.getElem?_toArray, rowB_get f hj], by simp [World.frozen?, hr]⟩
theorem RA.set (h : RA n w q ep v k f u) (j : Nat) : RA n w q ep v k (upB f j) (u.setCell ⟨q, j, none⟩ (.bool true)) := by
  have hn := h.ne
  refine ⟨(Below.heap_setCell _ _ _ _ (by show n ≠ q; omega)).trans h.box, ?_, h.bel.trans ⟨rfl, rfl, rfl, by simp [World.setCell], fun x hx => Below.heap_setCell _ _ _ _ (by show x ≠ q; omega)⟩, h.low, h.ne⟩
  rw [heap_setCell_same _ _ _ _ _ _ h.row, List.setIfInBounds_toArray, rowB_set]
end
/-- Who was asked in the first i of the tries. -/
def asked (t k i : Nat) : Nat → Bool := fun x => decide (∃ j, j < i ∧ (t + j) % k = x)
theorem asked_zero (t k : Nat) : asked t k 0 = fun _ => false := by funext x; simp [asked]
theorem asked_next (t k i : Nat) : upB (asked t k i) ((t + i) % k) = asked t k (i + 1) := by
  funext x
  unfold upB asked
  by_cases e : x = (t + i) % k
  · rw [if_pos e]
    exact (decide_eq_true ⟨i, by omega, e.symm⟩).symm
  · rw [if_neg e]
    exact decide_eq_decide.2 ⟨fun ⟨j, hj, h⟩ => ⟨j, by omega, h⟩, fun ⟨j, hj, h⟩ => ⟨j, by
      rcases (show j < i ∨ j = i by omega) with h1 | h1
      · exact h1
      · subst h1; exact absurd h.symm e, h⟩⟩
theorem asked_not {t k i : Nat} (hk : k ≤ 5) (hi : i < k) : asked t k i ((t + i) % k) = false := by
  refine decide_eq_false fun ⟨j, hj, h⟩ => ?_
  rcases (show k = 1 ∨ k = 2 ∨ k = 3 ∨ k = 4 ∨ k = 5 by omega) with rfl | rfl | rfl | rfl | rfl <;> omega
theorem made_bools {k : Nat} (h1 : 1 ≤ k) (h5 : k ≤ 5) : madeCells #[.bool false] k = (rowB k fun _ => false).toArray := by
  apply Array.ext'
  rw [toList_madeCells_one]
  rcases (show k = 1 ∨ k = 2 ∨ k = 3 ∨ k = 4 ∨ k = 5 by omega) with rfl | rfl | rfl | rfl | rfl <;> rfl
theorem left_to (z : Int) (q : Nat) (hq : 0 < q) (hq2 : q ≤ 100000) : ∃ t : Nat, t < q ∧ wrap64 ((IntKind.u64.wrap z).tmod (q : Int)) = (t : Int) := by
  have h0 : 0 ≤ IntKind.u64.wrap z := by rw [IntKind.wrap_u64]; omega
  have h1 := Int.tmod_nonneg (q : Int) h0
  have h2 := Int.tmod_lt_of_pos (IntKind.u64.wrap z) (show (0 : Int) < (q : Int) by omega)
  refine ⟨((IntKind.u64.wrap z).tmod (q : Int)).toNat, by omega, ?_⟩
  rw [IntWalk.wrap64_in _ (by omega)]
  omega

set_option maxRecDepth 100000 in
set_option maxHeartbeats 2000000 in
theorem walk (x y ep : Int) (v : Value) (l : List Int) (wr_ : Bool) (w : World) (_hx : (Lit.int .i64 x).wf = true) (_hy : (Lit.int .i64 y).wf = true) (hI : Ints w w.heap.size v l) :
    Calls Try.prog 9 #[.int .i64 x, .int .i64 y, .agg #[.int .i64 ep, v], .bool wr_] w fun e w' => e = .returned (.bool true) ∧ Below w.heap.size w w' := by
  have HT := Lib.hid (fun u => told20_any u)
  obtain ⟨a, c, rfl, _⟩ := id hI
  obtain ⟨len, hl⟩ : ∃ len, len = l.length := ⟨_, rfl⟩
  rw [← hl]
  obtain ⟨k0, hk0, ek⟩ := left_to x 5 (by decide) (by decide)
  obtain ⟨t0, ht0, et⟩ := left_to y 1000 (by decide) (by decide)
  obtain ⟨k, hk⟩ : ∃ k, k = k0 + 1 := ⟨_, rfl⟩
  obtain ⟨t, ht⟩ : ∃ t, t = t0 + 3 := ⟨_, rfl⟩
  have EK : Hid (wrap64 (1 + wrap64 ((IntKind.u64.wrap x).tmod 5)) = (k : Int)) := by
    show _ = _
    have ek' : wrap64 ((IntKind.u64.wrap x).tmod 5) = (k0 : Int) := ek
    rw [ek', hk]
    exact (IntWalk.wrap64_in _ (by omega)).trans (by omega)
  have ET : Hid (wrap64 (3 + wrap64 ((IntKind.u64.wrap y).tmod 1000)) = (t : Int)) := by
    show _ = _
    have et' : wrap64 ((IntKind.u64.wrap y).tmod 1000) = (t0 : Int) := et
    rw [et', ht]
    exact (IntWalk.wrap64_in _ (by omega)).trans (by omega)
  have hk1 : 1 ≤ k := by omega
  have hk5 : k ≤ 5 := by omega
  have ht3 : 3 ≤ t := by omega
  have htt : t ≤ 1002 := by omega
  have HTG : Hid (∀ u q f (i : Nat), i < k → RA w.heap.size w q ep (.slice a len c) k f u → Calls Try.prog 34 #[.agg #[.int .i64 ep, .slice a len c], .int .i64 k, .int .i64 ((t : Int) + (i : Int)), .bool wr_] u fun e w' => e = .returned (.int .i64 (((t + i) % k : Nat) : Int)) ∧ Hid (RA w.heap.size w q ep (.slice a len c) k f w')) :=
    fun u q f i hi hu => by
      have h := retarget_far ep a len c k (t + i) wr_ u hk1 (by omega) (by omega) (by omega)
      rw [show ((t + i : Nat) : Int) = (t : Int) + (i : Int) by omega] at h
      exact h.mono fun _ _ ⟨he, hb⟩ => ⟨he, hu.on hb⟩
  have HMB := Lib.hid (made_bools hk1 hk5)
  have hmk := fun u : World => run_make_row' (P := Try.prog) 67 4 (.bool false) 1 Try.underlying67 (by kernel_rfl) rfl .i64 .i64 k (by omega) (by omega) u
  clear ek et _hx _hy hk hk0 ht ht0 hI hl
  go_enter Try.func9, Try.ntmps9
  by_cases h8 : 8 < len
  · have h8' : (8 : Int) < (len : Int) := by omega
    go_wp2_with fail
    refine (HT.out _).mono ?_
    rintro e w1 ⟨rfl, B1⟩
    have HB := Lib.hid (((Below.refl _ w).alloc (Nat.le_refl _) (.cells #[.int .i64 ep, .slice a len c] 66)).trans (B1.mono (by simp)))
    clear B1
    go_wp2
    go_returns
    exact ⟨rfl, HB.out⟩
  have h8' : ¬ (8 : Int) < (len : Int) := by omega
  clear h8
  go_wp2_with fail
  rw [EK.out, ET.out, hmk]
  clear hmk EK ET
  have H0 : RA w.heap.size w (w.heap.size + 1) ep (.slice a len c) k (fun _ => false) ((w.alloc (.cells #[.int .i64 ep, .slice a len c] 66)).alloc (.cells (madeCells #[.bool false] k) 4)) := by
    have h1 := heap_alloc_new w (.cells #[.int .i64 ep, .slice a len c] 66)
    have h2 := heap_alloc_new (w.alloc (.cells #[.int .i64 ep, .slice a len c] 66)) (.cells (madeCells #[.bool false] k) 4)
    rw [World.size_alloc, HMB.out] at h2
    rw [HMB.out]
    exact ⟨(((Below.refl _ _).alloc (Nat.le_refl _) _).block _ (by simp)).trans h1, h2, ((Below.refl _ w).alloc (Nat.le_refl _) _).alloc (by simp) _, Nat.le_refl _, by omega⟩
  rw [← asked_zero t k] at H0
  rw [World.size_alloc]
  obtain ⟨w1, hw1⟩ : ∃ w1, w1 = (w.alloc (.cells #[.int .i64 ep, .slice a len c] 66)).alloc (.cells (madeCells #[.bool false] k) 4) := ⟨_, rfl⟩
  rw [← hw1] at H0 ⊢
  obtain ⟨q, hq⟩ : ∃ q, q = w.heap.size + 1 := ⟨_, rfl⟩
  rw [← hq] at H0 ⊢
  have HH := Lib.hid H0
  clear hw1 hq H0 HMB
  go_wp2
  go_loopw [12] (fun s12 wr => ∃ i : Nat, i ≤ k ∧ s12 = .int .i64 i ∧ Hid (RA w.heap.size w q ep (.slice a len c) k (asked t k i) wr)) (fun s12 _ => k - (intOf s12).toNat)
  case atStart => exact ⟨0, Nat.zero_le _, rfl, HH.out⟩
  case round =>
    clear HH
    obtain ⟨i, hi, rfl, HS⟩ := hrel
    by_cases hlt : i < k
    · have i1 : (i : Int) < (k : Int) := by omega
      obtain ⟨c0, c1⟩ := HS.out.cells
      obtain ⟨X, hX⟩ : ∃ X, X = (t + i) % k := ⟨_, rfl⟩
      have hXk : X < k := by rw [hX]; exact Nat.mod_lt _ (by omega)
      have HG : Hid (∀ u, RA w.heap.size w q ep (.slice a len c) k (asked t k i) u → Calls Try.prog 34 #[.agg #[.int .i64 ep, .slice a len c], .int .i64 k, .int .i64 ((t : Int) + (i : Int)), .bool wr_] u fun e w' => e = .returned (.int .i64 (X : Int)) ∧ Hid (RA w.heap.size w q ep (.slice a len c) k (asked t k i) w')) := by rw [hX]; exact fun u hu => HTG.out u q _ i hlt hu
      have HZ : Hid (asked t k i X = false) := by rw [hX]; exact asked_not hk5 hlt
      have HY : Hid (upB (asked t k i) X = asked t k (i + 1)) := by rw [hX]; exact asked_next t k i
      have x0 : (0 : Int) ≤ (X : Int) := by omega
      have x1 : (X : Int) < (k : Int) := by omega
      clear hX HTG
      go_wp2_with fail
      refine (HG.out _ HS.out).mono ?_
      rintro e w3 ⟨rfl, S3⟩
      obtain ⟨d0, d1⟩ := S3.out.cell hXk
      rw [HZ.out] at d0
      have S4 := Lib.hid (S3.out.set X)
      rw [HY.out] at S4
      clear HG HS c0 c1 S3 HZ HY
      go_wp2
      go_roundw
      case rel => exact ⟨i + 1, by omega, by go_num, S4.out⟩
      case measure => simp [intOf]; omega
    · have i1 : ¬ (i : Int) < (k : Int) := by omega
      obtain ⟨M, hM⟩ : ∃ M, waitV (t : Int) = M := ⟨_, rfl⟩
      have HWT : Hid (∀ u, Calls Try.prog 35 #[.int .i64 t] u fun e w' => e = .returned (.int .i64 M) ∧ Below u.heap.size u w') := fun u => rewait_r t u M hM
      obtain ⟨M2, hM2⟩ : ∃ M2, waitV ((t : Int) + 1) = M2 := ⟨_, rfl⟩
      have HWN : Hid (∀ u, Calls Try.prog 35 #[.int .i64 ((t : Int) + 1)] u fun e w' => e = .returned (.int .i64 M2) ∧ Below u.heap.size u w') := fun u => rewait_r _ u M2 hM2
      have hMM : (t = 3 ∧ M = 24 ∨ 4 ≤ t ∧ M = 32) ∧ M2 = 32 := by
        rw [← hM, ← hM2]
        unfold waitV nearV
        repeat' split
        all_goals omega
      have HD1 : Hid (∀ u, Calls Try.prog 36 #[.int .i64 ((t : Int) + M), .int .i64 t, .int .i64 t] u fun e w' => e = .returned (.bool true) ∧ Below u.heap.size u w') := fun u => redue_r _ _ _ u (by omega) (by omega) (by omega) true (show _ = _ from decide_eq_true (by rw [hM]; omega))
      have HD2 : Hid (∀ u, Calls Try.prog 36 #[.int .i64 ((t : Int) + M - 1), .int .i64 t, .int .i64 t] u fun e w' => e = .returned (.bool false) ∧ Below u.heap.size u w') := fun u => redue_r _ _ _ u (by omega) (by omega) (by omega) false (show _ = _ from decide_eq_false (by rw [hM]; omega))
      obtain ⟨hm, rfl⟩ := hMM
      have HB := Lib.hid HS.out.bel
      have t3 : (3 : Int) ≤ (t : Int) := by omega
      have t9 : (t : Int) ≤ 1002 := by omega
      clear hM hM2 HS HTG hlt
      rcases hm with ⟨rfl, rfl⟩ | ⟨h4, rfl⟩
      all_goals
        go_wp2_with fail
        refine (HWT.out _).mono ?_
        rintro e w3 ⟨rfl, B3⟩
        have HB3 := Lib.hid (HB.out.trans (B3.mono HB.out.size))
        clear B3 HB HWT
        go_wp2_with fail
        refine (HT.out _).mono ?_
        rintro e w4 ⟨rfl, B4⟩
        have HB4 := Lib.hid (HB3.out.trans (B4.mono HB3.out.size))
        clear B4 HB3 HT
        go_wp2_with fail
        refine (HWN.out _).mono ?_
        rintro e w5 ⟨rfl, B5⟩
        have HB5 := Lib.hid (HB4.out.trans (B5.mono HB4.out.size))
        clear B5 HB4 HWN
        go_wp2_with fail
        refine (HD1.out _).mono ?_
        rintro e w6 ⟨rfl, B6⟩
        have HB6 := Lib.hid (HB5.out.trans (B6.mono HB5.out.size))
        clear B6 HB5 HD1
        go_wp2_with fail
        refine (HD2.out _).mono ?_
        rintro e w7 ⟨rfl, B7⟩
        have HB7 := Lib.hid (HB6.out.trans (B7.mono HB6.out.size))
        clear B7 HB6 HD2
        go_wp2
        go_returns
        exact ⟨by first | rfl | trivial | (simp; omega), HB7.out⟩

set_option maxRecDepth 100000 in
theorem lifted (os : Os) (started : os.Started) (H : Type) (enc : TypeId × Value → H) :
    ReturnsInHanded {} Try.checked os 9 .any (Rows.retryAllSpec.pre6 enc Try.prog Try.f9 Rows.retryAllRow.domain false) (Rows.retryAllSpec.post enc Try.prog Try.f9 false true false false) := by
  refine returnsInHanded_of_change (C := Try.checked) own started (by kernel_rfl) Try.func9
    (ChangeSpec.witness6 (enc := enc) (C := Try.checked) false ⟨#[], #[.int .i64 0, .int .i64 0, .agg #[.int .i64 0, .slice none 0 0], .bool false], []⟩ 8 (by kernel_rfl) (by kernel_rfl) (by kernel_rfl) (by kernel_rfl)) ?_
  intro W base args ds gs before hval0 hW hcnd _
  have hval : ∀ (j : Nat) t v, Try.f9.params[j]? = some t → args[j]? = some v → Value.okWide Try.prog W .any base t v := hval0
  have hW' := hW
  obtain ⟨p, q, hA0, hV, rfl, hfz, hnd⟩ := hW
  have hA : DataW.TrodAll enc Try.prog W 0 (fun _ => true) true Try.f9.params.toList args.toList ds p := hA0
  rw [Try.params9] at hA hval
  obtain ⟨v0, vs0, d0, ds0, p0, q0, hargs, rfl, rfl, h0, r0⟩ := trodAll_cons hA
  obtain ⟨v1, vs1, d1, ds1, p1, q1, rfl, rfl, rfl, h1, r1⟩ := trodAll_cons r0
  obtain ⟨v2, vs2, d2, ds2, p2, q2, rfl, rfl, rfl, h2, r2⟩ := trodAll_cons r1
  obtain ⟨v3, vs3, d3, ds3, p3, q3, rfl, rfl, rfl, h3, r3⟩ := trodAll_cons r2
  obtain ⟨rfl, rfl, rfl⟩ := trodAll_nil r3
  obtain rfl : args = #[v0, v1, v2, v3] := by cases args; simp_all
  obtain ⟨rfl, rfl⟩ := trodVars_none hV
  obtain ⟨a0, rfl, rfl, rfl, w0⟩ := open_int Try.underlying3 (hval 0 3 v0 rfl rfl) h0
  obtain ⟨a1, rfl, rfl, rfl, w1⟩ := open_int Try.underlying3 (hval 1 3 v1 rfl rfl) h1
  have k2 := h2
  have lt2 : ∀ x ∈ p2, x.block < W.heap.size := by obtain ⟨m, hm⟩ := k2; exact DataW.trod_lt m _ _ _ hm
  obtain ⟨xa2, xb2, xc2, xd2, l2, rfl, w2⟩ := chain_open (hval 2 66 v2 rfl rfl) h2
  obtain ⟨a3, rfl, rfl, rfl⟩ := open_bool Try.underlying4 (hval 3 4 v3 rfl rfl) h3
  clear hA0 hval0
  refine (walk a0 a1 xa2 (.slice xb2 xc2 xd2) l2 a3 W w0 w1 w2).mono fun e W' ⟨he, bel⟩ => ?_
  subst he
  exact ⟨_, rfl, _, _, _, [], _, [], hW', trodAll_mk1 (shut_bool Try.underlying4 _), (trodAll_cons_mk (shut_int Try.underlying3 w0) (trodAll_cons_mk (shut_int Try.underlying3 w1) (trodAll_cons_mk (Below.trod laidOut (by kernel_rfl) (of_decide_eq_true (by kernel_rfl)) k2 bel lt2) (trodAll_cons_mk (shut_bool Try.underlying4 _) trodAll_mk0)))), rfl, bel.frame _, fun h => by cases h⟩

theorem over : Rows.retryAllRow.holds Try.pinned (OpenSpec.ofChange Rows.retryAllSpec) :=
  OpenClaim.holds_of_wide 9 Try.f9 rfl rfl rfl rfl rfl rfl rfl ⟨rfl, rfl, rfl, rfl, rfl⟩ rfl rfl rfl rfl rfl (by kernel_rfl) Try.func9 (by kernel_rfl)
    (of_decide_eq_true (by kernel_rfl)) (by unfold Func.isWrapper; first | (rw [if_pos (by decide +kernel)]; kernel_rfl) | (rw [if_neg (by decide +kernel)]; exact ⟨rfl, rfl⟩))
    (fun os started H enc _ => lifted os started H enc)
end Go.Proofs.Ytkbjnhonopgffaa.RetryAll

namespace Go.Proofs.Ytkbjnhonopgffaa
theorem retryAll_holds : Rows.RetryAllSaid := RetryAll.over
#print axioms retryAll_holds
end Go.Proofs.Ytkbjnhonopgffaa
