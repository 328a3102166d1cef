/-
  PROVED: casebooklaw16.HoldNone answers true and leaves its arguments as they were, for any numbers: the row's own reading and nothing else is assumed.
-/
import Derived.Test.YtomjlhmkmihbeaaHdT
import Derived.Test.YtomjlhmkmihbeaaPackT
import Derived.Laws.BitsLemmas
namespace Go.Proofs.Ytomjlhmkmihbeaa.HoldNone
open Go.ChangeShapes Go.WideShapes Go.ChangeAt Go.RowKit

theorem and1 (n : Int) : bits .and .i64 n 1 = n % 2 := by
  have h127 : (BitVec.ofInt 64 1).toNat = 2 ^ 1 - 1 := by decide
  have key : (BitVec.ofInt 64 n &&& BitVec.ofInt 64 1).toNat = (n % ((2 ^ 64 : Nat) : Int)).toNat % 2 ^ 1 := by
    rw [BitVec.toNat_and, BitVec.toNat_ofInt, h127, Nat.and_two_pow_sub_one_eq_mod]
  show IntKind.i64.wrap ((BitVec.ofInt 64 n &&& BitVec.ofInt 64 1).toNat : Nat) = n % 2
  rw [key, IntKind.wrap_i64]
  omega
def bitF (a : Int) (k : Nat) : Bool := decide (bits .and .i64 (a / 2 ^ k) 1 = 1)
theorem bitF_no {a : Int} {k : Nat} (h : bitF a k = false) : bits .and .i64 (a / 2 ^ k) 1 = 0 := by
  have h1 : ¬ bits .and .i64 (a / 2 ^ k) 1 = 1 := of_decide_eq_false h
  rw [and1] at h1 ⊢
  omega
theorem bitF_yes {a : Int} {k : Nat} (h : bitF a k = true) : bits .and .i64 (a / 2 ^ k) 1 = 1 := of_decide_eq_true h

/-- The question, when those below i were asked. -/
def qN (t : Int) (f : Nat → Bool) (i : Nat) : Nat → QV := upQ noQ 0 ⟨t, 3, fun j => decide (j < i) && f j⟩
theorem qN_zero (t : Int) (f : Nat → Bool) : upQ noQ 0 (.new t 3) = qN t f 0 := by
  unfold qN QV.new
  congr 2
theorem qN_yes (t : Int) {f : Nat → Bool} {i : Nat} (h : f i = true) : upQ (qN t f i) 0 ((qN t f i 0).tell i) = qN t f (i + 1) := by
  funext j
  unfold upQ qN
  by_cases e : j = 0
  · subst e
    rw [if_pos rfl]
    simp only [upQ, if_true, QV.tell]
    congr 1
    funext x
    by_cases ex : x = i
    · subst ex
      rw [if_pos rfl, h]
      simp
    · rw [if_neg ex]
      congr 1
      exact decide_eq_decide.2 (by omega)
  · rw [if_neg e]
    simp only [upQ, if_neg e]
theorem qN_no (t : Int) {f : Nat → Bool} {i : Nat} (h : f i = false) : qN t f i = qN t f (i + 1) := by
  unfold qN
  congr 2
  funext x
  by_cases ex : x = i
  · subst ex
    rw [h]
    simp
  · congr 1
    exact decide_eq_decide.2 (by omega)
theorem cnt_cut (f : Nat → Bool) (i : Nat) : ∀ m, cntF (fun j => decide (j < i) && f j) m = cntF f (min m i)
  | 0 => by simp [cntF]
  | m + 1 => by
    show cntF (fun j => decide (j < i) && f j) m + (if (decide (m < i) && f m) = true then 1 else 0) = _
    rw [cnt_cut f i m]
    by_cases h : m < i
    · rw [show min (m + 1) i = m + 1 by omega, show min m i = m by omega, decide_eq_true h]
      simp [cntF]
    · rw [show min (m + 1) i = min m i by omega, decide_eq_false h]
      simp
theorem valid_one (n : Nat) (qs : Nat → QV) (t ep : Int) : validB n 1 qs t ep = okB n (qs 0) t ep := by
  unfold validB
  cases h : okB n (qs 0) t ep with
  | true => exact decide_eq_true ⟨0, by omega, h⟩
  | false =>
    exact decide_eq_false fun ⟨j, hj, h'⟩ => by
      obtain rfl : j = 0 := by omega
      rw [h] at h'
      cases h'
theorem valid_none {k t r y : Nat} {f : Nat → Bool} (h1 : 1 ≤ k) (h5 : k ≤ 5) (hy : y = cntF f k) : validB k 1 (qN (t : Int) f k) ((t + r : Nat) : Int) 3 = (decide (k < 2 * y) && decide (t + r < t + 20)) := by
  rw [valid_one]
  unfold okB qN
  simp only [upQ, if_true]
  rw [cnt_cut, show min 5 k = k by omega, ← hy, mostV, if_neg (by omega), ← Bool.decide_and]
  exact decide_eq_decide.2 ⟨fun ⟨_, h2, h3, h4⟩ => ⟨by omega, by omega⟩, fun ⟨h2, h3⟩ => ⟨trivial, by omega, by omega, by omega⟩⟩
theorem valid_lost {k : Nat} (h1 : 1 ≤ k) (qs : Nat → QV) (t : Int) : validB k 1 (lostQ qs (min 1 4)) t 3 = false := by
  rw [valid_one]
  refine decide_eq_false fun ⟨_, h2, _⟩ => ?_
  have e : (lostQ qs (min 1 4) 0).told = fun _ => false := by unfold lostQ; rw [if_pos (by omega)]; rfl
  have h0 : cntF (fun _ => false) 5 = 0 := rfl
  rw [e, h0, mostV, if_neg (by omega)] at h2
  omega
theorem tell_none {k i : Nat} (t : Int) (f : Nat → Bool) (hi : i < k) : tellB k 1 (qN t f i) 1 (i : Int) = true := decide_eq_true ⟨by omega, by omega, rfl⟩

set_option maxRecDepth 100000 in
set_option maxHeartbeats 1000000 in
theorem walk (x a y z : Int) (w : World) (_hx : (Lit.int .i64 x).wf = true) (_ha : (Lit.int .i64 a).wf = true) (_hy : (Lit.int .i64 y).wf = true) (_hz : (Lit.int .i64 z).wf = true) :
    Calls Try.prog 5 #[.int .i64 x, .int .i64 a, .int .i64 y, .int .i64 z] w fun e w' => e = .returned (.bool true) ∧ Below w.heap.size w w' := by
  have HT := Lib.hid (fun u => told16_any u)
  obtain ⟨k0, hk0, ek⟩ := left_of x 5 (by decide) (by decide)
  obtain ⟨t, ht, et⟩ := left_of y 1000 (by decide) (by decide)
  obtain ⟨r, hr, er⟩ := left_of z 40 (by decide) (by decide)
  obtain ⟨k, hk⟩ : ∃ k, k = k0 + 1 := ⟨_, rfl⟩
  have EK : Hid (wrap64 (1 + wrap64 ((IntKind.u64.wrap x).tmod 5)) = (k : Int)) := by
    show _ = _
    have ek' : wrap64 ((IntKind.u64.wrap x).tmod 5) = (k0 : Int) := ek
    rw [ek', hk]
    exact (IntWalk.wrap64_in _ (by omega)).trans (by omega)
  have ET : Hid (wrap64 ((IntKind.u64.wrap y).tmod 1000) = (t : Int)) := et
  have ER : Hid (wrap64 ((IntKind.u64.wrap z).tmod 40) = (r : Int)) := er
  obtain ⟨X, hX⟩ : ∃ X, X = t + r := ⟨_, rfl⟩
  have EX : Hid (wrap64 ((t : Int) + (r : Int)) = (X : Int)) := by
    show _ = _
    rw [IntWalk.wrap64_in _ (by omega)]
    omega
  have hk1 : 1 ≤ k := by omega
  have hk5 : k ≤ 5 := by omega
  obtain ⟨n, hn⟩ : ∃ n, n = w.heap.size := ⟨_, rfl⟩
  rw [← hn]
  have HN : Hid (Calls Try.prog 12 #[.int .i64 k] w fun e w' => ∃ p, e = .returned (.tuple #[.pointer (some ⟨p, 0, none⟩), .int .i64 0]) ∧ Hid (LO n w p k 0 noQ w' ∧ Below w.heap.size w w')) :=
    lo_new k w (by omega) (by omega) (Below.refl _ _) (Nat.le_of_eq hn)
  have HA : Hid (∀ u p, LO n w p k 0 noQ u → Calls Try.prog 13 #[.pointer (some ⟨p, 0, none⟩), .int .i64 t, .int .i64 3] u fun e w' => e = .returned (.int .i64 1) ∧ Hid (LO n w p k 1 (qN t (bitF a) 0) w' ∧ KHd u w')) :=
    fun u p hu => hu.ask (by decide) t 3 (decide_eq_true ⟨by omega, by omega, fun h => absurd h (by omega)⟩) (qN_zero _ _)
  have HTL : Hid (∀ u p i, i < k → bitF a i = true → LO n w p k 1 (qN t (bitF a) i) u → Calls Try.prog 14 #[.pointer (some ⟨p, 0, none⟩), .int .i64 1, .int .i64 (i : Int)] u fun e w' => e = .returned (.bool true) ∧ Hid (LO n w p k 1 (qN t (bitF a) (i + 1)) w')) :=
    fun u p i hi hb hu => (hu.tell (by decide) 1 i (tell_none _ _ hi) (qN_yes _ hb)).mono fun _ _ ⟨he, hh⟩ => ⟨he, hh.out.1⟩
  have HV : Hid (∀ u p yy R, yy = cntF (bitF a) k → R = (decide (k < 2 * yy) && decide (X < t + 20)) → LO n w p k 1 (qN t (bitF a) k) u → Calls Try.prog 16 #[.pointer (some ⟨p, 0, none⟩), .int .i64 X, .int .i64 3] u fun e w' => e = .returned (.bool R) ∧ Hid (LO n w p k 1 (qN t (bitF a) k) w')) :=
    fun u p yy R hyy hRR hu => (hu.valid (by decide) X 3 (toplit (by omega)) (by rw [hX, valid_none hk1 hk5 hyy, hRR, hX])).mono fun _ _ ⟨he, hh⟩ => ⟨he, hh.out.1⟩
  obtain ⟨ql, hql⟩ : ∃ ql, lostQ (qN t (bitF a) k) (min 1 4) = ql := ⟨_, rfl⟩
  have HLO : Hid (∀ u p, LO n w p k 1 (qN t (bitF a) k) u → Calls Try.prog 20 #[.pointer (some ⟨p, 0, none⟩)] u fun e w' => e = .returned (.tuple #[]) ∧ Hid (LO n w p k 1 ql w')) :=
    fun u p hu => (hu.lose (by decide) hql).mono fun _ _ ⟨he, hh⟩ => ⟨he, hh.out.1⟩
  have HV2 : Hid (∀ u p, LO n w p k 1 ql u → Calls Try.prog 16 #[.pointer (some ⟨p, 0, none⟩), .int .i64 X, .int .i64 3] u fun e w' => e = .returned (.bool false) ∧ Hid (LO n w p k 1 ql w')) :=
    fun u p hu => (hu.valid (by decide) X 3 (toplit (by omega)) (by rw [← hql]; exact valid_lost hk1 _ _)).mono fun _ _ ⟨he, hh⟩ => ⟨he, hh.out.1⟩
  have hX9 : X < 1040 := by omega
  clear ek et er _hx _ha _hy _hz hn hk hk0 hX hql hr
  go_enter Try.func5, Try.ntmps5
  go_wp2_with fail
  rw [EK.out]
  refine HN.out.mono ?_
  rintro e w1 ⟨p, rfl, H1⟩
  clear HN
  go_wp2_with fail
  rw [ET.out]
  refine (HA.out _ _ H1.out.1).mono ?_
  rintro e w2 ⟨rfl, H2⟩
  have S2 := Lib.hid H2.out.1
  clear H1 HA H2
  go_wp2_with fail
  go_loopw [14, 15] (fun s14 s15 wr => ∃ i c : Nat, i ≤ k ∧ c ≤ i ∧ s14 = .int .i64 c ∧ s15 = .int .i64 i ∧ Hid (c = cntF (bitF a) i) ∧ Hid (LO n w p k 1 (qN t (bitF a) i) wr)) (fun _ s15 _ => k - (intOf s15).toNat)
  case atStart => exact ⟨0, 0, Nat.zero_le _, Nat.le_refl _, rfl, rfl, (show _ = _ from rfl), S2.out⟩
  case round =>
    clear S2
    obtain ⟨i, c, hi, hc, rfl, rfl, HC, HS⟩ := hrel
    by_cases hlt : i < k
    · have i1 : (i : Int) < (k : Int) := by omega
      cases hb : bitF a i with
      | true =>
        have hbit := bitF_yes hb
        have HTT := Lib.hid (HTL.out _ _ i hlt hb HS.out)
        have HCC : Hid (c + 1 = cntF (bitF a) (i + 1)) := by show _ = _; rw [cntF_yes hb, ← HC.out]
        clear hb HS HC HTL HV HLO HV2
        go_wp2_with fail
        refine HTT.out.mono ?_
        rintro e w3 ⟨rfl, S3⟩
        clear HTT
        go_wp2
        go_roundw
        case rel => exact ⟨i + 1, c + 1, by omega, by omega, by go_num, by go_num, HCC.out, S3.out⟩
        case measure => simp [intOf]; omega
      | false =>
        have hbit := bitF_no hb
        have S3 : Hid (LO n w p k 1 (qN t (bitF a) (i + 1)) wr) := by rw [← qN_no _ hb]; exact HS.out
        have HCC : Hid (c = cntF (bitF a) (i + 1)) := by show _ = _; rw [cntF_no hb, ← HC.out]
        clear hb HS HC HTL HV HLO HV2
        go_wp2
        go_roundw
        case rel => exact ⟨i + 1, c, by omega, by omega, by first | rfl | go_num, by go_num, HCC.out, S3.out⟩
        case measure => simp [intOf]; omega
    · obtain rfl : i = k := by omega
      obtain ⟨R, hR⟩ : ∃ R, R = (decide (i < 2 * c) && decide (X < t + 20)) := ⟨_, rfl⟩
      have HRR := Lib.hid hR
      have HVV := Lib.hid (HV.out _ _ c R HC.out hR HS.out)
      clear HTL HV hR HS HC
      go_wp2_with fail
      rw [ER.out, EX.out]
      refine HVV.out.mono ?_
      rintro e w3 ⟨rfl, S3⟩
      clear HVV
      go_wp2_with fail
      refine (HLO.out _ _ S3.out).mono ?_
      rintro e w4 ⟨rfl, S4⟩
      clear S3 HLO
      go_wp2_with fail
      refine (HT.out _).mono ?_
      rintro e w5 ⟨rfl, B5⟩
      have S5 := Lib.hid (S4.out.on B5)
      clear S4 B5
      by_cases h1 : i < 2 * c
      · have h1' : (i : Int) < 2 * (c : Int) := by omega
        by_cases h2 : X < t + 20
        · have h2' : (X : Int) < (t : Int) + 20 := by omega
          obtain rfl : R = true := by rw [HRR.out, decide_eq_true h1, decide_eq_true h2]; rfl
          clear HRR
          go_wp2_with fail
          refine (HV2.out _ _ S5.out).mono ?_
          rintro e w6 ⟨rfl, S6⟩
          go_wp2
          go_returns
          exact ⟨by first | rfl | trivial | (simp; omega), S6.out.bel⟩
        · have h2' : ¬ (X : Int) < (t : Int) + 20 := by omega
          obtain rfl : R = false := by rw [HRR.out, decide_eq_true h1, decide_eq_false h2]; rfl
          clear HRR
          go_wp2_with fail
          refine (HV2.out _ _ S5.out).mono ?_
          rintro e w6 ⟨rfl, S6⟩
          go_wp2
          go_returns
          exact ⟨by first | rfl | trivial | (simp; omega), S6.out.bel⟩
      · have h1' : ¬ (i : Int) < 2 * (c : Int) := by omega
        obtain rfl : R = false := by rw [HRR.out, decide_eq_false h1]; rfl
        clear HRR
        go_wp2_with fail
        refine (HV2.out _ _ S5.out).mono ?_
        rintro e w6 ⟨rfl, S6⟩
        go_wp2
        go_returns
        exact ⟨by first | rfl | trivial | (simp; omega), S6.out.bel⟩

set_option maxRecDepth 100000 in
theorem lifted (os : Os) (started : os.Started) (H : Type) (enc : TypeId × Value → H) :
    ReturnsInHanded {} Try.checked os 5 .any (Rows.holdNoneSpec.pre6 enc Try.prog Try.f5 Rows.holdNoneRow.domain false) (Rows.holdNoneSpec.post enc Try.prog Try.f5 false true false false) := by
  refine returnsInHanded_of_change (C := Try.checked) own started (by kernel_rfl) Try.func5
    (ChangeSpec.witness6 (enc := enc) (C := Try.checked) false ⟨#[], #[.int .i64 0, .int .i64 0, .int .i64 0, .int .i64 0], []⟩ 8 (by kernel_rfl) (by kernel_rfl) (by kernel_rfl) (by kernel_rfl)) ?_
  intro W base args ds gs before hval0 hW hcnd _
  have hval : ∀ (j : Nat) t v, Try.f5.params[j]? = some t → args[j]? = some v → Value.okWide Try.prog W .any base t v := hval0
  have hW' := hW
  obtain ⟨p, q, hA0, hV, rfl, hfz, hnd⟩ := hW
  have hA : DataW.TrodAll enc Try.prog W 0 (fun _ => true) true Try.f5.params.toList args.toList ds p := hA0
  rw [Try.params5] at hA hval
  obtain ⟨v0, vs0, d0, ds0, p0, q0, hargs, rfl, rfl, h0, r0⟩ := trodAll_cons hA
  obtain ⟨v1, vs1, d1, ds1, p1, q1, rfl, rfl, rfl, h1, r1⟩ := trodAll_cons r0
  obtain ⟨v2, vs2, d2, ds2, p2, q2, rfl, rfl, rfl, h2, r2⟩ := trodAll_cons r1
  obtain ⟨v3, vs3, d3, ds3, p3, q3, rfl, rfl, rfl, h3, r3⟩ := trodAll_cons r2
  obtain ⟨rfl, rfl, rfl⟩ := trodAll_nil r3
  obtain rfl : args = #[v0, v1, v2, v3] := by cases args; simp_all
  obtain ⟨rfl, rfl⟩ := trodVars_none hV
  obtain ⟨a0, rfl, rfl, rfl, w0⟩ := open_int Try.underlying3 (hval 0 3 v0 rfl rfl) h0
  obtain ⟨a1, rfl, rfl, rfl, w1⟩ := open_int Try.underlying3 (hval 1 3 v1 rfl rfl) h1
  obtain ⟨a2, rfl, rfl, rfl, w2⟩ := open_int Try.underlying3 (hval 2 3 v2 rfl rfl) h2
  obtain ⟨a3, rfl, rfl, rfl, w3⟩ := open_int Try.underlying3 (hval 3 3 v3 rfl rfl) h3
  clear hA0 hval0
  refine (walk a0 a1 a2 a3 W w0 w1 w2 w3).mono fun e W' ⟨he, bel⟩ => ?_
  subst he
  exact ⟨_, rfl, _, _, _, [], _, [], hW', trodAll_mk1 (shut_bool Try.underlying4 _), (trodAll_cons_mk (shut_int Try.underlying3 w0) (trodAll_cons_mk (shut_int Try.underlying3 w1) (trodAll_cons_mk (shut_int Try.underlying3 w2) (trodAll_cons_mk (shut_int Try.underlying3 w3) trodAll_mk0)))), rfl, bel.frame _, fun h => by cases h⟩

theorem over : Rows.holdNoneRow.holds Try.pinned (OpenSpec.ofChange Rows.holdNoneSpec) :=
  OpenClaim.holds_of_wide 5 Try.f5 rfl rfl rfl rfl rfl rfl rfl ⟨rfl, rfl, rfl, rfl, rfl⟩ rfl rfl rfl rfl rfl (by kernel_rfl) Try.func5 (by kernel_rfl)
    (of_decide_eq_true (by kernel_rfl)) (by unfold Func.isWrapper; first | (rw [if_pos (by decide +kernel)]; kernel_rfl) | (rw [if_neg (by decide +kernel)]; exact ⟨rfl, rfl⟩))
    (fun os started H enc _ => lifted os started H enc)
end Go.Proofs.Ytomjlhmkmihbeaa.HoldNone

namespace Go.Proofs.Ytomjlhmkmihbeaa
theorem holdNone_holds : Rows.HoldNoneSaid := HoldNone.over
#print axioms holdNone_holds
end Go.Proofs.Ytomjlhmkmihbeaa
