/-
  PROVED: casebooklaw16.HoldFour answers true and leaves its arguments as they were, for any number and either bool: the row's own reading and nothing else is assumed.
-/
import Derived.Test.YtomjlhmkmihbeaaHdT
import Derived.Test.YtomjlhmkmihbeaaPackT
namespace Go.Proofs.Ytomjlhmkmihbeaa.HoldFour
open Go.ChangeShapes Go.WideShapes Go.ChangeAt Go.RowKit

/-- The epoch of question i. -/
def epv (k : Nat) (other : Bool) (i : Nat) : Int := if other && decide (i + 1 = k) then 2 else 1
/-- The questions behind i more. -/
def qF (k : Nat) (other : Bool) : Nat → Nat → QV
  | 0 => upQ noQ 0 (.new 10 1)
  | i + 1 => upQ (qF k other i) ((i + 1) % 4) (.new (10 + (i : Int)) (epv k other i))
def wantV (k : Nat) (other : Bool) : Bool := decide (k < 4) && !(other && decide (0 < k))
def qG (k : Nat) (other : Bool) : Nat → QV := if wantV k other then upQ (qF k other k) 0 ((qF k other k 0).tell 0) else qF k other k
theorem four_ask : ∀ k, k < 9 → ∀ i, i < k → ∀ other, askB (i + 1) (qF k other i) (10 + (i : Int)) (epv k other i) = true := by decide
theorem four_tell : ∀ k, k < 9 → ∀ other, tellB 1 (k + 1) (qF k other k) 1 0 = wantV k other := by decide
theorem four_valid : ∀ k, k < 9 → ∀ other, validB 1 (k + 1) (qG k other) 10 1 = wantV k other := by decide
theorem four_no1 : ∀ k, k < 9 → ∀ other, askB (k + 1) (qG k other) 9 1 = false := by decide
theorem four_no2 : ∀ k, k < 9 → ∀ other, askB (k + 1) (qG k other) 30 0 = false := by decide
theorem four_no3 : ∀ k, k < 9 → ∀ other, askB (k + 1) (qG k other) 30 1073741825 = false := by decide

set_option maxRecDepth 100000 in
set_option maxHeartbeats 800000 in
theorem walk (x : Int) (other : Bool) (w : World) (_hx : (Lit.int .i64 x).wf = true) :
    Calls Try.prog 3 #[.int .i64 x, .bool other] w fun e w' => e = .returned (.bool true) ∧ Below w.heap.size w w' := by
  have HT := Lib.hid (fun u => told16_any u)
  obtain ⟨k, hk, ek⟩ := left_of x 9 (by decide) (by decide)
  have EK : Hid (wrap64 ((IntKind.u64.wrap x).tmod 9) = (k : Int)) := ek
  obtain ⟨n, hn⟩ : ∃ n, n = w.heap.size := ⟨_, rfl⟩
  rw [← hn]
  have HN : Hid (Calls Try.prog 12 #[.int .i64 1] w fun e w' => ∃ p, e = .returned (.tuple #[.pointer (some ⟨p, 0, none⟩), .int .i64 0]) ∧ Hid (LO n w p 1 0 noQ w' ∧ Below w.heap.size w w')) :=
    lo_new 1 w (by decide) (by decide) (Below.refl _ _) (Nat.le_of_eq hn)
  have HA : Hid (∀ u p, LO n w p 1 0 noQ u → Calls Try.prog 13 #[.pointer (some ⟨p, 0, none⟩), .int .i64 10, .int .i64 1] u fun e w' => e = .returned (.int .i64 1) ∧ Hid (LO n w p 1 1 (qF k other 0) w' ∧ KHd u w')) :=
    fun u p hu => hu.ask (by decide) 10 1 (by decide) rfl
  have HL : Hid (∀ u p i, i < k → LO n w p 1 (i + 1) (qF k other i) u → Calls Try.prog 13 #[.pointer (some ⟨p, 0, none⟩), .int .i64 (10 + (i : Int)), .int .i64 (epv k other i)] u fun e w' => e = .returned (.int .i64 ((i : Int) + 2)) ∧ Hid (LO n w p 1 (i + 1 + 1) (qF k other (i + 1)) w')) :=
    fun u p i hi hu => (hu.ask (by omega) _ _ (four_ask k hk i hi other) rfl).mono fun _ _ ⟨he, hh⟩ => ⟨by rw [he]; congr 2, hh.out.1⟩
  obtain ⟨R, hR⟩ : ∃ R, R = wantV k other := ⟨_, rfl⟩
  have HRR := Lib.hid hR
  have HTL : Hid (∀ u p, LO n w p 1 (k + 1) (qF k other k) u → Calls Try.prog 14 #[.pointer (some ⟨p, 0, none⟩), .int .i64 1, .int .i64 0] u fun e w' => e = .returned (.bool R) ∧ Hid (LO n w p 1 (k + 1) (qG k other) w')) := by
    intro u p hu
    have h1 := four_tell k hk other
    rw [hR]
    cases hw : wantV k other with
    | true =>
      have e : qG k other = upQ (qF k other k) 0 ((qF k other k 0).tell 0) := by unfold qG; rw [if_pos hw]
      rw [e]
      exact (hu.tell (by omega) 1 0 (h1.trans hw) rfl).mono fun _ _ ⟨he, hh⟩ => ⟨he, hh.out.1⟩
    | false =>
      have e : qG k other = qF k other k := by unfold qG; rw [hw]; rfl
      rw [e]
      exact (hu.tell_no (by omega) 1 0 (h1.trans hw)).mono fun _ _ ⟨he, hh⟩ => ⟨he, hh.out.1⟩
  have HV : Hid (∀ u p, LO n w p 1 (k + 1) (qG k other) u → Calls Try.prog 16 #[.pointer (some ⟨p, 0, none⟩), .int .i64 10, .int .i64 1] u fun e w' => e = .returned (.bool R) ∧ Hid (LO n w p 1 (k + 1) (qG k other) w')) :=
    fun u p hu => (hu.valid (by omega) 10 1 (toplit (by decide)) ((four_valid k hk other).trans hR.symm)).mono fun _ _ ⟨he, hh⟩ => ⟨he, hh.out.1⟩
  have HA1 : Hid (∀ u p, LO n w p 1 (k + 1) (qG k other) u → Calls Try.prog 13 #[.pointer (some ⟨p, 0, none⟩), .int .i64 9, .int .i64 1] u fun e w' => e = .returned (.int .i64 (-1)) ∧ u = w') :=
    fun u p hu => hu.ask_no (by omega) 9 1 (four_no1 k hk other)
  have HA2 : Hid (∀ u p, LO n w p 1 (k + 1) (qG k other) u → Calls Try.prog 13 #[.pointer (some ⟨p, 0, none⟩), .int .i64 30, .int .i64 0] u fun e w' => e = .returned (.int .i64 (-1)) ∧ u = w') :=
    fun u p hu => hu.ask_no (by omega) 30 0 (four_no2 k hk other)
  have HA3 : Hid (∀ u p, LO n w p 1 (k + 1) (qG k other) u → Calls Try.prog 13 #[.pointer (some ⟨p, 0, none⟩), .int .i64 30, .int .i64 1073741825] u fun e w' => e = .returned (.int .i64 (-1)) ∧ u = w') :=
    fun u p hu => hu.ask_no (by omega) 30 1073741825 (four_no3 k hk other)
  clear ek _hx hn hR
  go_enter Try.func3, Try.ntmps3
  go_wp2_with fail
  refine HN.out.mono ?_
  rintro e w1 ⟨p, rfl, H1⟩
  clear HN
  go_wp2_with fail
  rw [EK.out]
  refine (HA.out _ _ H1.out.1).mono ?_
  rintro e w2 ⟨rfl, H2⟩
  have S2 := Lib.hid H2.out.1
  clear H1 HA H2
  go_wp2_with fail
  go_loopw [9] (fun s9 wr => ∃ i : Nat, i ≤ k ∧ s9 = .int .i64 i ∧ Hid (LO n w p 1 (i + 1) (qF k other i) wr)) (fun s9 _ => k - (intOf s9).toNat)
  case atStart => exact ⟨0, Nat.zero_le _, rfl, S2.out⟩
  case round =>
    clear S2
    obtain ⟨i, hi, rfl, HS⟩ := hrel
    by_cases hlt : i < k
    · have i1 : (i : Int) < (k : Int) := by omega
      have i9 : (i : Int) ≤ 9 := by omega
      have k9 : (k : Int) ≤ 9 := by omega
      have HC := Lib.hid (HL.out _ _ i hlt HS.out)
      have HLT := Lib.hid hlt
      have hne : (((i : Int) + 2) != 2 + (i : Int)) = false := by simp; omega
      cases other with
      | false =>
        have he : epv k false i = 1 := rfl
        rw [he] at HC
        clear he
        go_wp2_with fail
        refine HC.out.mono ?_
        rintro e w3 ⟨rfl, S3⟩
        clear HC
        go_wp2
        go_roundw
        case rel => exact ⟨i + 1, by omega, by go_num, S3.out⟩
        case measure => simp [intOf]; omega
      | true =>
        by_cases hik : i + 1 = k
        · have he : epv k true i = 2 := by unfold epv; rw [decide_eq_true hik]; rfl
          have hb : ((i : Int) == (k : Int) - 1) = true := by simp; omega
          rw [he] at HC
          clear he hik
          go_wp2_with fail
          refine HC.out.mono ?_
          rintro e w3 ⟨rfl, S3⟩
          clear HC
          go_wp2
          go_roundw
          case rel => exact ⟨i + 1, by omega, by go_num, S3.out⟩
          case measure => simp [intOf]; omega
        · have he : epv k true i = 1 := by unfold epv; rw [decide_eq_false hik]; rfl
          have hb : ((i : Int) == (k : Int) - 1) = false := by simp; omega
          rw [he] at HC
          clear he hik
          go_wp2_with fail
          refine HC.out.mono ?_
          rintro e w3 ⟨rfl, S3⟩
          clear HC
          go_wp2
          go_roundw
          case rel => exact ⟨i + 1, by omega, by go_num, S3.out⟩
          case measure => simp [intOf]; omega
    · obtain rfl : i = k := by omega
      clear HL
      go_wp2_with fail
      refine (HTL.out _ _ HS.out).mono ?_
      rintro e w3 ⟨rfl, S3⟩
      clear HTL HS
      by_cases h4 : i < 4
      · have h4' : (i : Int) < 4 := by omega
        cases other with
        | false =>
          obtain rfl : R = true := by rw [HRR.out]; unfold wantV; rw [decide_eq_true h4]; rfl
          clear HRR
          go_wp2_with fail
          refine (HT.out _).mono ?_
          rintro e w4 ⟨rfl, B4⟩
          have S4 := Lib.hid (S3.out.on B4)
          clear B4 S3
          go_wp2_with fail
          refine (HV.out _ _ S4.out).mono ?_
          rintro e w5 ⟨rfl, S5⟩
          clear S4
          go_wp2_with fail
          refine (HA1.out _ _ S5.out).mono ?_
          rintro e w6 ⟨rfl, rfl⟩
          go_wp2_with fail
          refine (HA2.out _ _ S5.out).mono ?_
          rintro e w7 ⟨rfl, rfl⟩
          go_wp2_with fail
          refine (HA3.out _ _ S5.out).mono ?_
          rintro e w8 ⟨rfl, rfl⟩
          go_wp2
          go_returns
          exact ⟨by first | rfl | trivial, S5.out.bel⟩
        | true =>
          by_cases h0 : 0 < i
          · have h0' : (0 : Int) < (i : Int) := by omega
            obtain rfl : R = false := by rw [HRR.out]; unfold wantV; rw [decide_eq_true h4, decide_eq_true h0]; rfl
            clear HRR
            go_wp2_with fail
            refine (HT.out _).mono ?_
            rintro e w4 ⟨rfl, B4⟩
            have S4 := Lib.hid (S3.out.on B4)
            clear B4 S3
            go_wp2_with fail
            refine (HV.out _ _ S4.out).mono ?_
            rintro e w5 ⟨rfl, S5⟩
            clear S4
            go_wp2_with fail
            refine (HA1.out _ _ S5.out).mono ?_
            rintro e w6 ⟨rfl, rfl⟩
            go_wp2_with fail
            refine (HA2.out _ _ S5.out).mono ?_
            rintro e w7 ⟨rfl, rfl⟩
            go_wp2_with fail
            refine (HA3.out _ _ S5.out).mono ?_
            rintro e w8 ⟨rfl, rfl⟩
            go_wp2
            go_returns
            exact ⟨by first | rfl | trivial, S5.out.bel⟩
          · have h0' : ¬ (0 : Int) < (i : Int) := by omega
            obtain rfl : R = true := by rw [HRR.out]; unfold wantV; rw [decide_eq_true h4, decide_eq_false h0]; rfl
            clear HRR
            go_wp2_with fail
            refine (HT.out _).mono ?_
            rintro e w4 ⟨rfl, B4⟩
            have S4 := Lib.hid (S3.out.on B4)
            clear B4 S3
            go_wp2_with fail
            refine (HV.out _ _ S4.out).mono ?_
            rintro e w5 ⟨rfl, S5⟩
            clear S4
            go_wp2_with fail
            refine (HA1.out _ _ S5.out).mono ?_
            rintro e w6 ⟨rfl, rfl⟩
            go_wp2_with fail
            refine (HA2.out _ _ S5.out).mono ?_
            rintro e w7 ⟨rfl, rfl⟩
            go_wp2_with fail
            refine (HA3.out _ _ S5.out).mono ?_
            rintro e w8 ⟨rfl, rfl⟩
            go_wp2
            go_returns
            exact ⟨by first | rfl | trivial, S5.out.bel⟩
      · have h4' : ¬ (i : Int) < 4 := by omega
        obtain rfl : R = false := by rw [HRR.out]; unfold wantV; rw [decide_eq_false h4]; rfl
        clear HRR
        go_wp2_with fail
        refine (HT.out _).mono ?_
        rintro e w4 ⟨rfl, B4⟩
        have S4 := Lib.hid (S3.out.on B4)
        clear B4 S3
        go_wp2_with fail
        refine (HV.out _ _ S4.out).mono ?_
        rintro e w5 ⟨rfl, S5⟩
        clear S4
        go_wp2_with fail
        refine (HA1.out _ _ S5.out).mono ?_
        rintro e w6 ⟨rfl, rfl⟩
        go_wp2_with fail
        refine (HA2.out _ _ S5.out).mono ?_
        rintro e w7 ⟨rfl, rfl⟩
        go_wp2_with fail
        refine (HA3.out _ _ S5.out).mono ?_
        rintro e w8 ⟨rfl, rfl⟩
        go_wp2
        go_returns
        exact ⟨by first | rfl | trivial, S5.out.bel⟩

set_option maxRecDepth 100000 in
theorem lifted (os : Os) (started : os.Started) (H : Type) (enc : TypeId × Value → H) :
    ReturnsInHanded {} Try.checked os 3 .any (Rows.holdFourSpec.pre6 enc Try.prog Try.f3 Rows.holdFourRow.domain false) (Rows.holdFourSpec.post enc Try.prog Try.f3 false true false false) := by
  refine returnsInHanded_of_change (C := Try.checked) own started (by kernel_rfl) Try.func3
    (ChangeSpec.witness6 (enc := enc) (C := Try.checked) false ⟨#[], #[.int .i64 0, .bool false], []⟩ 8 (by kernel_rfl) (by kernel_rfl) (by kernel_rfl) (by kernel_rfl)) ?_
  intro W base args ds gs before hval0 hW hcnd _
  have hval : ∀ (j : Nat) t v, Try.f3.params[j]? = some t → args[j]? = some v → Value.okWide Try.prog W .any base t v := hval0
  have hW' := hW
  obtain ⟨p, q, hA0, hV, rfl, hfz, hnd⟩ := hW
  have hA : DataW.TrodAll enc Try.prog W 0 (fun _ => true) true Try.f3.params.toList args.toList ds p := hA0
  rw [Try.params3] at hA hval
  obtain ⟨v0, vs0, d0, ds0, p0, q0, hargs, rfl, rfl, h0, r0⟩ := trodAll_cons hA
  obtain ⟨v1, vs1, d1, ds1, p1, q1, rfl, rfl, rfl, h1, r1⟩ := trodAll_cons r0
  obtain ⟨rfl, rfl, rfl⟩ := trodAll_nil r1
  obtain rfl : args = #[v0, v1] := by cases args; simp_all
  obtain ⟨rfl, rfl⟩ := trodVars_none hV
  obtain ⟨a0, rfl, rfl, rfl, w0⟩ := open_int Try.underlying3 (hval 0 3 v0 rfl rfl) h0
  obtain ⟨a1, rfl, rfl, rfl⟩ := open_bool Try.underlying4 (hval 1 4 v1 rfl rfl) h1
  clear hA0 hval0
  refine (walk a0 a1 W w0).mono fun e W' ⟨he, bel⟩ => ?_
  subst he
  exact ⟨_, rfl, _, _, _, [], _, [], hW', trodAll_mk1 (shut_bool Try.underlying4 _), (trodAll_cons_mk (shut_int Try.underlying3 w0) (trodAll_cons_mk (shut_bool Try.underlying4 _) trodAll_mk0)), rfl, bel.frame _, fun h => by cases h⟩

theorem over : Rows.holdFourRow.holds Try.pinned (OpenSpec.ofChange Rows.holdFourSpec) :=
  OpenClaim.holds_of_wide 3 Try.f3 rfl rfl rfl rfl rfl rfl rfl ⟨rfl, rfl, rfl, rfl, rfl⟩ rfl rfl rfl rfl rfl (by kernel_rfl) Try.func3 (by kernel_rfl)
    (of_decide_eq_true (by kernel_rfl)) (by unfold Func.isWrapper; first | (rw [if_pos (by decide +kernel)]; kernel_rfl) | (rw [if_neg (by decide +kernel)]; exact ⟨rfl, rfl⟩))
    (fun os started H enc _ => lifted os started H enc)
end Go.Proofs.Ytomjlhmkmihbeaa.HoldFour

namespace Go.Proofs.Ytomjlhmkmihbeaa
theorem holdFour_holds : Rows.HoldFourSaid := HoldFour.over
#print axioms holdFour_holds
end Go.Proofs.Ytomjlhmkmihbeaa
