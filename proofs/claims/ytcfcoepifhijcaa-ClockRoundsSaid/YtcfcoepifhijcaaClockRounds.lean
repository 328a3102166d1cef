/-
  PROVED: casebooklaw10.ClockRounds answers true, for any three numbers: the row's own reading and nothing else is assumed.
-/
import Derived.Test.YtcfcoepifhijcaaClockArgs
import Derived.Test.YtcfcoepifhijcaaClockW
import Derived.Test.YtcfcoepifhijcaaClockM
namespace Go.Proofs.Ytcfcoepifhijcaa.ClockRounds
open Go.ChangeShapes Go.WideShapes Go.ChangeAt Go.RowKit

set_option maxRecDepth 100000 in
set_option maxHeartbeats 8000000 in
theorem walk (n turns who : Int) (w : World) (_ : (Lit.int .i64 n).wf = true) (_ : (Lit.int .i64 turns).wf = true) (_ : (Lit.int .i64 who).wf = true) :
    Calls Try.prog 7 #[.int .i64 n, .int .i64 turns, .int .i64 who] w fun e w' => e = .returned (.bool true) ∧ Below w.heap.size w w' := by
  have HT := Lib.hid (fun u => told10_any u)
  obtain ⟨i0, hi, hz0, hz1, hz2⟩ := info_parts cinfo_int
  obtain ⟨r, hr, er⟩ := left_of n 9 (by decide) (by decide)
  have E1 : Hid (wrap64 ((IntKind.u64.wrap n).tmod 9) = (r : Int)) := er
  clear er
  obtain ⟨t, ht, et⟩ := left_of turns 31 (by decide) (by decide)
  have E3 : Hid (wrap64 ((IntKind.u64.wrap turns).tmod 31) = (t : Int)) := et
  clear et
  obtain ⟨k, hk⟩ : ∃ k, k = r + 1 := ⟨_, rfl⟩
  obtain ⟨q, hq, eq⟩ := left_of who k (by omega) (by omega)
  have HEQ := Lib.hid eq
  clear eq
  have E2 : Hid (wrap64 (1 + (r : Int)) = (k : Int)) := Lib.hid (by rw [IntWalk.wrap64_in _ (by omega)]; omega)
  have HK := Lib.hid (show 0 < k ∧ k ≤ 9 from ⟨by omega, by omega⟩)
  have HQ := Lib.hid hq
  have KU := Lib.hid (show IntKind.u64.wrap (k : Int) = (k : Int) by rw [IntKind.wrap_u64]; omega)
  clear hr hk hq
  go_enter Try.func7, Try.ntmps7
  go_wp2_with fail
  rw [E1.out, E2.out, E3.out]
  clear E1 E2 E3
  go_loopw [9, 10] (fun s9 s10 wr => ∃ (i f : Nat) (a : Option Addr) (c : Nat), s9 = .slice a f c ∧ s10 = .int .i64 i ∧ i ≤ t ∧ Hid (f = i * k) ∧ Hid (wr.ownsRow w.heap.size 3 1 (.slice a f c) f (intCells (turnsL k i))) ∧ Hid (Below w.heap.size w wr)) (fun _ s10 _ => t - (intOf s10).toNat)
  case atStart => exact ⟨0, 0, none, 0, rfl, rfl, Nat.zero_le _, (show 0 = 0 * k by omega), World.ownsRow_nil _ _ _ _, Below.refl _ _⟩
  case round =>
    obtain ⟨i, f, a, c, rfl, rfl, hit, HF, HR, HB⟩ := hrel
    by_cases hlt : i < t
    · go_wp2_with fail
      obtain ⟨wo, hwo⟩ : ∃ wo, wo = wr := ⟨_, rfl⟩
      subst hwo
      go_loopw [9, 11] (fun s9 s11 wr => ∃ (j f : Nat) (a : Option Addr) (c : Nat), s9 = .slice a f c ∧ s11 = .int .i64 j ∧ j ≤ k ∧ Hid (f = i * k + j) ∧ Hid (wr.ownsRow w.heap.size 3 1 (.slice a f c) f (intCells (turnsL k i ++ rowTo j))) ∧ Hid (Below w.heap.size w wr)) (fun _ s11 _ => k - (intOf s11).toNat)
      case atStart => exact ⟨0, f, a, c, rfl, rfl, Nat.zero_le _, HF.out, (by have h := HR.out; rw [show rowTo 0 = [] from rfl, List.append_nil]; exact h), HB.out⟩
      case round =>
        clear HF HR HB
        obtain ⟨j, f, a, c, rfl, rfl, hjk, HF, HR, HB⟩ := hrel
        have hk9 := HK.out.2
        have hf : f ≤ 400 := by
          have h1 := HF.out
          have h2 : i * k ≤ 31 * 9 := Nat.mul_le_mul (by omega) hk9
          omega
        by_cases hj : j < k
        · go_wp2_with (at_builtin; refine wpList_append_own_src rfl (.tmp 33) (.tmp 35) 22 22 rfl w.heap.size 3 i0 (.int .i64 0) 1 8 Try.underlying22 hi hz0 hz1 hz2 rfl _ _ _ rfl (HR.out.alloc _) _ 1 (intCells [(j : Int)]) rfl (csrc1 wr _) ?c3 ?c4 ?c5 ?_)
          case c3 => unfold maxLen; omega
          case c4 => omega
          case c5 => have := HB.out.size; simp; omega
          intro v' w1 hown' hgrow
          obtain ⟨a', c', rfl⟩ := own_shape hown'
          have HO := Lib.hid hown'
          have HB1 : Hid (Below w.heap.size w w1) := (HB.out.alloc HB.out.size _).grown hgrow (by have := HB.out.size; simp; omega) (fun j hj => (HR.out.lt j hj).1)
          clear hown' hgrow
          go_wp2
          go_roundw
          case rel =>
            refine ⟨j + 1, f + 1, a', c', rfl, by go_num, by omega, (show _ = _ by rw [HF.out]; omega), ?_, HB1.out⟩
            have h := HO.out
            rw [cells_app, List.append_assoc, ← rowTo_succ] at h
            exact h
          case measure => simp [intOf]; omega
        · obtain rfl : j = k := by omega
          go_wp2
          go_roundw
          case rel => exact ⟨i + 1, f, a, c, rfl, by go_num, by omega, (show _ = _ by rw [HF.out, Nat.succ_mul]), HR.out, HB.out⟩
          case measure => simp [intOf]; omega
    · obtain rfl : i = t := by omega
      have hk9 := HK.out.2
      have hf : f ≤ 300 := by
        have h1 := HF.out
        have h2 : i * k ≤ 30 * 9 := Nat.mul_le_mul (by omega) hk9
        omega
      have HIx : Hid (Ints wr wr.heap.size (.slice a f c) (turnsL k i)) := ints_own HR.out (Nat.le_refl _)
      have hlen : (turnsL k i).length = f := by rw [turnsL_len]; exact HF.out.symm
      have HLen := Lib.hid hlen
      have HS := Lib.hid (fun (u : World) (hu : Ints u wr.heap.size (.slice a f c) (turnsL k i)) => hlen ▸ csrc hu)
      have ku := KU.out
      have k0 : ((k : Int) == 0) = false := beq_eq_false_iff_ne.2 (by have := HK.out.1; omega)
      have k1 : (0 : Int) < (k : Int) := by have := HK.out.1; omega
      have k2 : 0 < k := HK.out.1
      clear hlen HF
      go_wp2_with (at_builtin; refine wpList_append_own_src rfl (.tmp 43) (.tmp 44) 22 22 rfl wr.heap.size 3 i0 (.int .i64 0) 1 8 Try.underlying22 hi hz0 hz1 hz2 rfl _ _ _ rfl (World.ownsRow_made wr #[] 0 (Nat.le_refl _) (Nat.zero_le _) rfl) _ f (intCells (turnsL k i)) rfl (HS.out _ (HIx.out.keep ((Below.refl _ _).alloc (Nat.le_refl _) _))) ?c3 ?c4 ?c5 ?_)
      case c3 => unfold maxLen; omega
      case c4 => omega
      case c5 => simp
      intro v' w1 hown' hgrow
      have HO := Lib.hid hown'
      have HB1 : Hid (Below wr.heap.size wr w1) := ((Below.refl _ _).alloc (Nat.le_refl _) _).grown hgrow (by simp) (fun j hj => ((World.ownsRow_made wr #[] 0 (Nat.le_refl _) (Nat.zero_le _) rfl : (wr.alloc (.cells #[] 3)).ownsRow wr.heap.size 3 1 (.slice (some ⟨wr.heap.size, 0, none⟩) 0 0) 0 []).lt j hj).1)
      obtain ⟨a1, c1, rfl⟩ := own_shape hown'
      clear hown' hgrow
      rw [HEQ.out]
      go_wp2_with (at_builtin; refine wpList_append_own_src rfl (.tmp 45) (.tmp 51) 22 22 rfl wr.heap.size 3 i0 (.int .i64 0) 1 8 Try.underlying22 hi hz0 hz1 hz2 rfl _ _ _ rfl (HO.out.alloc _) _ 5 (intCells [(q : Int), q, q, q, q]) rfl (csrc5 w1 q) ?c3 ?c4 ?c5 ?_)
      case c3 => unfold maxLen; omega
      case c4 => omega
      case c5 => have := HB1.out.size; simp; omega
      intro v' w2 hown' hgrow
      obtain ⟨a2, c2, rfl⟩ := own_shape hown'
      rw [cells_app] at hown'
      have HO2 := Lib.hid hown'
      have HB2 : Hid (Below wr.heap.size wr w2) := (HB1.out.alloc HB1.out.size _).grown hgrow (by have := HB1.out.size; simp; omega) (fun j hj => (HO.out.lt j hj).1)
      have HJ : Hid (Ints w2 w2.heap.size (.slice a2 (f + 5) c2) (turnsL k i ++ [(q : Int), q, q, q, q])) := ints_own HO2.out (Nat.le_refl _)
      clear hown' hgrow
      have HF1 := Lib.hid (fair_turns HK.out.1 HK.out.2 i)
      have HF2 := Lib.hid (fair_bad HK.out.1 HK.out.2 HQ.out i)
      have HF3 := Lib.hid (fair_out HK.out.1 HK.out.2)
      clear HR HO HB1 HS HO2
      go_wp2_with fail
      refine (HT.out _).mono ?_
      rintro e w3 ⟨rfl, B3⟩
      have HB3 := Lib.hid (HB2.out.trans (B3.mono HB2.out.size))
      have HJ3 := Lib.hid (HJ.out.keep B3)
      have HS3 := Lib.hid B3.size
      clear B3
      go_wp2_with fail
      refine (ckfair (HIx.out.keep HB3.out) HB3.out.size (k : Int) HF1.out).mono ?_
      rintro e w4 ⟨rfl, B4⟩
      have HB4 := Lib.hid (HB3.out.trans (B4.mono HB3.out.size))
      have HJ4 := Lib.hid (HJ3.out.keep (B4.mono HS3.out))
      have HS4 := Lib.hid (Nat.le_trans HS3.out B4.size)
      clear B4
      go_wp2_with fail
      refine (ckfair HJ4.out HS4.out (k : Int) HF2.out).mono ?_
      rintro e w5 ⟨rfl, B5⟩
      have HB5 := Lib.hid (HB4.out.trans (B5.mono HB4.out.size))
      clear B5
      go_wp2_with fail
      refine (ckfair (ints_lit w5 [(k : Int)] (show 1 ≤ maxLen by decide)) (by simp) (k : Int) HF3.out).mono ?_
      rintro e w6 ⟨rfl, B6⟩
      have HB6 := Lib.hid ((HB5.out.alloc HB5.out.size _).trans (B6.mono (by have := HB5.out.size; simp; omega)))
      clear B6
      go_wp2_with fail
      refine (ckfair (HIx.out.keep HB6.out) HB6.out.size 0 (fair_zero _)).mono ?_
      rintro e w7 ⟨rfl, B7⟩
      have HB7 := Lib.hid (HB.out.trans ((HB6.out.trans (B7.mono HB6.out.size)).mono HB.out.size))
      clear B7
      go_wp2
      go_returns
      exact ⟨ret_bool (by simp), HB7.out⟩

set_option maxRecDepth 100000 in
theorem lifted (os : Os) (started : os.Started) (H : Type) (enc : TypeId × Value → H) :
    ReturnsInHanded {} Try.checked os 7 .any (Rows.clockRoundsSpec.pre6 enc Try.prog Try.f7 Rows.clockRoundsRow.domain false) (Rows.clockRoundsSpec.post enc Try.prog Try.f7 false true false false) := by
  refine returnsInHanded_of_change (C := Try.checked) own started (by kernel_rfl) Try.func7
    (ChangeSpec.witness6 (enc := enc) (C := Try.checked) false ⟨#[], #[.int .i64 0, .int .i64 0, .int .i64 0], []⟩ 8 (by kernel_rfl) (by kernel_rfl) (by kernel_rfl) (by kernel_rfl)) ?_
  intro W base args ds gs before hval0 hW hcnd _
  have hval : ∀ (j : Nat) t v, Try.f7.params[j]? = some t → args[j]? = some v → Value.okWide Try.prog W .any base t v := hval0
  have hW' := hW
  obtain ⟨p, q, hA0, hV, rfl, hfz, hnd⟩ := hW
  have hA : DataW.TrodAll enc Try.prog W 0 (fun _ => true) true Try.f7.params.toList args.toList ds p := hA0
  rw [Try.params7] at hA hval
  obtain ⟨v0, vs0, d0, ds0, p0, q0, hargs, rfl, rfl, h0, r0⟩ := trodAll_cons hA
  obtain ⟨v1, vs1, d1, ds1, p1, q1, rfl, rfl, rfl, h1, r1⟩ := trodAll_cons r0
  obtain ⟨v2, vs2, d2, ds2, p2, q2, rfl, rfl, rfl, h2, r2⟩ := trodAll_cons r1
  obtain ⟨rfl, rfl, rfl⟩ := trodAll_nil r2
  obtain rfl : args = #[v0, v1, v2] := by cases args; simp_all
  obtain ⟨rfl, rfl⟩ := trodVars_none hV
  obtain ⟨a0, rfl, rfl, rfl, w0⟩ := open_int Try.underlying3 (hval 0 3 v0 rfl rfl) h0
  obtain ⟨a1, rfl, rfl, rfl, w1⟩ := open_int Try.underlying3 (hval 1 3 v1 rfl rfl) h1
  obtain ⟨a2, rfl, rfl, rfl, w2⟩ := open_int Try.underlying3 (hval 2 3 v2 rfl rfl) h2
  clear hA0 hval0
  refine (walk a0 a1 a2 W w0 w1 w2).mono fun e W' ⟨he, bel⟩ => ?_
  subst he
  exact ⟨_, rfl, _, _, _, [], _, [], hW', trodAll_mk1 (shut_bool Try.underlying4 _), (trodAll_cons_mk (shut_int Try.underlying3 w0) (trodAll_cons_mk (shut_int Try.underlying3 w1) (trodAll_cons_mk (shut_int Try.underlying3 w2) trodAll_mk0))), rfl, bel.frame _, fun h => by cases h⟩

theorem over : Rows.clockRoundsRow.holds Try.pinned (OpenSpec.ofChange Rows.clockRoundsSpec) :=
  OpenClaim.holds_of_wide 7 Try.f7 rfl rfl rfl rfl rfl rfl rfl ⟨rfl, rfl, rfl, rfl, rfl⟩ rfl rfl rfl rfl rfl (by kernel_rfl) Try.func7 (by kernel_rfl)
    (of_decide_eq_true (by kernel_rfl)) (by unfold Func.isWrapper; first | (rw [if_pos (by decide +kernel)]; kernel_rfl) | (rw [if_neg (by decide +kernel)]; exact ⟨rfl, rfl⟩))
    (fun os started H enc _ => lifted os started H enc)
end Go.Proofs.Ytcfcoepifhijcaa.ClockRounds

namespace Go.Proofs.Ytcfcoepifhijcaa
theorem clockRounds_holds : Rows.ClockRoundsSaid := ClockRounds.over
#print axioms clockRounds_holds
end Go.Proofs.Ytcfcoepifhijcaa
