/-
  PROVED: casebooklaw1.PackTexts answers true and leaves its arguments as they were, for every string and every number that can be read: the row's own reading and nothing else is assumed.
-/
import Derived.Test.YthnkipbbeiadjaaPackArgs
import Derived.Deep.RegionWith
namespace Go.Proofs.Ythnkipbbeiadjaa.PackTexts
open Go.ChangeShapes Go.WideShapes Go.ChangeAt Go.RowKit
open Go.ChangeMaps (open_string shut_string)

theorem ba_eta (s : ByteArray) : ByteArray.mk s.data.toList.toArray = s := rfl

theorem rNum_written (M n : Nat) (hn : n < 18446744073709551616) (r : List UInt8) : rNum M (some (Lib.uvarint n ++ r)) = if n ≤ M then (n, some r) else (0, none) := by
  simp only [rNum, numAt_uvarint n hn r]
  split
  · simp
  · rfl

theorem empty_of (s : ByteArray) (h : s.size ≤ 0) : s = ByteArray.empty := by
  apply ByteArray.ext
  exact Array.eq_empty_of_size_eq_zero (by have : s.data.size = s.size := rfl; omega)

theorem rText_yes (M : Nat) (l : List UInt8) (hl : l.length ≤ 300) (h : l.length ≤ M) : rText M (some (Lib.uvarint l.length ++ l)) = (l, some []) := by
  unfold rText
  rw [rNum_written M l.length (by omega), if_pos h]
  simp [rTextOf]
theorem rText_no (M : Nat) (l : List UInt8) (hl : l.length ≤ 300) (h : ¬ l.length ≤ M) : rText M (some (Lib.uvarint l.length ++ l)) = ([], none) := by
  unfold rText
  rw [rNum_written M l.length (by omega), if_neg h]
  rfl

set_option maxHeartbeats 2000000 in
theorem walk (s : ByteArray) (most : Int) (w : World) (w0 : s.size ≤ maxLen) (w1 : (Lit.int .i64 most).wf = true) :
    Calls Try.prog 10 #[.string s, .int .i64 most] w fun e w' => e = .returned (.bool true) ∧ Below w.heap.size w w' := by
  unfold maxLen at w0
  have hb64 : -9223372036854775808 ≤ most ∧ most ≤ 9223372036854775807 := by
    simp [Lit.wf, IntKind.min, IntKind.max, IntKind.signed, IntKind.bits] at w1
    omega
  clear w1
  by_cases h : 300 < s.size
  · clear hb64
    go_enter Try.func10, Try.ntmps10
    go_wp2_with (go_at_call 11; refine (told_any _).mono ?_; rintro e w' ⟨rfl, hb⟩)
    go_returns
    exact ⟨rfl, by assumption⟩
  · obtain ⟨M, hM, hmm⟩ : ∃ M : Nat, M ≤ 9223372036854775807 ∧ ((most < 0 ∧ M = 0) ∨ most = (M : Int)) := by
      by_cases h0 : most < 0
      · exact ⟨0, by omega, .inl ⟨h0, rfl⟩⟩
      · exact ⟨most.toNat, by omega, .inr (by omega)⟩
    have HM := Lib.hid hM
    clear hb64 hM w0
    have hsl : s.data.toList.length = s.size := by rw [Array.length_toList]; rfl
    have hul : (Lib.uvarint s.size).length ≤ 10 := Lib.uvarint_length64 (by omega)
    have HL := Lib.hid hsl
    clear hsl
    have hxl : ([] ++ Lib.uvarint s.size ++ s.data.toList).length ≤ 310 := by rw [List.length_append, HL.out, List.nil_append]; omega
    have HX := Lib.hid hxl
    clear hxl
    have HY : Hid (if s.size ≤ M then rText M (some ([] ++ Lib.uvarint s.size ++ s.data.toList)) = (s.data.toList, some []) else rText M (some ([] ++ Lib.uvarint s.size ++ s.data.toList)) = ([], none)) := by
      show if _ then _ else _
      rw [List.nil_append, ← HL.out]
      split
      · rename_i h'; exact rText_yes M _ (by rw [HL.out]; omega) h'
      · rename_i h'; exact rText_no M _ (by rw [HL.out]; omega) h'
    go_enter Try.func10, Try.ntmps10
    go_wp2_with fail
    refine (wtext_any w.heap.size s [] _ (Wrt.fresh w 26) (by simp; omega)).mono ?_
    rintro e w1 ⟨rfl, hW1, hb1⟩
    have hB1 : Below w.heap.size w w1 := ((Below.refl _ _).alloc (Nat.le_refl _) _).trans hb1
    have HB1 := Lib.hid hB1
    clear hb1 hB1
    go_wp2_with fail
    refine (wbytes_any w.heap.size _ _ hW1 (by have := HX.out; omega)).mono ?_
    rintro e w2 ⟨v, rfl, hown, hb2⟩
    have hs1 := HB1.out.size
    have HB2 := Lib.hid (HB1.out.trans (hb2.mono hs1))
    have HBy := Lib.hid (byt_own hown (Nat.le_refl _))
    clear hb2 HB1 hW1 hown hs1
    go_wp2_with fail
    refine (new_any v _ _ _ HBy.out (Nat.le_refl _) (by have := HX.out; omega)).mono ?_
    rintro e w3 ⟨hh, rfl, hge, hR, hb3⟩
    have hs2 := HB2.out.size
    have HB3 := Lib.hid (HB2.out.trans (hb3.mono hs2))
    have HBy3 := Lib.hid (HBy.out.keep hb3)
    have hwh : w.heap.size ≤ hh := by omega
    have hlt := hR.lt
    have HC := Lib.hid (rtext_any hh _ most M HM.out hmm w3 hR (by intro l hl; cases hl; have := HX.out; omega))
    clear hb3 HB2 HBy hR hs2
    go_wp2_with fail
    refine HC.out.mono ?_
    rintro e w4 ⟨rfl, hR, hg⟩
    have HB4 := Lib.hid (HB3.out.trans (grown_below hg hwh hlt))
    have HBy4 := Lib.hid (HBy3.out.keep (grown_below hg hge hlt))
    clear hg HC HB3 HBy3
    by_cases hy : s.size ≤ M
    · have hE : rText M (some ([] ++ Lib.uvarint s.size ++ s.data.toList)) = (s.data.toList, some []) := by have := HY.out; rwa [if_pos hy] at this
      rw [hE] at hR ⊢
      simp only at hR ⊢
      rw [ba_eta]
      clear hE HY
      have HR := Lib.hid hR
      have hz4 : w.heap.size ≤ w4.heap.size := HB4.out.size
      have hz24 : w2.heap.size ≤ w4.heap.size := by have := hR.lt; omega
      clear hR
      rcases hmm with ⟨hn, rfl⟩ | rfl
      · go_wp2_with fail
        · go_region_with (first
            | (go_at_call 11; refine (told_any _).mono ?_; rintro e w5 ⟨rfl, hb5⟩; have hb5' : Below w4.heap.size w4 w5 := (Below.refl _ w4).drew.trans hb5; have HB5 := Lib.hid (HB4.out.trans (hb5'.mono hz4)); have HR5 := Lib.hid (HR.out.below hb5'); have HBy5 := Lib.hid (HBy4.out.keep (hb5'.mono hz24)); have hk5 := run_conv_byt HBy5.out; have hz5 := hb5'.size; clear hb5 hb5')
            | (go_at_call 26; refine (rend_ok hh _ HR5.out).mono ?_; rintro e w' ⟨rfl, rfl⟩)
            | (go_at_call 15; refine (reftext_any _ _ (by first | omega | simp)).mono ?_; rintro e w6 ⟨rfl, hb6⟩; have HB6 := Lib.hid (HB5.out.trans (hb6.mono (by omega))); have hk6 := run_conv_byt (HBy5.out.keep (hb6.mono (by omega))); clear hb6))
          all_goals
            go_wp2
            go_returns
            exact ⟨rfl, HB6.out⟩
        · exact absurd (empty_of s hy) (by assumption)
      · go_wp2_with fail
        · go_region_with (first
            | (go_at_call 11; refine (told_any _).mono ?_; rintro e w5 ⟨rfl, hb5⟩; have hb5' : Below w4.heap.size w4 w5 := (Below.refl _ w4).drew.trans hb5; have HB5 := Lib.hid (HB4.out.trans (hb5'.mono hz4)); have HR5 := Lib.hid (HR.out.below hb5'); have HBy5 := Lib.hid (HBy4.out.keep (hb5'.mono hz24)); have hk5 := run_conv_byt HBy5.out; have hz5 := hb5'.size; clear hb5 hb5')
            | (go_at_call 26; refine (rend_ok hh _ HR5.out).mono ?_; rintro e w' ⟨rfl, rfl⟩)
            | (go_at_call 15; refine (reftext_any _ _ (by first | omega | simp)).mono ?_; rintro e w6 ⟨rfl, hb6⟩; have HB6 := Lib.hid (HB5.out.trans (hb6.mono (by omega))); have hk6 := run_conv_byt (HBy5.out.keep (hb6.mono (by omega))); clear hb6))
          all_goals
            go_wp2
            go_returns
            exact ⟨rfl, HB6.out⟩
    · have hE : rText M (some ([] ++ Lib.uvarint s.size ++ s.data.toList)) = ([], none) := by have := HY.out; rwa [if_neg hy] at this
      rw [hE] at hR ⊢
      simp only at hR ⊢
      clear hE HY
      have HR := Lib.hid hR
      have hz4 : w.heap.size ≤ w4.heap.size := HB4.out.size
      clear hR
      rcases hmm with ⟨hn, rfl⟩ | rfl
      · go_wp2_with (first
          | (go_at_call 11; refine (told_any _).mono ?_; rintro e w5 ⟨rfl, hb5⟩; have HB5 := Lib.hid (HB4.out.trans (hb5.mono hz4)); have HR5 := Lib.hid (HR.out.below hb5); clear hb5)
          | (go_at_call 26; refine (rend_bad hh _ HR5.out).mono ?_; rintro e w' ⟨rfl, rfl⟩))
        · exact absurd (by have h0 : s = ByteArray.empty := by assumption
                           rw [h0]; exact Nat.le_refl _) hy
        · go_returns
          exact ⟨rfl, by exact Hid.out (by assumption)⟩
      · go_wp2_with (first
          | (go_at_call 11; refine (told_any _).mono ?_; rintro e w5 ⟨rfl, hb5⟩; have HB5 := Lib.hid (HB4.out.trans (hb5.mono hz4)); have HR5 := Lib.hid (HR.out.below hb5); clear hb5)
          | (go_at_call 26; refine (rend_bad hh _ HR5.out).mono ?_; rintro e w' ⟨rfl, rfl⟩))
        go_returns
        exact ⟨rfl, HB5.out⟩

set_option maxRecDepth 100000 in
theorem lifted (os : Os) (started : os.Started) (H : Type) (enc : TypeId × Value → H) :
    ReturnsInHanded {} Try.checked os 10 .any (Rows.packTextsSpec.pre6 enc Try.prog Try.f10 Rows.packTextsRow.domain false) (Rows.packTextsSpec.post enc Try.prog Try.f10 false true false false) := by
  refine returnsInHanded_of_change (C := Try.checked) own started (by kernel_rfl) Try.func10
    (ChangeSpec.witness6 (enc := enc) (C := Try.checked) false ⟨#[], #[.string ByteArray.empty, .int .i64 0], []⟩ 8 (by kernel_rfl) (by kernel_rfl) (by kernel_rfl) (by kernel_rfl)) ?_
  intro W base args ds gs before hval0 hW hcnd _
  have hval : ∀ (j : Nat) t v, Try.f10.params[j]? = some t → args[j]? = some v → Value.okWide Try.prog W .any base t v := hval0
  have hW' := hW
  obtain ⟨p, q, hA0, hV, rfl, hfz, hnd⟩ := hW
  have hA : DataW.TrodAll enc Try.prog W 0 (fun _ => true) true Try.f10.params.toList args.toList ds p := hA0
  rw [Try.params10] at hA hval
  obtain ⟨v0, vs0, d0, ds0, p0, q0, hargs, rfl, rfl, h0, r0⟩ := trodAll_cons hA
  obtain ⟨v1, vs1, d1, ds1, p1, q1, rfl, rfl, rfl, h1, r1⟩ := trodAll_cons r0
  obtain ⟨rfl, rfl, rfl⟩ := trodAll_nil r1
  obtain rfl : args = #[v0, v1] := by cases args; simp_all
  obtain ⟨rfl, rfl⟩ := trodVars_none hV
  obtain ⟨a0, rfl, rfl, rfl, w0⟩ := open_string Try.underlying9 (hval 0 9 v0 rfl rfl) h0
  obtain ⟨a1, rfl, rfl, rfl, w1⟩ := open_int Try.underlying3 (hval 1 3 v1 rfl rfl) h1
  clear hA0 hval0
  refine (walk a0 a1 W w0 w1).mono fun e W' ⟨he, bel⟩ => ?_
  subst he
  exact ⟨_, rfl, _, _, _, [], _, [], hW', trodAll_mk1 (shut_bool Try.underlying4 _), (trodAll_cons_mk (shut_string Try.underlying9 w0) (trodAll_cons_mk (shut_int Try.underlying3 w1) trodAll_mk0)), rfl, bel.frame _, fun h => by cases h⟩

theorem over : Rows.packTextsRow.holds Try.pinned (OpenSpec.ofChange Rows.packTextsSpec) :=
  OpenClaim.holds_of_wide 10 Try.f10 rfl rfl rfl rfl rfl rfl rfl ⟨rfl, rfl, rfl, rfl, rfl⟩ rfl rfl rfl rfl rfl (by kernel_rfl) Try.func10 (by kernel_rfl)
    (of_decide_eq_true (by kernel_rfl)) (by unfold Func.isWrapper; first | (rw [if_pos (by decide +kernel)]; kernel_rfl) | (rw [if_neg (by decide +kernel)]; exact ⟨rfl, rfl⟩))
    (fun os started H enc _ => lifted os started H enc)
end Go.Proofs.Ythnkipbbeiadjaa.PackTexts

namespace Go.Proofs.Ythnkipbbeiadjaa
theorem packTexts_holds : Rows.PackTextsSaid := PackTexts.over
#print axioms packTexts_holds
end Go.Proofs.Ythnkipbbeiadjaa
