/-
  PROVED: casebooklaw17.WatchBeats answers true and leaves its argument as it was, for any ints: the row's own reading and nothing else is assumed.
-/
import Derived.Test.YtomjlhmkmihbeaaClockArgs
import Derived.Test.YtomjlhmkmihbeaaWatT
namespace Go.Proofs.Ytomjlhmkmihbeaa.WatchBeats
open Go.ChangeShapes Go.WideShapes Go.ChangeAt Go.RowKit

theorem there1 {f : Nat → Nat} {N M p : Nat} (h : f 1 = N) (hM : M = N + p) : isT 3 0 f (M : Int) 1 = decide (p < 12) := by
  unfold isT
  rw [show (1 : Int).toNat = 1 from rfl, h]
  exact decide_eq_decide.2 (by omega)
theorem there0 (f : Nat → Nat) (t : Int) : isT 3 0 f t 0 = true := decide_eq_true (by omega)
theorem hear1 (f : Nat → Nat) {N M p : Nat} (h : f 1 = N) (hM : M = N + p) : hearV 3 f (M : Int) 1 1 = M ∧ hearV 3 f (M : Int) 1 2 = f 2 := by
  unfold hearV
  rw [if_pos (by omega), show (1 : Int).toNat = 1 from rfl, upF_same, upF_other _ (by decide), h]
  exact ⟨by omega, rfl⟩
theorem gone2 {f : Nat → Nat} {N : Nat} (h1 : f 1 = N) (h2 : f 2 = 0) : goneL 3 0 f ((N : Int) + 12) = [1, 2] := by
  have a0 : isT 3 0 f ((N : Int) + 12) ((0 : Nat) : Int) = true := decide_eq_true (by omega)
  have a1 : isT 3 0 f ((N : Int) + 12) ((1 : Nat) : Int) = false := decide_eq_false (by rw [show (((1 : Nat) : Int)).toNat = 1 from rfl, h1]; omega)
  have a2 : isT 3 0 f ((N : Int) + 12) ((2 : Nat) : Int) = false := decide_eq_false (by rw [show (((2 : Nat) : Int)).toNat = 2 from rfl, h2]; omega)
  unfold goneL
  rw [goneN_yes a2, goneN_yes a1, goneN_no a0]
  rfl

set_option maxRecDepth 100000 in
set_option maxHeartbeats 800000 in
theorem main (a : Option Addr) (len c : Nat) (l : List Int) (w : World) (hI : Ints w w.heap.size (.slice a len c) l) :
    Calls Try.prog 9 #[.slice a len c] w fun e w' => e = .returned (.bool true) ∧ Below w.heap.size w w' := by
  have HT := Lib.hid (fun u => told17_any u)
  obtain ⟨_, _, hv, hcap, hmax, _, hcells⟩ := hI
  cases hv
  obtain ⟨len, hl⟩ : ∃ len, len = l.length := ⟨_, rfl⟩
  obtain ⟨n, hn⟩ : ∃ n, n = w.heap.size := ⟨_, rfl⟩
  rw [← hl] at hcap ⊢
  rw [← hn] at hcells ⊢
  have HN : Hid (Calls Try.prog 25 #[.int .i64 3, .int .i64 0, .int .i64 0] w fun e w' => ∃ p, e = .returned (.tuple #[.pointer (some ⟨p, 0, none⟩), .int .i64 0]) ∧ Hid (WO n w p 3 0 (wtOf 0 3) w' ∧ Below w.heap.size w w')) :=
    wo_new 3 0 0 w (by decide) (by decide) (by decide) (by decide) (Below.refl _ _) (Nat.le_of_eq hn)
  have HL := Lib.hid hl
  have HC := Lib.hid hcells
  clear hcells hl hcap hmax hn
  go_enter Try.func9, Try.ntmps9
  go_wp2_with fail
  refine HN.out.mono ?_
  rintro e w1 ⟨b, rfl, H1⟩
  have S0 := Lib.hid H1.out.1
  clear H1 HN
  go_wp2_with fail
  go_loopw [5, 6] (fun s5 s6 wr => ∃ (i N : Nat) (f : Nat → Nat), s5 = .int .i64 N ∧ s6 = .int .i64 i ∧ i ≤ 40 ∧ N ≤ 30 * i ∧ Hid (f 1 = N ∧ f 2 = 0) ∧ Hid (WO n w b 3 0 f wr)) (fun _ s6 _ => 40 - (intOf s6).toNat)
  case atStart => exact ⟨0, 0, wtOf 0 3, rfl, rfl, Nat.zero_le _, Nat.zero_le _, ⟨rfl, rfl⟩, S0.out⟩
  case round =>
    clear S0
    obtain ⟨i, N, f, rfl, rfl, hi, hN, HF, HS⟩ := hrel
    by_cases hlt : i < len ∧ i < 40
    · obtain ⟨hl1, hl2⟩ := hlt
      obtain ⟨xb, off, rfl, hxb, hc⟩ := HC.out (List.length_pos_iff.1 (by have := HL.out; omega))
      have hq := hc i (by have := HL.out; omega)
      clear hc
      generalize l.getD i 0 = x at hq
      have q0 := (HS.out.bel.cell (p := ⟨xb, off + i, none⟩) hxb).trans hq
      have i1 : (i : Int) < (len : Int) := by omega
      have i0 : (0 : Int) ≤ (i : Int) := by omega
      have i2 : (i : Int) < 40 := by omega
      obtain ⟨p, hp, et⟩ := left_of x 30 (by decide) (by decide)
      have HET : Hid (wrap64 ((IntKind.u64.wrap x).tmod 30) = (p : Int)) := et
      obtain ⟨M, hM⟩ : ∃ M, M = N + p := ⟨_, rfl⟩
      have HM : Hid (wrap64 ((N : Int) + (p : Int)) = (M : Int)) := by
        show _ = _
        rw [IntWalk.wrap64_in _ (by omega)]
        omega
      have hM30 : M ≤ 30 * (i + 1) := by omega
      clear hq hxb et
      have H0 := Lib.hid (HS.out.isThere (M : Int) 0 (top_big (by omega)) (there0 f _))
      have HH := Lib.hid (HS.out.hear (M : Int) 1)
      have HF' := Lib.hid (hear1 f HF.out.1 hM)
      obtain ⟨f', hf'⟩ : ∃ f', f' = hearV 3 f (M : Int) 1 := ⟨_, rfl⟩
      rw [← hf'] at HH HF'
      have HZ : Hid (f' 1 = M ∧ f' 2 = 0) := ⟨HF'.out.1, HF'.out.2.trans HF.out.2⟩
      have HB : Hid (∀ u, WO n w b 3 0 f' u → Calls Try.prog 33 #[.pointer (some ⟨b, 0, none⟩), .int .i64 (M : Int), .int .i64 1] u fun e w' => e = .returned (.bool true) ∧ u = w') := fun u hu =>
        hu.isThere _ 1 (top_big (by omega)) (by
          have := there1 (f := f') (N := M) (p := 0) HZ.out.1 rfl
          simpa using this)
      clear hf' HF'
      by_cases hp12 : p < 12
      · have hp' : (p : Int) < 12 := by omega
        have H1 := Lib.hid (HS.out.isThere (M : Int) 1 (top_big (by omega)) ((there1 HF.out.1 hM).trans (decide_eq_true hp12)))
        clear HS HF hp12 hM
        go_wp2_with fail
        rw [HET.out, HM.out]
        refine H1.out.mono ?_
        rintro e w3 ⟨rfl, rfl⟩
        go_wp2_with fail
        refine H0.out.mono ?_
        rintro e w4 ⟨rfl, rfl⟩
        go_wp2_with fail
        refine HH.out.mono ?_
        rintro e w5 ⟨rfl, H5⟩
        have S5 := Lib.hid H5.out.1
        clear H5 HH H0 H1
        go_wp2_with fail
        refine (HB.out _ S5.out).mono ?_
        rintro e w6 ⟨rfl, rfl⟩
        go_wp2
        go_roundw
        case rel => exact ⟨i + 1, M, f', by first | rfl | go_num, by go_num, by omega, by omega, HZ.out, S5.out⟩
        case measure => simp [intOf]; omega
      · have hp' : ¬ (p : Int) < 12 := by omega
        have H1 := Lib.hid (HS.out.isThere (M : Int) 1 (top_big (by omega)) ((there1 HF.out.1 hM).trans (decide_eq_false hp12)))
        clear HS HF hp12 hM
        go_wp2_with fail
        rw [HET.out, HM.out]
        refine H1.out.mono ?_
        rintro e w3 ⟨rfl, rfl⟩
        go_wp2_with fail
        refine H0.out.mono ?_
        rintro e w4 ⟨rfl, rfl⟩
        go_wp2_with fail
        refine HH.out.mono ?_
        rintro e w5 ⟨rfl, H5⟩
        have S5 := Lib.hid H5.out.1
        clear H5 HH H0 H1
        go_wp2_with fail
        refine (HB.out _ S5.out).mono ?_
        rintro e w6 ⟨rfl, rfl⟩
        go_wp2
        go_roundw
        case rel => exact ⟨i + 1, M, f', by first | rfl | go_num, by go_num, by omega, by omega, HZ.out, S5.out⟩
        case measure => simp [intOf]; omega
    · have HG : Hid (∀ u, WO n w b 3 0 f u → Calls Try.prog 31 #[.pointer (some ⟨b, 0, none⟩), .int .i64 ((N : Int) + 12)] u fun e w' => ∃ a c, e = .returned (.slice a 2 c) ∧ Below u.heap.size u w') := fun u hu =>
        (hu.gone ((N : Int) + 12) (top_big (by omega)) (gone2 HF.out.1 HF.out.2)).mono fun _ _ ⟨a, c, he, h⟩ => ⟨a, c, he, h.out.2⟩
      clear HF
      have fin : ∀ w4, WO n w b 3 0 f w4 → Below n w w4 := fun w4 h => h.bel
      by_cases hl1 : i < len
      · have i1 : (i : Int) < (len : Int) := by omega
        have i2 : (40 : Int) ≤ (i : Int) := by omega
        clear hlt
        go_wp2_with fail
        refine (HT.out _).mono ?_
        rintro e w3 ⟨rfl, B3⟩
        have S3 := Lib.hid (HS.out.on B3)
        clear B3 HS
        go_wp2_with fail
        refine (HG.out _ S3.out).mono ?_
        rintro e w4 ⟨a4, c4, rfl, B4⟩
        have S4 := Lib.hid (S3.out.on B4)
        clear B4 S3
        go_wp2
        go_returns
        exact ⟨by first | rfl | trivial, S4.out.bel⟩
      · have i1 : (len : Int) ≤ (i : Int) := by omega
        clear hlt
        go_wp2_with fail
        refine (HT.out _).mono ?_
        rintro e w3 ⟨rfl, B3⟩
        have S3 := Lib.hid (HS.out.on B3)
        clear B3 HS
        go_wp2_with fail
        refine (HG.out _ S3.out).mono ?_
        rintro e w4 ⟨a4, c4, rfl, B4⟩
        have S4 := Lib.hid (S3.out.on B4)
        clear B4 S3
        go_wp2
        go_returns
        exact ⟨by first | rfl | trivial, S4.out.bel⟩

theorem walk (v : Value) (l : List Int) (w : World) (hI : Ints w w.heap.size v l) : Calls Try.prog 9 #[v] w fun e w' => e = .returned (.bool true) ∧ Below w.heap.size w w' := by
  obtain ⟨a, c, rfl, _⟩ := id hI
  exact main a _ c l w hI

set_option maxRecDepth 100000 in
theorem lifted (os : Os) (started : os.Started) (H : Type) (enc : TypeId × Value → H) :
    ReturnsInHanded {} Try.checked os 9 .any (Rows.watchBeatsSpec.pre6 enc Try.prog Try.f9 Rows.watchBeatsRow.domain false) (Rows.watchBeatsSpec.post enc Try.prog Try.f9 false true false false) := by
  refine returnsInHanded_of_change (C := Try.checked) own started (by kernel_rfl) Try.func9
    (ChangeSpec.witness6 (enc := enc) (C := Try.checked) false ⟨#[], #[.slice none 0 0], []⟩ 8 (by kernel_rfl) (by kernel_rfl) (by kernel_rfl) (by kernel_rfl)) ?_
  intro W base args ds gs before hval0 hW hcnd _
  have hval : ∀ (j : Nat) t v, Try.f9.params[j]? = some t → args[j]? = some v → Value.okWide Try.prog W .any base t v := hval0
  have hW' := hW
  obtain ⟨p, q, hA0, hV, rfl, hfz, hnd⟩ := hW
  have hA : DataW.TrodAll enc Try.prog W 0 (fun _ => true) true Try.f9.params.toList args.toList ds p := hA0
  rw [Try.params9] at hA hval
  obtain ⟨v0, vs0, d0, ds0, p0, q0, hargs, rfl, rfl, h0, r0⟩ := trodAll_cons hA
  obtain ⟨rfl, rfl, rfl⟩ := trodAll_nil r0
  obtain rfl : args = #[v0] := by cases args; simp_all
  obtain ⟨rfl, rfl⟩ := trodVars_none hV
  obtain ⟨a0, len0, cap0, rfl⟩ := okWide_slice Try.underlying41 (hval 0 41 v0 rfl rfl)
  have k0 := h0
  have lt0 : ∀ x ∈ p0, x.block < W.heap.size := by obtain ⟨m, hm⟩ := k0; exact DataW.trod_lt m _ _ _ hm
  obtain ⟨l0, w0⟩ := cints_open h0
  clear hA0 hval0
  refine (walk (.slice a0 len0 cap0) l0 W w0).mono fun e W' ⟨he, bel⟩ => ?_
  subst he
  exact ⟨_, rfl, _, _, _, [], _, [], hW', trodAll_mk1 (shut_bool Try.underlying4 _), (trodAll_cons_mk (Below.trod laidOut (by kernel_rfl) (of_decide_eq_true (by kernel_rfl)) k0 bel lt0) trodAll_mk0), rfl, bel.frame _, fun h => by cases h⟩

theorem over : Rows.watchBeatsRow.holds Try.pinned (OpenSpec.ofChange Rows.watchBeatsSpec) :=
  OpenClaim.holds_of_wide 9 Try.f9 rfl rfl rfl rfl rfl rfl rfl ⟨rfl, rfl, rfl, rfl, rfl⟩ rfl rfl rfl rfl rfl (by kernel_rfl) Try.func9 (by kernel_rfl)
    (of_decide_eq_true (by kernel_rfl)) (by unfold Func.isWrapper; first | (rw [if_pos (by decide +kernel)]; kernel_rfl) | (rw [if_neg (by decide +kernel)]; exact ⟨rfl, rfl⟩))
    (fun os started H enc _ => lifted os started H enc)
end Go.Proofs.Ytomjlhmkmihbeaa.WatchBeats

namespace Go.Proofs.Ytomjlhmkmihbeaa
theorem watchBeats_holds : Rows.WatchBeatsSaid := WatchBeats.over
#print axioms watchBeats_holds
end Go.Proofs.Ytomjlhmkmihbeaa
