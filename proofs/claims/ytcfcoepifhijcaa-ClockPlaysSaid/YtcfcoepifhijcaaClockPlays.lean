/-
  PROVED: casebooklaw10.ClockPlays answers true and leaves its arguments as they were, for any number and any ints: the row's own reading and nothing else is assumed.
-/
import Derived.Test.YtcfcoepifhijcaaClockArgs
import Derived.Test.YtcfcoepifhijcaaClockT
import Derived.Test.YtcfcoepifhijcaaClockR
namespace Go.Proofs.Ytcfcoepifhijcaa.ClockPlays
open Go.ChangeShapes Go.WideShapes Go.ChangeAt Go.RowKit

/-- The program's clocks at b show s1, the reference's at rb s2; what lay below m stands. -/
structure Both (m : Nat) (w0 : World) (b rb n : Nat) (s1 s2 : CkS) (u : World) : Prop where
  ck : CkA u b n s1
  rc : ∃ ab nb, RCk u m rb ab nb n s2
  bel : Below m w0 u
  low : m ≤ b
  mm : m ≤ w0.heap.size
section
variable {m : Nat} {w0 u u' : World} {b rb n : Nat} {s1 s2 s : CkS}
theorem Both.size (H : Both m w0 b rb n s1 s2 u) : m ≤ u.heap.size := Nat.le_trans H.mm H.bel.size
theorem Both.on (H : Both m w0 b rb n s1 s2 u) (hb : Below u.heap.size u u') : Both m w0 b rb n s1 s2 u' :=
  ⟨H.ck.on hb, by obtain ⟨ab, nb, h⟩ := H.rc; exact ⟨ab, nb, h.on hb⟩, H.bel.trans (hb.mono H.size), H.low, H.mm⟩
theorem Both.drew (H : Both m w0 b rb n s1 s2 u) : Both m w0 b rb n s1 s2 u.drew := H.on (Below.refl _ _).drew
theorem Both.drewN (H : Both m w0 b rb n s1 s2 u) (q : Nat) : Both m w0 b rb n s1 s2 (u.drewN q) :=
  ⟨H.ck.drewN q, by obtain ⟨ab, nb, h⟩ := H.rc; exact ⟨ab, nb, h.keep (S := fun _ => False) (.drewN _ _ _) (fun h => h) (fun h => h) (fun h => h)⟩, (Only.drewN (fun _ => False) u q).below H.bel (fun _ h => h.elim) H.size, H.low, H.mm⟩
theorem Both.one (H : Both m w0 b rb n s1 s2 u) (hc : CkA u' b n s) (ho : Only (· = b) u u') : Both m w0 b rb n s s2 u' :=
  ⟨hc, by obtain ⟨ab, nb, h⟩ := H.rc; exact ⟨ab, nb, h.beside H.ck ho⟩, ho.below H.bel (fun x hx => hx ▸ H.low) H.size, H.low, H.mm⟩
theorem Both.two (H : Both m w0 b rb n s1 s2 u) (hr : RT m rb n s u u') : Both m w0 b rb n s1 s u' :=
  ⟨hr.2.1 _ _ _ _ H.ck, hr.1, hr.2.2 _ H.bel, H.low, H.mm⟩
theorem Both.tick (H : Both m w0 b rb n s1 s2 u) (k : Int) {t : Nat} (hu : s1.upto t) (hl : t < maxLen) {r : Bool} (hr : canT n s1 k = r) :
    Calls Try.prog 9 #[.pointer (some ⟨b, 0, none⟩), .int .i64 k] u fun e u' => e = .returned (.bool r) ∧ Hid (Both m w0 b rb n (tickS n s1 k) s2 u') :=
  (cktick H.ck k hu hl hr).mono fun _ _ ⟨he, hc, ho⟩ => ⟨he, H.one hc ho⟩
theorem Both.rtick (H : Both m w0 b rb n s1 s2 u) (k : Int) {t : Nat} (hu : s2.upto t) (hl : t < maxLen) {r : Bool} (hr : canT n s2 k = r) :
    Calls Try.prog 15 #[.pointer (some ⟨rb, 0, none⟩), .int .i64 k] u fun e u' => e = .returned (.bool r) ∧ Hid (Both m w0 b rb n s1 (tickS n s2 k) u') :=
  (rt_tick H.rc H.size k hu hl hr).mono fun _ _ ⟨he, hc⟩ => ⟨he, H.two hc⟩
theorem Both.round (H : Both m w0 b rb n s1 s2 u) {r : Bool} (hr : canR n s1 = r) :
    Calls Try.prog 11 #[.pointer (some ⟨b, 0, none⟩)] u fun e u' => e = .returned (.bool r) ∧ Hid (Both m w0 b rb n (roundS n s1) s2 u') :=
  (ckround H.ck hr).mono fun _ _ ⟨he, hc, ho⟩ => ⟨he, H.one hc ho⟩
theorem Both.rround (H : Both m w0 b rb n s1 s2 u) {r : Bool} (hr : canR n s2 = r) :
    Calls Try.prog 14 #[.pointer (some ⟨rb, 0, none⟩)] u fun e u' => e = .returned (.bool r) ∧ Hid (Both m w0 b rb n s1 (roundS n s2) u') :=
  (rt_round H.rc H.size hr).mono fun _ _ ⟨he, hc⟩ => ⟨he, H.two hc⟩
end

set_option maxRecDepth 100000 in
set_option maxHeartbeats 2000000 in
theorem none_any (n : Int) (a : Option Addr) (len c : Nat) (w : World) (hn : ¬ (1 ≤ n ∧ n ≤ 9)) :
    Calls Try.prog 4 #[.int .i64 n, .slice a len c] w fun e w' => e = .returned (.bool true) ∧ Below w.heap.size w w' := by
  have HN := Lib.hid (fun u => cknew_no n u hn)
  have HM := Lib.hid (fun u => rcnew_no n u hn)
  have HT := Lib.hid (fun u => told10_any u)
  clear hn
  go_enter Try.func4, Try.ntmps4
  go_wp2_with fail
  refine (HN.out _).mono ?_
  rintro e w1 ⟨rfl, rfl⟩
  go_wp2_with fail
  refine (HM.out _).mono ?_
  rintro e w1 ⟨rfl, rfl⟩
  go_wp2_with fail
  refine (HT.out _).mono ?_
  rintro e w1 ⟨rfl, B1⟩
  have HB := Lib.hid B1
  clear B1
  go_wp2
  go_returns
  exact ⟨rfl, HB.out⟩

set_option maxRecDepth 100000 in
set_option maxHeartbeats 8000000 in
theorem some_any (n : Nat) (a : Option Addr) (len c : Nat) (l : List Int) (w : World) (h1 : 0 < n) (h9 : n ≤ 9) (hI : Ints w w.heap.size (.slice a len c) l) :
    Calls Try.prog 4 #[.int .i64 n, .slice a len c] w fun e w' => e = .returned (.bool true) ∧ Below w.heap.size w w' := by
  have HN := Lib.hid (cknew_yes n w h1 h9)
  have HM := Lib.hid (fun u => rcnew_yes n u h1 h9)
  have HT := Lib.hid (fun u => told10_any u)
  obtain ⟨_, _, hv, hcap, hmax, _, hcells⟩ := hI
  cases hv
  obtain ⟨len, hl⟩ : ∃ len, len = l.length := ⟨_, rfl⟩
  obtain ⟨m, hm⟩ : ∃ m, m = w.heap.size := ⟨_, rfl⟩
  rw [← hl] at hcap ⊢
  rw [← hm] at hcells ⊢
  have HL := Lib.hid hl
  have HC := Lib.hid hcells
  have HMM := Lib.hid hm
  have H19 := Lib.hid (And.intro h1 h9)
  clear hcells hl hcap hmax h1 h9
  go_enter Try.func4, Try.ntmps4
  go_wp2_with fail
  refine HN.out.mono ?_
  rintro e w1 ⟨rfl, C1, B1⟩
  rw [← hm] at C1 B1 ⊢
  have HC1 := Lib.hid C1
  have HB1 := Lib.hid B1
  clear C1 B1 HN hm
  go_wp2_with fail
  refine (HM.out _).mono ?_
  rintro e w2 ⟨rb, rfl, ⟨ab, nb, R2⟩, B2⟩
  have HS : Hid (Both m w m rb n .zero .zero w2) := by
    have hs : m ≤ w1.heap.size := by have := HB1.out.size; have := HMM.out; omega
    refine ⟨HC1.out.on B2, ⟨ab, nb, ⟨R2.blk, R2.all, R2.now, R2.n1, ?_, R2.pos, R2.le⟩⟩, HB1.out.trans (B2.mono hs), Nat.le_refl _, Nat.le_of_eq HMM.out⟩
    obtain ⟨l1, l2, l3⟩ := R2.low
    exact ⟨by omega, by omega, by omega⟩
  clear R2 B2 HC1 HB1 HM
  go_wp2_with fail
  go_loopw [8] (fun s8 wr => ∃ (i : Nat) (s : CkS), s8 = .int .i64 i ∧ i ≤ 100 ∧ Hid (s.upto i) ∧ Hid (Both m w m rb n s s wr)) (fun s8 _ => 100 - (intOf s8).toNat)
  case atStart => exact ⟨0, .zero, rfl, Nat.zero_le _, upto_zero, HS.out⟩
  case round =>
    clear HS
    obtain ⟨i, s, rfl, hi, HU, HB⟩ := hrel
    by_cases hlt : i < len ∧ i < 100
    · obtain ⟨hl1, hl2⟩ := hlt
      obtain ⟨xb, off, rfl, hxb, hc⟩ := HC.out (List.length_pos_iff.1 (by have := HL.out; omega))
      have hq := hc i (by have := HL.out; omega)
      clear hc
      generalize l.getD i 0 = x at hq
      have HQ := Lib.hid (fun (u : World) (hu : Below m w u) => (hu.cell (p := ⟨xb, off + i, none⟩) hxb).trans hq)
      have i1 : (i : Int) < (len : Int) := by omega
      have i0 : (0 : Int) ≤ (i : Int) := by omega
      have i2 : (i : Int) < 100 := by omega
      have q0 := HQ.out _ HB.out.bel
      have HLM := Lib.hid (show i < maxLen by unfold maxLen; omega)
      clear hq hxb
      by_cases hx : x < 0
      · obtain ⟨r, hr⟩ : ∃ r, canR n s = r := ⟨_, rfl⟩
        have HR1 := Lib.hid (HB.out.round hr)
        have HR2 := Lib.hid (fun (u : World) (s1 : CkS) (hu : Hid (Both m w m rb n s1 s u)) => hu.out.rround hr)
        have HU' : Hid ((roundS n s).upto (i + 1)) := HU.out.round.mono (by omega)
        generalize roundS n s = s' at *
        clear hr
        go_wp2_with fail
        refine HR1.out.mono ?_
        rintro e w3 ⟨rfl, HY⟩
        go_wp2_with fail
        refine (HR2.out _ _ HY).mono ?_
        rintro e w4 ⟨rfl, HZ⟩
        clear HY HR1 HR2 HQ q0
        go_wp2_with fail
        obtain ⟨wo, hwo⟩ : ∃ wo, wo = w4 := ⟨_, rfl⟩
        subst hwo
        go_loopw [9] (fun s9 wr => ∃ k : Nat, s9 = .int .i64 k ∧ k ≤ n ∧ Hid (Both m w m rb n s' s' wr)) (fun s9 _ => n - (intOf s9).toNat)
        case atStart => exact ⟨0, rfl, Nat.zero_le _, HZ.out⟩
        case round =>
          clear HZ
          obtain ⟨k, rfl, hk, HZ⟩ := hrel
          have n9 := H19.out.2
          by_cases hkn : k < n
          · obtain ⟨ab, nb, hR⟩ := HZ.out.rc
            obtain ⟨c0, c1, _⟩ := hR.cells
            obtain ⟨d0, z0⟩ := hR.all.cell hkn
            have HA := Lib.hid (fun q => (ckat_yes (HZ.out.drewN q).ck k hkn).mono fun e w' ⟨he, hw⟩ => (show e = _ ∧ ∃ q', w' = (wr.drewN q).drewN q' from ⟨he, 0, hw.symm⟩))
            have HZN := Lib.hid (fun q => HZ.out.drewN q)
            generalize s'.f k = fk at d0 HA
            have k1 : (k : Int) < (n : Int) := by omega
            have k0 : (0 : Int) ≤ (k : Int) := by omega
            clear hR c1 z0 HZ
            go_wp2_with fail
            go_quiet (first
              | (go_at_call 10; exact Calls.quiet_of (HA.out _)))
            go_wp2
            go_roundw
            case rel => exact ⟨k + 1, by go_num, by omega, HZN.out _⟩
            case measure => simp [intOf]; omega
          · have k1 : (n : Int) ≤ (k : Int) := by omega
            go_wp2
            go_roundw
            case rel => exact ⟨i + 1, s', by go_num, by omega, HU'.out, HZ.out⟩
            case measure => simp [intOf]; omega
      · have x0 : 0 ≤ x := by omega
        obtain ⟨r, hr⟩ : ∃ r, canT n s x = r := ⟨_, rfl⟩
        have HTa : Hid (∀ u s2, Hid (Both m w m rb n s s2 u) → Calls Try.prog 9 #[.pointer (some ⟨m, 0, none⟩), .int .i64 x] u fun e u' => e = .returned (.bool r) ∧ Hid (Both m w m rb n (tickS n s x) s2 u')) := fun u s2 hu => hu.out.tick x HU.out HLM.out hr
        have HTb : Hid (∀ u s1, Hid (Both m w m rb n s1 s u) → Calls Try.prog 15 #[.pointer (some ⟨rb, 0, none⟩), .int .i64 x] u fun e u' => e = .returned (.bool r) ∧ Hid (Both m w m rb n s1 (tickS n s x) u')) := fun u s1 hu => hu.out.rtick x HU.out HLM.out hr
        have HU' : Hid ((tickS n s x).upto (i + 1)) := HU.out.tick x
        generalize tickS n s x = s' at *
        have HBd := Lib.hid HB.out.drew
        clear hr
        go_wp2_with fail
        go_region_held3 (fun u => u.cell? ⟨xb, off + i, none⟩ = some (.int .i64 x)) (first | assumption | exact HQ.out _ HBd.out.bel)
          (first
            | (go_at_call 9; (with_reducible refine (HTa.out _ _ (by assumption)).mono ?_); rintro e ua ⟨rfl, HY⟩; have qa := HQ.out _ HY.out.bel)
            | (go_at_call 15; (with_reducible refine (HTb.out _ _ (by assumption)).mono ?_); rintro e ub ⟨rfl, HY⟩; have qb := HQ.out _ HY.out.bel))
        have HZ := HY
        rename_i hS _
        clear HTa HTb HQ q0 HBd HB qa qb hS HY
        go_wp2_with fail
        obtain ⟨wo, hwo⟩ : ∃ wo, wo = ub := ⟨_, rfl⟩
        subst hwo
        go_loopw [9] (fun s9 wr => ∃ k : Nat, s9 = .int .i64 k ∧ k ≤ n ∧ Hid (Both m w m rb n s' s' wr)) (fun s9 _ => n - (intOf s9).toNat)
        case atStart => exact ⟨0, rfl, Nat.zero_le _, HZ.out⟩
        case round =>
          clear HZ
          obtain ⟨k, rfl, hk, HZ⟩ := hrel
          have n9 := H19.out.2
          by_cases hkn : k < n
          · obtain ⟨ab, nb, hR⟩ := HZ.out.rc
            obtain ⟨c0, c1, _⟩ := hR.cells
            obtain ⟨d0, z0⟩ := hR.all.cell hkn
            have HA := Lib.hid (fun q => (ckat_yes (HZ.out.drewN q).ck k hkn).mono fun e w' ⟨he, hw⟩ => (show e = _ ∧ ∃ q', w' = (wr.drewN q).drewN q' from ⟨he, 0, hw.symm⟩))
            have HZN := Lib.hid (fun q => HZ.out.drewN q)
            generalize s'.f k = fk at d0 HA
            have k1 : (k : Int) < (n : Int) := by omega
            have k0 : (0 : Int) ≤ (k : Int) := by omega
            clear hR c1 z0 HZ
            go_wp2_with fail
            go_quiet (first
              | (go_at_call 10; exact Calls.quiet_of (HA.out _)))
            go_wp2
            go_roundw
            case rel => exact ⟨k + 1, by go_num, by omega, HZN.out _⟩
            case measure => simp [intOf]; omega
          · have k1 : (n : Int) ≤ (k : Int) := by omega
            go_wp2
            go_roundw
            case rel => exact ⟨i + 1, s', by go_num, by omega, HU'.out, HZ.out⟩
            case measure => simp [intOf]; omega
    · by_cases hl : i < len
      · obtain rfl : i = 100 := by omega
        have i1 : (100 : Int) < (len : Int) := by omega
        clear HC HL HU
        go_wp2_with fail
        refine (HT.out _).mono ?_
        rintro e w3 ⟨rfl, B3⟩
        have H3 := Lib.hid (HB.out.on B3)
        clear B3 HB
        go_wp2_with fail
        refine (ckat_no H3.out.ck (-1) (by omega)).mono ?_
        rintro e w4 ⟨rfl, rfl⟩
        go_wp2_with fail
        refine (ckat_no H3.out.ck (n : Int) (by omega)).mono ?_
        rintro e w4 ⟨rfl, rfl⟩
        go_wp2_with fail
        refine (tick_no H3.out.ck (n : Int) (by omega)).mono ?_
        rintro e w4 ⟨rfl, rfl⟩
        go_wp2_with fail
        refine (tick_no H3.out.ck (-1) (by omega)).mono ?_
        rintro e w4 ⟨rfl, rfl⟩
        go_wp2
        go_returns
        exact ⟨rfl, H3.out.bel⟩

      · have i1 : (len : Int) ≤ (i : Int) := by omega
        clear hlt
        clear HC HL HU
        go_wp2_with fail
        refine (HT.out _).mono ?_
        rintro e w3 ⟨rfl, B3⟩
        have H3 := Lib.hid (HB.out.on B3)
        clear B3 HB
        go_wp2_with fail
        refine (ckat_no H3.out.ck (-1) (by omega)).mono ?_
        rintro e w4 ⟨rfl, rfl⟩
        go_wp2_with fail
        refine (ckat_no H3.out.ck (n : Int) (by omega)).mono ?_
        rintro e w4 ⟨rfl, rfl⟩
        go_wp2_with fail
        refine (tick_no H3.out.ck (n : Int) (by omega)).mono ?_
        rintro e w4 ⟨rfl, rfl⟩
        go_wp2_with fail
        refine (tick_no H3.out.ck (-1) (by omega)).mono ?_
        rintro e w4 ⟨rfl, rfl⟩
        go_wp2
        go_returns
        exact ⟨rfl, H3.out.bel⟩

theorem walk (n : Int) (v : Value) (l : List Int) (w : World) (_ : (Lit.int .i64 n).wf = true) (hI : Ints w w.heap.size v l) :
    Calls Try.prog 4 #[.int .i64 n, v] w fun e w' => e = .returned (.bool true) ∧ Below w.heap.size w w' := by
  obtain ⟨a, c, rfl, _⟩ := id hI
  by_cases h : 1 ≤ n ∧ n ≤ 9
  · obtain ⟨j, rfl⟩ : ∃ j : Nat, n = j := ⟨n.toNat, by omega⟩
    exact some_any j a l.length c l w (by omega) (by omega) hI
  · exact none_any n a l.length c w h

set_option maxRecDepth 100000 in
theorem lifted (os : Os) (started : os.Started) (H : Type) (enc : TypeId × Value → H) :
    ReturnsInHanded {} Try.checked os 4 .any (Rows.clockPlaysSpec.pre6 enc Try.prog Try.f4 Rows.clockPlaysRow.domain false) (Rows.clockPlaysSpec.post enc Try.prog Try.f4 false true false false) := by
  refine returnsInHanded_of_change (C := Try.checked) own started (by kernel_rfl) Try.func4
    (ChangeSpec.witness6 (enc := enc) (C := Try.checked) false ⟨#[], #[.int .i64 0, .slice none 0 0], []⟩ 8 (by kernel_rfl) (by kernel_rfl) (by kernel_rfl) (by kernel_rfl)) ?_
  intro W base args ds gs before hval0 hW hcnd _
  have hval : ∀ (j : Nat) t v, Try.f4.params[j]? = some t → args[j]? = some v → Value.okWide Try.prog W .any base t v := hval0
  have hW' := hW
  obtain ⟨p, q, hA0, hV, rfl, hfz, hnd⟩ := hW
  have hA : DataW.TrodAll enc Try.prog W 0 (fun _ => true) true Try.f4.params.toList args.toList ds p := hA0
  rw [Try.params4] at hA hval
  obtain ⟨v0, vs0, d0, ds0, p0, q0, hargs, rfl, rfl, h0, r0⟩ := trodAll_cons hA
  obtain ⟨v1, vs1, d1, ds1, p1, q1, rfl, rfl, rfl, h1, r1⟩ := trodAll_cons r0
  obtain ⟨rfl, rfl, rfl⟩ := trodAll_nil r1
  obtain rfl : args = #[v0, v1] := by cases args; simp_all
  obtain ⟨rfl, rfl⟩ := trodVars_none hV
  obtain ⟨a0, rfl, rfl, rfl, w0⟩ := open_int Try.underlying3 (hval 0 3 v0 rfl rfl) h0
  obtain ⟨a1, len1, cap1, rfl⟩ := okWide_slice Try.underlying22 (hval 1 22 v1 rfl rfl)
  have k1 := h1
  have lt1 : ∀ x ∈ p1, x.block < W.heap.size := by obtain ⟨m, hm⟩ := k1; exact DataW.trod_lt m _ _ _ hm
  obtain ⟨l1, w1⟩ := cints_open h1
  clear hA0 hval0
  refine (walk a0 (.slice a1 len1 cap1) l1 W w0 w1).mono fun e W' ⟨he, bel⟩ => ?_
  subst he
  exact ⟨_, rfl, _, _, _, [], _, [], hW', trodAll_mk1 (shut_bool Try.underlying4 _), (trodAll_cons_mk (shut_int Try.underlying3 w0) (trodAll_cons_mk (Below.trod laidOut (by kernel_rfl) (of_decide_eq_true (by kernel_rfl)) k1 bel lt1) trodAll_mk0)), rfl, bel.frame _, fun h => by cases h⟩

theorem over : Rows.clockPlaysRow.holds Try.pinned (OpenSpec.ofChange Rows.clockPlaysSpec) :=
  OpenClaim.holds_of_wide 4 Try.f4 rfl rfl rfl rfl rfl rfl rfl ⟨rfl, rfl, rfl, rfl, rfl⟩ rfl rfl rfl rfl rfl (by kernel_rfl) Try.func4 (by kernel_rfl)
    (of_decide_eq_true (by kernel_rfl)) (by unfold Func.isWrapper; first | (rw [if_pos (by decide +kernel)]; kernel_rfl) | (rw [if_neg (by decide +kernel)]; exact ⟨rfl, rfl⟩))
    (fun os started H enc _ => lifted os started H enc)
end Go.Proofs.Ytcfcoepifhijcaa.ClockPlays

namespace Go.Proofs.Ytcfcoepifhijcaa
theorem clockPlays_holds : Rows.ClockPlaysSaid := ClockPlays.over
#print axioms clockPlays_holds
end Go.Proofs.Ytcfcoepifhijcaa
