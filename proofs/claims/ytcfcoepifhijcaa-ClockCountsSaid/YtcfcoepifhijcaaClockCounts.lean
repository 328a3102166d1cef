/-
  PROVED: casebooklaw10.ClockCounts answers true and leaves its arguments as they were, for any number and any ints: the row's own reading and nothing else is assumed.
-/
import Derived.Test.YtcfcoepifhijcaaClockArgs
import Derived.Test.YtcfcoepifhijcaaClockW
import Derived.Test.YtcfcoepifhijcaaClockM
import Derived.Test.YtcfcoepifhijcaaClockR
namespace Go.Proofs.Ytcfcoepifhijcaa.ClockCounts
open Go.ChangeShapes Go.WideShapes Go.ChangeAt Go.RowKit

/-- The program's clocks at b show s1; the rows at ab and nb count s2; what lay below m stands. -/
structure St (m : Nat) (w0 : World) (b ab nb n : Nat) (s1 s2 : CkS) (u : World) : Prop where
  ck : CkA u b n s1
  at_ : RowA u ab n s2.f
  now : RowA u nb n s2.g
  ne : ab ≠ nb
  bel : Below m w0 u
  low : m ≤ b ∧ m ≤ ab ∧ m ≤ nb
  mm : m ≤ w0.heap.size
section
variable {m : Nat} {w0 u u' : World} {b ab nb n : Nat} {s1 s2 s : CkS}
theorem St.size (H : St m w0 b ab nb n s1 s2 u) : m ≤ u.heap.size := Nat.le_trans H.mm H.bel.size
theorem St.on (H : St m w0 b ab nb n s1 s2 u) (hb : Below u.heap.size u u') : St m w0 b ab nb n s1 s2 u' :=
  ⟨H.ck.on hb, H.at_.on hb, H.now.on hb, H.ne, H.bel.trans (hb.mono H.size), H.low, H.mm⟩
theorem St.drewN (H : St m w0 b ab nb n s1 s2 u) (q : Nat) : St m w0 b ab nb n s1 s2 (u.drewN q) :=
  ⟨H.ck.drewN q, H.at_.keep (S := fun _ => False) (.drewN _ _ _) (fun h => h), H.now.keep (S := fun _ => False) (.drewN _ _ _) (fun h => h), H.ne, (Only.drewN (fun _ => False) u q).below H.bel (fun _ h => h.elim) H.size, H.low, H.mm⟩
theorem St.one (H : St m w0 b ab nb n s1 s2 u) (hc : CkA u' b n s) (ho : Only (· = b) u u') : St m w0 b ab nb n s s2 u' :=
  ⟨hc, H.at_.keep ho (H.at_.kind H.ck), H.now.keep ho (H.now.kind H.ck), H.ne, ho.below H.bel (fun _ hx => hx ▸ H.low.1) H.size, H.low, H.mm⟩
theorem St.tick (H : St m w0 b ab nb n s1 s2 u) (k : Int) {t : Nat} (hu : s1.upto t) (hl : t < maxLen) {r : Bool} (hr : canT n s1 k = r) :
    Calls Try.prog 9 #[.pointer (some ⟨b, 0, none⟩), .int .i64 k] u fun e u' => e = .returned (.bool r) ∧ Hid (St m w0 b ab nb n (tickS n s1 k) s2 u') :=
  (cktick H.ck k hu hl hr).mono fun _ _ ⟨he, hc, ho⟩ => ⟨he, H.one hc ho⟩
theorem St.round (H : St m w0 b ab nb n s1 s2 u) {r : Bool} (hr : canR n s1 = r) :
    Calls Try.prog 11 #[.pointer (some ⟨b, 0, none⟩)] u fun e u' => e = .returned (.bool r) ∧ Hid (St m w0 b ab nb n (roundS n s1) s2 u') :=
  (ckround H.ck hr).mono fun _ _ ⟨he, hc, ho⟩ => ⟨he, H.one hc ho⟩
theorem St.setA (H : St m w0 b ab nb n s1 s2 u) (k v : Nat) : St m w0 b ab nb n s1 ⟨upF s2.f k v, s2.g⟩ (u.setCell ⟨ab, k, none⟩ (.int .i64 (v : Nat))) := by
  have ho := Only.set ab k u (.int .i64 (v : Nat))
  exact ⟨H.ck.keep ho (fun e => H.at_.kind H.ck e.symm), H.at_.set k v, H.now.other _ (Ne.symm H.ne), H.ne, ho.below H.bel (fun x hx => hx ▸ H.low.2.1) H.size, H.low, H.mm⟩
theorem St.setN (H : St m w0 b ab nb n s1 s2 u) (k v : Nat) : St m w0 b ab nb n s1 ⟨s2.f, upF s2.g k v⟩ (u.setCell ⟨nb, k, none⟩ (.int .i64 (v : Nat))) := by
  have ho := Only.set nb k u (.int .i64 (v : Nat))
  exact ⟨H.ck.keep ho (fun e => H.now.kind H.ck e.symm), H.at_.other _ H.ne, H.now.set k v, H.ne, ho.below H.bel (fun x hx => hx ▸ H.low.2.2) H.size, H.low, H.mm⟩
theorem St.made (H : St m w0 b ab nb n s1 s2 u) : St m w0 b ab u.heap.size n s1 ⟨s2.f, fun _ => 0⟩ (u.alloc (.cells (madeCells #[Value.int .i64 0] n) 3)) := by
  have hb := (Below.refl u.heap.size u).alloc (Nat.le_refl _) (.cells (madeCells #[Value.int .i64 0] n) 3)
  have h := H.on hb
  exact ⟨h.ck, h.at_, RowA.new u n, by have := H.at_.lt; omega, h.bel, ⟨H.low.1, H.low.2.1, H.size⟩, H.mm⟩
theorem St.start {u : World} (hc : CkA u m n .zero) (hb : Below m w0 u) (hm : m = w0.heap.size) : St m w0 m u.heap.size (u.heap.size + 1) n .zero .zero ((u.alloc (.cells (madeCells #[Value.int .i64 0] n) 3)).alloc (.cells (madeCells #[Value.int .i64 0] n) 3)) := by
  have hs : m ≤ u.heap.size := by have := hb.size; omega
  have h1 := (Below.refl u.heap.size u).alloc (Nat.le_refl _) (.cells (madeCells #[Value.int .i64 0] n) 3)
  have e1 : (u.alloc (.cells (madeCells #[Value.int .i64 0] n) 3)).heap.size = u.heap.size + 1 := by simp
  have h2 := (Below.refl _ (u.alloc (.cells (madeCells #[Value.int .i64 0] n) 3))).alloc (Nat.le_refl _) (.cells (madeCells #[Value.int .i64 0] n) 3)
  refine ⟨(hc.on h1).on h2, (RowA.new u n).on h2, ?_, by omega, (hb.trans (h1.mono hs)).trans (h2.mono (by omega)), ⟨Nat.le_refl _, hs, by omega⟩, Nat.le_of_eq hm⟩
  have := RowA.new (u.alloc (.cells (madeCells #[Value.int .i64 0] n) 3)) n
  rwa [e1] at this
end
theorem all_succ (g : Nat → Nat) (j : Nat) {a : Bool} (h : a = decide (∀ i, i < j → g i ≠ 0)) : (a && decide (g j ≠ 0)) = decide (∀ i, i < j + 1 → g i ≠ 0) := by
  subst h
  rw [← Bool.decide_and]
  refine decide_eq_decide.2 ⟨fun ⟨h1, h2⟩ i hi => ?_, fun h => ⟨fun i hi => h i (by omega), h j (by omega)⟩⟩
  rcases (show i < j ∨ i = j by omega) with hi | rfl
  · exact h1 i hi
  · exact h2
theorem all_can (n : Nat) (s : CkS) : decide (∀ i, i < n → s.g i ≠ 0) = canR n s := by
  unfold canR
  exact decide_eq_decide.2 ⟨fun h ⟨j, hj, h0⟩ => h j hj h0, fun h j hj h0 => h ⟨j, hj, h0⟩⟩

set_option maxRecDepth 100000 in
set_option maxHeartbeats 8000000 in
theorem main (z : Int) (a : Option Addr) (len c : Nat) (l : List Int) (w : World) (hI : Ints w w.heap.size (.slice a len c) l) :
    Calls Try.prog 3 #[.int .i64 z, .slice a len c] w fun e w' => e = .returned (.bool true) ∧ Below w.heap.size w w' := by
  have HT := Lib.hid (fun u => told10_any u)
  obtain ⟨r, hr, er⟩ := left_of z 9 (by decide) (by decide)
  have E1 : Hid (wrap64 ((IntKind.u64.wrap z).tmod 9) = (r : Int)) := er
  clear er
  obtain ⟨n, hn⟩ : ∃ n, n = r + 1 := ⟨_, rfl⟩
  have E2 : Hid (wrap64 (1 + (r : Int)) = (n : Int)) := Lib.hid (by rw [IntWalk.wrap64_in _ (by omega)]; omega)
  have H19 := Lib.hid (show 0 < n ∧ n ≤ 9 from ⟨by omega, by omega⟩)
  have HN := Lib.hid (cknew_yes n w H19.out.1 H19.out.2)
  have hmk := fun u : World => run_make_row' (P := Try.prog) 22 3 (.int .i64 0) 8 Try.underlying22 cinfo_int rfl .i64 .i64 n (by omega) (by omega) u
  have HMK := Lib.hid hmk
  have KU := Lib.hid (show IntKind.u64.wrap (n : Int) = (n : Int) by rw [IntKind.wrap_u64]; omega)
  obtain ⟨_, _, hv, hcap, hmax, _, hcells⟩ := hI
  cases hv
  obtain ⟨len, hl⟩ : ∃ len, len = l.length := ⟨_, rfl⟩
  obtain ⟨m, hm⟩ : ∃ m, m = w.heap.size := ⟨_, rfl⟩
  rw [← hl] at hcap ⊢
  rw [← hm] at hcells ⊢
  have HL := Lib.hid hl
  have HC := Lib.hid hcells
  have HM := Lib.hid hm
  clear hcells hl hcap hmax hr hn hmk
  go_enter Try.func3, Try.ntmps3
  go_wp2_with fail
  rw [E1.out, E2.out]
  clear E1 E2
  refine HN.out.mono ?_
  rintro e w1 ⟨rfl, C1, B1⟩
  rw [← hm] at C1 B1 ⊢
  have S0 := Lib.hid (St.start C1 B1 hm)
  have hmk := HMK.out
  clear C1 B1 HN hm
  go_wp2_with fail
  generalize w1.heap.size = ab at S0 ⊢
  clear hmk
  go_loopw [9, 10] (fun s9 s10 wr => ∃ (i nb : Nat) (s : CkS), s9 = .slice (some ⟨nb, 0, none⟩) n n ∧ s10 = .int .i64 i ∧ i ≤ 100 ∧ Hid (s.upto i) ∧ Hid (St m w m ab nb n s s wr)) (fun _ s10 _ => 100 - (intOf s10).toNat)
  case atStart => exact ⟨0, _, .zero, rfl, rfl, Nat.zero_le _, upto_zero, S0.out⟩
  case round =>
    clear S0
    obtain ⟨i, nb, s, rfl, rfl, hi, HU, HS⟩ := hrel
    by_cases hlt : i < len ∧ i < 100
    · obtain ⟨hl1, hl2⟩ := hlt
      obtain ⟨xb, off, rfl, hxb, hc⟩ := HC.out (List.length_pos_iff.1 (by have := HL.out; omega))
      have hq := hc i (by have := HL.out; omega)
      clear hc
      generalize l.getD i 0 = x at hq
      have q0 := (HS.out.bel.cell (p := ⟨xb, off + i, none⟩) hxb).trans hq
      have i1 : (i : Int) < (len : Int) := by omega
      have i0 : (0 : Int) ≤ (i : Int) := by omega
      have i2 : (i : Int) < 100 := by omega
      have HLM := Lib.hid (show i < maxLen by unfold maxLen; omega)
      obtain ⟨t, ht, et⟩ := left_of x n H19.out.1 (by have := H19.out.2; omega)
      have HET := Lib.hid et
      clear hq hxb et
      have ku := KU.out
      have n0 : ((n : Int) == 0) = false := beq_eq_false_iff_ne.2 (by have := H19.out.1; omega)
      have n1 : (0 : Int) < (n : Int) := by have := H19.out.1; omega
      have n2 : 0 < n := H19.out.1
      have t0 : (0 : Int) ≤ (t : Int) := by omega
      have t1 : (t : Int) < (n : Int) := by omega
      obtain ⟨s', hs'⟩ : ∃ s', s' = tickS n s t := ⟨_, rfl⟩
      have HU' : Hid (s'.upto (i + 1)) := by rw [hs']; exact HU.out.tick t
      by_cases hg : s.g t ≤ 1
      · have HT3 := Lib.hid (HS.out.tick (t : Int) HU.out HLM.out (canT_yes ht hg))
        rw [← hs'] at HT3
        have hf := HU.out t
        have HN3 := Lib.hid (fun (u : World) (hu : Hid (St m w m ab nb n s' s u)) => (hu.out.setA t (s.f t + 1)).setN t (s.g t + 1))
        have e1 : s' = ⟨upF s.f t (s.f t + 1), upF s.g t (s.g t + 1)⟩ := by
          rw [hs']; unfold tickS; rw [if_pos (canT_yes ht hg)]; rfl
        simp only [← e1] at HN3
        have HCA := Lib.hid (fun (u : World) (hu : Hid (St m w m ab nb n s' s u)) => hu.out.at_.cell ht)
        have HCN := Lib.hid (fun (u : World) (hu : Hid (St m w m ab nb n s' s u)) => hu.out.now.cell ht)
        have hne := HS.out.ne
        clear e1 hs'
        generalize s.g t = gt at hg HN3 HCN
        generalize s.f t = ft at hf HN3 HCA
        go_wp2_with fail
        rw [HET.out]
        refine HT3.out.mono ?_
        rintro e w3 ⟨rfl, HS3⟩
        obtain ⟨c1, z1⟩ := HCA.out _ HS3
        obtain ⟨c2, z2⟩ := HCN.out _ HS3
        have g2 : (gt : Int) < 2 := by omega
        have v1 : IntKind.i64.wrap ((ft : Int) + 1) = (ft : Int) + 1 := by rw [IntKind.wrap_i64]; omega
        have v2 : IntKind.i64.wrap ((gt : Int) + 1) = (gt : Int) + 1 := by rw [IntKind.wrap_i64]; omega
        have HZ : Hid (St m w m ab nb n s' s' _) := HN3.out _ HS3
        clear HT3 HN3 HCA HCN HS3 q0 HS
        go_wp2_with fail
        obtain ⟨wo, hwo⟩ : ∃ wo, wo = (w3.setCell ⟨ab, t, none⟩ (.int .i64 ((ft : Int) + 1))).setCell ⟨nb, t, none⟩ (.int .i64 ((gt : Int) + 1)) := ⟨_, rfl⟩
        rw [← hwo]
        have HZ : Hid (St m w m ab nb n s' s' wo) := by rw [hwo]; exact HZ.out
        clear hwo c1 c2 z1 z2 v1 v2 g2 hne hg hf
        go_loopw [13, 14] (fun s13 s14 wr => ∃ (j : Nat) (a : Bool), s13 = .bool a ∧ s14 = .int .i64 j ∧ j ≤ n ∧ Hid (a = decide (∀ i, i < j → s'.g i ≠ 0)) ∧ Hid (St m w m ab nb n s' s' wr)) (fun _ s14 _ => n - (intOf s14).toNat)
        case atStart => exact ⟨0, true, rfl, rfl, Nat.zero_le _, (show _ = _ from (decide_eq_true fun i hi => absurd hi (by omega)).symm), HZ.out⟩
        case round =>
          clear HZ
          obtain ⟨j, a, rfl, rfl, hj, HA, HZ⟩ := hrel
          have n9 := H19.out.2
          by_cases hjn : j < n
          · have HAs := Lib.hid (all_succ s'.g j HA.out)
            obtain ⟨c0, z0⟩ := HZ.out.at_.cell hjn
            obtain ⟨c1, z1⟩ := HZ.out.now.cell hjn
            have HAt := Lib.hid (fun q => (ckat_yes (HZ.out.drewN q).ck j hjn).mono fun e w' ⟨he, hw⟩ => (show e = _ ∧ ∃ q', w' = (wr.drewN q).drewN q' from ⟨he, 0, hw.symm⟩))
            have HZN := Lib.hid (fun q => HZ.out.drewN q)
            generalize s'.f j = fj at c0 HAt
            have j1 : (j : Int) < (n : Int) := by omega
            have j0 : (0 : Int) ≤ (j : Int) := by omega
            clear HZ HA z0 z1
            cases a with
            | false =>
              clear c1
              go_wp2_with fail
              go_quiet (first
                | (go_at_call 10; exact Calls.quiet_of (HAt.out _)))
              go_wp2
              go_roundw
              case rel => exact ⟨j + 1, false, rfl, by go_num, by omega, (show _ = _ from HAs.out), HZN.out _⟩
              case measure => simp [intOf]; omega
            | true =>
              cases hg : s'.g j with
              | zero =>
                rw [hg] at c1 HAs
                clear hg
                go_wp2_with fail
                go_quiet (first
                  | (go_at_call 10; exact Calls.quiet_of (HAt.out _)))
                go_wp2
                go_roundw
                case rel => exact ⟨j + 1, false, by first | rfl | simp, by go_num, by omega, (show _ = _ from HAs.out), HZN.out _⟩
                case measure => simp [intOf]; omega
              | succ y =>
                rw [hg] at c1 HAs
                have y1 : (0 : Int) < ((y + 1 : Nat) : Int) := by omega
                clear hg
                generalize y + 1 = yy at c1 y1
                go_wp2_with fail
                go_quiet (first
                  | (go_at_call 10; exact Calls.quiet_of (HAt.out _)))
                go_wp2
                go_roundw
                case rel => exact ⟨j + 1, true, by first | rfl | (simp; omega), by go_num, by omega, (show _ = _ from HAs.out), HZN.out _⟩
                case measure => simp [intOf]; omega
          · have HAR : Hid (a = canR n s') := by
              have e : j = n := by omega
              subst e
              exact HA.out.trans (all_can j s')
            have j1 : (n : Int) ≤ (j : Int) := by omega
            clear HA
            cases hb : (bits BinOp.and IntKind.i64 (i : Int) 3 == 3) with
            | false =>
              go_wp2
              go_roundw
              case rel => exact ⟨i + 1, nb, s', rfl, by go_num, by omega, HU'.out, HZ.out⟩
              case measure => simp [intOf]; omega
            | true =>
              have HRd := Lib.hid (HZ.out.round HAR.out.symm)
              have HU2 : Hid ((roundS n s').upto (i + 1)) := HU'.out.round
              cases a with
              | false =>
                clear HZ
                go_wp2_with fail
                refine HRd.out.mono ?_
                rintro e w5 ⟨rfl, HS5⟩
                have HZ : Hid (St m w m ab nb n (roundS n s') (roundS n s') w5) := by
                  have e1 : roundS n s' = s' := by unfold roundS; rw [← HAR.out, if_neg (by decide)]
                  have := HS5.out
                  rw [e1] at this ⊢
                  exact this
                clear HRd HS5
                go_wp2
                go_roundw
                case rel => exact ⟨i + 1, nb, _, rfl, by go_num, by omega, HU2.out, HZ.out⟩
                case measure => simp [intOf]; omega
              | true =>
                clear HZ
                go_wp2_with fail
                refine HRd.out.mono ?_
                rintro e w5 ⟨rfl, HS5⟩
                have hmk := HMK.out
                have HZ : Hid (St m w m ab w5.heap.size n (roundS n s') (roundS n s') (w5.alloc (.cells (madeCells #[Value.int .i64 0] n) 3))) := by
                  have e1 : roundS n s' = ⟨s'.f, fun _ => 0⟩ := by unfold roundS; rw [← HAR.out, if_pos rfl]
                  have := HS5.out.made
                  rw [← e1] at this
                  exact this
                clear HRd HS5
                go_wp2
                go_roundw
                case rel => exact ⟨i + 1, _, _, rfl, by go_num, by omega, HU2.out, HZ.out⟩
                case measure => simp [intOf]; omega
      · have HT3 := Lib.hid (HS.out.tick (t : Int) HU.out HLM.out (canT_full (Nat.lt_of_not_le hg)))
        have e0 : s' = s := by rw [hs']; unfold tickS; rw [canT_full (Nat.lt_of_not_le hg), if_neg (by decide)]
        rw [← hs', e0] at HT3
        have HCN := Lib.hid (fun (u : World) (hu : Hid (St m w m ab nb n s s u)) => hu.out.now.cell ht)
        clear hs'
        subst e0
        generalize s'.g t = gt at hg HCN
        go_wp2_with fail
        rw [HET.out]
        refine HT3.out.mono ?_
        rintro e w3 ⟨rfl, HZ⟩
        obtain ⟨c2, z2⟩ := HCN.out _ HZ
        have g2 : (2 : Int) ≤ (gt : Int) := by omega
        clear HT3 HCN q0 HS
        go_wp2_with fail
        obtain ⟨wo, hwo⟩ : ∃ wo, wo = w3 := ⟨_, rfl⟩
        subst hwo
        clear c2 z2 g2 hg
        go_loopw [13, 14] (fun s13 s14 wr => ∃ (j : Nat) (a : Bool), s13 = .bool a ∧ s14 = .int .i64 j ∧ j ≤ n ∧ Hid (a = decide (∀ i, i < j → s'.g i ≠ 0)) ∧ Hid (St m w m ab nb n s' s' wr)) (fun _ s14 _ => n - (intOf s14).toNat)
        case atStart => exact ⟨0, true, rfl, rfl, Nat.zero_le _, (show _ = _ from (decide_eq_true fun i hi => absurd hi (by omega)).symm), HZ.out⟩
        case round =>
          clear HZ
          obtain ⟨j, a, rfl, rfl, hj, HA, HZ⟩ := hrel
          have n9 := H19.out.2
          by_cases hjn : j < n
          · have HAs := Lib.hid (all_succ s'.g j HA.out)
            obtain ⟨c0, z0⟩ := HZ.out.at_.cell hjn
            obtain ⟨c1, z1⟩ := HZ.out.now.cell hjn
            have HAt := Lib.hid (fun q => (ckat_yes (HZ.out.drewN q).ck j hjn).mono fun e w' ⟨he, hw⟩ => (show e = _ ∧ ∃ q', w' = (wr.drewN q).drewN q' from ⟨he, 0, hw.symm⟩))
            have HZN := Lib.hid (fun q => HZ.out.drewN q)
            generalize s'.f j = fj at c0 HAt
            have j1 : (j : Int) < (n : Int) := by omega
            have j0 : (0 : Int) ≤ (j : Int) := by omega
            clear HZ HA z0 z1
            cases a with
            | false =>
              clear c1
              go_wp2_with fail
              go_quiet (first
                | (go_at_call 10; exact Calls.quiet_of (HAt.out _)))
              go_wp2
              go_roundw
              case rel => exact ⟨j + 1, false, rfl, by go_num, by omega, (show _ = _ from HAs.out), HZN.out _⟩
              case measure => simp [intOf]; omega
            | true =>
              cases hg : s'.g j with
              | zero =>
                rw [hg] at c1 HAs
                clear hg
                go_wp2_with fail
                go_quiet (first
                  | (go_at_call 10; exact Calls.quiet_of (HAt.out _)))
                go_wp2
                go_roundw
                case rel => exact ⟨j + 1, false, by first | rfl | simp, by go_num, by omega, (show _ = _ from HAs.out), HZN.out _⟩
                case measure => simp [intOf]; omega
              | succ y =>
                rw [hg] at c1 HAs
                have y1 : (0 : Int) < ((y + 1 : Nat) : Int) := by omega
                clear hg
                generalize y + 1 = yy at c1 y1
                go_wp2_with fail
                go_quiet (first
                  | (go_at_call 10; exact Calls.quiet_of (HAt.out _)))
                go_wp2
                go_roundw
                case rel => exact ⟨j + 1, true, by first | rfl | (simp; omega), by go_num, by omega, (show _ = _ from HAs.out), HZN.out _⟩
                case measure => simp [intOf]; omega
          · have HAR : Hid (a = canR n s') := by
              have e : j = n := by omega
              subst e
              exact HA.out.trans (all_can j s')
            have j1 : (n : Int) ≤ (j : Int) := by omega
            clear HA
            cases hb : (bits BinOp.and IntKind.i64 (i : Int) 3 == 3) with
            | false =>
              go_wp2
              go_roundw
              case rel => exact ⟨i + 1, nb, s', rfl, by go_num, by omega, HU'.out, HZ.out⟩
              case measure => simp [intOf]; omega
            | true =>
              have HRd := Lib.hid (HZ.out.round HAR.out.symm)
              have HU2 : Hid ((roundS n s').upto (i + 1)) := HU'.out.round
              cases a with
              | false =>
                clear HZ
                go_wp2_with fail
                refine HRd.out.mono ?_
                rintro e w5 ⟨rfl, HS5⟩
                have HZ : Hid (St m w m ab nb n (roundS n s') (roundS n s') w5) := by
                  have e1 : roundS n s' = s' := by unfold roundS; rw [← HAR.out, if_neg (by decide)]
                  have := HS5.out
                  rw [e1] at this ⊢
                  exact this
                clear HRd HS5
                go_wp2
                go_roundw
                case rel => exact ⟨i + 1, nb, _, rfl, by go_num, by omega, HU2.out, HZ.out⟩
                case measure => simp [intOf]; omega
              | true =>
                clear HZ
                go_wp2_with fail
                refine HRd.out.mono ?_
                rintro e w5 ⟨rfl, HS5⟩
                have hmk := HMK.out
                have HZ : Hid (St m w m ab w5.heap.size n (roundS n s') (roundS n s') (w5.alloc (.cells (madeCells #[Value.int .i64 0] n) 3))) := by
                  have e1 : roundS n s' = ⟨s'.f, fun _ => 0⟩ := by unfold roundS; rw [← HAR.out, if_pos rfl]
                  have := HS5.out.made
                  rw [← e1] at this
                  exact this
                clear HRd HS5
                go_wp2
                go_roundw
                case rel => exact ⟨i + 1, _, _, rfl, by go_num, by omega, HU2.out, HZ.out⟩
                case measure => simp [intOf]; omega
    · by_cases hl : i < len
      · obtain rfl : i = 100 := by omega
        have i1 : (100 : Int) < (len : Int) := by omega
        clear HC HL HU
        go_wp2_with fail
        refine (HT.out _).mono ?_
        rintro e w3 ⟨rfl, B3⟩
        have H3 := Lib.hid (HS.out.on B3)
        clear B3 HS
        go_wp2
        go_returns
        exact ⟨rfl, H3.out.bel⟩
      · have i1 : (len : Int) ≤ (i : Int) := by omega
        clear hlt HC HL HU
        go_wp2_with fail
        refine (HT.out _).mono ?_
        rintro e w3 ⟨rfl, B3⟩
        have H3 := Lib.hid (HS.out.on B3)
        clear B3 HS
        go_wp2
        go_returns
        exact ⟨rfl, H3.out.bel⟩

theorem walk (n : Int) (v : Value) (l : List Int) (w : World) (_ : (Lit.int .i64 n).wf = true) (hI : Ints w w.heap.size v l) :
    Calls Try.prog 3 #[.int .i64 n, v] w fun e w' => e = .returned (.bool true) ∧ Below w.heap.size w w' := by
  obtain ⟨a, c, rfl, _⟩ := id hI
  exact main n a l.length c l w hI

set_option maxRecDepth 100000 in
theorem lifted (os : Os) (started : os.Started) (H : Type) (enc : TypeId × Value → H) :
    ReturnsInHanded {} Try.checked os 3 .any (Rows.clockCountsSpec.pre6 enc Try.prog Try.f3 Rows.clockCountsRow.domain false) (Rows.clockCountsSpec.post enc Try.prog Try.f3 false true false false) := by
  refine returnsInHanded_of_change (C := Try.checked) own started (by kernel_rfl) Try.func3
    (ChangeSpec.witness6 (enc := enc) (C := Try.checked) false ⟨#[], #[.int .i64 0, .slice none 0 0], []⟩ 8 (by kernel_rfl) (by kernel_rfl) (by kernel_rfl) (by kernel_rfl)) ?_
  intro W base args ds gs before hval0 hW hcnd _
  have hval : ∀ (j : Nat) t v, Try.f3.params[j]? = some t → args[j]? = some v → Value.okWide Try.prog W .any base t v := hval0
  have hW' := hW
  obtain ⟨p, q, hA0, hV, rfl, hfz, hnd⟩ := hW
  have hA : DataW.TrodAll enc Try.prog W 0 (fun _ => true) true Try.f3.params.toList args.toList ds p := hA0
  rw [Try.params3] at hA hval
  obtain ⟨v0, vs0, d0, ds0, p0, q0, hargs, rfl, rfl, h0, r0⟩ := trodAll_cons hA
  obtain ⟨v1, vs1, d1, ds1, p1, q1, rfl, rfl, rfl, h1, r1⟩ := trodAll_cons r0
  obtain ⟨rfl, rfl, rfl⟩ := trodAll_nil r1
  obtain rfl : args = #[v0, v1] := by cases args; simp_all
  obtain ⟨rfl, rfl⟩ := trodVars_none hV
  obtain ⟨a0, rfl, rfl, rfl, w0⟩ := open_int Try.underlying3 (hval 0 3 v0 rfl rfl) h0
  obtain ⟨a1, len1, cap1, rfl⟩ := okWide_slice Try.underlying22 (hval 1 22 v1 rfl rfl)
  have k1 := h1
  have lt1 : ∀ x ∈ p1, x.block < W.heap.size := by obtain ⟨m, hm⟩ := k1; exact DataW.trod_lt m _ _ _ hm
  obtain ⟨l1, w1⟩ := cints_open h1
  clear hA0 hval0
  refine (walk a0 (.slice a1 len1 cap1) l1 W w0 w1).mono fun e W' ⟨he, bel⟩ => ?_
  subst he
  exact ⟨_, rfl, _, _, _, [], _, [], hW', trodAll_mk1 (shut_bool Try.underlying4 _), (trodAll_cons_mk (shut_int Try.underlying3 w0) (trodAll_cons_mk (Below.trod laidOut (by kernel_rfl) (of_decide_eq_true (by kernel_rfl)) k1 bel lt1) trodAll_mk0)), rfl, bel.frame _, fun h => by cases h⟩

theorem over : Rows.clockCountsRow.holds Try.pinned (OpenSpec.ofChange Rows.clockCountsSpec) :=
  OpenClaim.holds_of_wide 3 Try.f3 rfl rfl rfl rfl rfl rfl rfl ⟨rfl, rfl, rfl, rfl, rfl⟩ rfl rfl rfl rfl rfl (by kernel_rfl) Try.func3 (by kernel_rfl)
    (of_decide_eq_true (by kernel_rfl)) (by unfold Func.isWrapper; first | (rw [if_pos (by decide +kernel)]; kernel_rfl) | (rw [if_neg (by decide +kernel)]; exact ⟨rfl, rfl⟩))
    (fun os started H enc _ => lifted os started H enc)
end Go.Proofs.Ytcfcoepifhijcaa.ClockCounts

namespace Go.Proofs.Ytcfcoepifhijcaa
theorem clockCounts_holds : Rows.ClockCountsSaid := ClockCounts.over
#print axioms clockCounts_holds
end Go.Proofs.Ytcfcoepifhijcaa
