/-
  PROVED: casebooklaw16.HoldPlays answers true and leaves its arguments as they were, for any number and any steps: the row's own reading and nothing else is assumed.
-/
import Derived.Test.YtomjlhmkmihbeaaOpArgs
import Derived.Test.YtomjlhmkmihbeaaHPh
import Derived.Deep.RegionHeld3
import Derived.Deep.DeepCutAuto
namespace Go.Proofs.Ytomjlhmkmihbeaa.HoldPlays
open Go.ChangeShapes Go.WideShapes Go.ChangeAt Go.RowKit

set_option maxRecDepth 100000 in
set_option maxHeartbeats 2000000 in
theorem no (n : Int) (v : Value) (w : World) (hm : ¬ (1 ≤ n ∧ n ≤ 5)) :
    Calls Try.prog 4 #[.int .i64 n, v] w fun e w' => e = .returned (.bool true) ∧ Below w.heap.size w w' := by
  have HT := Lib.hid (fun u => told16_any u)
  have H1 := Lib.hid (fun u => hdnew_no n u hm)
  by_cases h : n < 1
  · clear hm
    go_enter Try.func4, Try.ntmps4
    go_wp2_with fail
    refine (H1.out _).mono ?_
    rintro e w1 ⟨rfl, rfl⟩
    go_wp2_with fail
    refine (HT.out _).mono ?_
    rintro e w3 ⟨rfl, B3⟩
    have D3 := Lib.hid B3
    clear B3
    go_wp2
    go_returns
    exact ⟨by first | rfl | trivial, D3.out⟩
  · have h9 : 5 < n := by omega
    clear hm
    go_enter Try.func4, Try.ntmps4
    go_wp2_with fail
    refine (H1.out _).mono ?_
    rintro e w1 ⟨rfl, rfl⟩
    go_wp2_with fail
    refine (HT.out _).mono ?_
    rintro e w3 ⟨rfl, B3⟩
    have D3 := Lib.hid B3
    clear B3
    go_wp2
    go_returns
    exact ⟨by first | rfl | trivial, D3.out⟩

/-- What both lease show. -/
structure Bo (m : Nat) (w : World) (p rb N i : Nat) (u : World) : Prop where
  h : ∃ r qs sv L, r ≤ i ∧ Rel r qs L ∧ PH m w p rb N r qs r sv L u

set_option maxRecDepth 100000 in
set_option maxHeartbeats 4000000 in
theorem yes (N : Nat) (a : Option Addr) (len c : Nat) (l : List HStepV) (w : World) (h0 : 0 < N) (h5 : N ≤ 5) (hI : HSteps w w.heap.size (.slice a len c) l) :
    Calls Try.prog 4 #[.int .i64 N, .slice a len c] w fun e w' => e = .returned (.bool true) ∧ Below w.heap.size w w' := by
  have HT := Lib.hid (fun u => told16_any u)
  obtain ⟨_, _, hv, _, hfit, hcells⟩ := hI
  cases hv
  obtain ⟨len, hl⟩ : ∃ len, len = l.length := ⟨_, rfl⟩
  obtain ⟨m, hm⟩ : ∃ m, m = w.heap.size := ⟨_, rfl⟩
  rw [← hl]
  rw [← hm] at hcells ⊢
  have HN : Hid (Calls Try.prog 12 #[.int .i64 N] w fun e w' => ∃ p, e = .returned (.tuple #[.pointer (some ⟨p, 0, none⟩), .int .i64 0]) ∧ Hid (LO m w p N 0 noQ w' ∧ Below w.heap.size w w')) :=
    lo_new N w h0 h5 (Below.refl _ _) (Nat.le_of_eq hm)
  have HF := Lib.hid hfit
  have HL := Lib.hid hl
  have HC := Lib.hid hcells
  have H5 := Lib.hid h5
  have a1 : ¬ (N : Int) < 1 := by omega
  have a5 : ¬ 5 < (N : Int) := by omega
  clear hcells hl hm hfit h0 h5
  go_enter Try.func4, Try.ntmps4
  go_wp2_with fail
  refine HN.out.mono ?_
  rintro e w1 ⟨p, rfl, H1⟩
  clear HN
  have S0 : Hid (Bo m w p w1.heap.size N 0 (w1.alloc (.cells #[.int .i64 N, .int .i64 0, .slice none 0 0] 34))) :=
    ⟨0, noQ, _, [], Nat.le_refl _, rel_zero, H1.out.1.on ((Below.refl _ _).alloc (Nat.le_refl _) _), rh_fresh w1 m N H1.out.1.size⟩
  clear H1
  go_wp2_with fail
  obtain ⟨rb, hrb⟩ : ∃ rb, rb = w1.heap.size := ⟨_, rfl⟩
  obtain ⟨W1, hW1⟩ : ∃ W1, W1 = w1.alloc (.cells #[.int .i64 N, .int .i64 0, .slice none 0 0] 34) := ⟨_, rfl⟩
  rw [← hrb, ← hW1] at S0
  rw [← hrb, ← hW1]
  clear hrb hW1 a1 a5
  go_loopw [8] (fun s8 wr => ∃ i : Nat, s8 = .int .i64 i ∧ i ≤ 80 ∧ Hid (Bo m w p rb N i wr)) (fun s8 _ => 80 - (intOf s8).toNat)
  case atStart => exact ⟨0, rfl, Nat.zero_le _, S0.out⟩
  case round =>
    clear S0
    obtain ⟨i, rfl, hi, HS⟩ := hrel
    by_cases hlt : i < len ∧ i < 80
    · obtain ⟨hl1, hl2⟩ := hlt
      have hkl : i < l.length := by rw [← HL.out]; exact hl1
      obtain ⟨r, qs, sv, L, hri, hrel, hph⟩ := HS.out.h
      obtain ⟨xb, off, rfl, hxb, hc⟩ := HC.out (List.length_pos_iff.1 (Nat.lt_of_le_of_lt (Nat.zero_le i) hkl))
      have hf1 := (HF.out _ (List.getElem_mem hkl)).2.1
      have hco := (hc i hkl).keep hph.lo.bel hxb
      obtain ⟨⟨x0, x1, x2, x3, x4⟩, ho⟩ : ∃ o, o = l[i] := ⟨_, rfl⟩
      rw [← ho] at hco hf1
      obtain ⟨q0, q1, q2, q3, q4⟩ := hco
      dsimp only at q0 q1 q2 q3 q4 hf1
      have HTOP : Hid (Top x1) := ⟨hf1.2⟩
      have i1 : (i : Int) < (len : Int) := by omega
      have i0 : (0 : Int) ≤ (i : Int) := by omega
      have i2 : (i : Int) < 80 := by omega
      obtain ⟨z, hz⟩ : ∃ z : Nums, z = ⟨x0, x1, x2, x3, x4⟩ := ⟨_, rfl⟩
      have HZ : Hid (PS m w p rb N r qs r sv L wr.heap.size ⟨x0, x1, x2, x3, x4⟩ (wr.alloc (.cells #[.int .i64 x0, .int .i64 x1, .int .i64 x2, .int .i64 x3, .int .i64 x4] 36))) := ⟨hph.on ((Below.refl _ _).alloc (Nat.le_refl _) _), heap_alloc_new _ _⟩
      have HREL := Lib.hid hrel
      have HRI := Lib.hid hri
      have r1000 : r ≤ 1000 := by omega
      clear ho hc hf1 hxb hph hrel hri HS hz z hkl
      go_upto_region 11 with fail
      obtain ⟨o, hoo⟩ : ∃ o, o = wr.heap.size := ⟨_, rfl⟩
      obtain ⟨W, hW⟩ : ∃ W, W = wr.alloc (.cells #[.int .i64 x0, .int .i64 x1, .int .i64 x2, .int .i64 x3, .int .i64 x4] 36) := ⟨_, rfl⟩
      rw [← hoo, ← hW] at HZ
      rw [← hoo, ← hW]
      clear hoo hW q0 q1 q2 q3 q4
      have z0 : W.cell? ⟨o, 0, none⟩ = some (.int .i64 x0) := by rw [cell_of_row _ _ _ _ _ _ HZ.out.ob]; rfl
      obtain ⟨z1, z2, z3, z4⟩ := HZ.out.cells
      dsimp only at z1 z2 z3 z4
      clear hi
      by_cases e0 : x0 = 0
      · subst e0
        obtain ⟨V, r9, qs9, L9, hr9, hrel9, HD1, HD2⟩ := ask_both (n0 := m) (w := w) (p := p) (rb := rb) (N := N) (sv := sv) (o := o) r1000 HREL.out ⟨0, x1, x2, x3, x4⟩
        dsimp only at HD1 HD2
        have D1 := Lib.hid HD1
        have D2 := Lib.hid HD2
        clear HD1 HD2
        go_upto_region 15 with fail
        go_region_held3 (fun u => u.cell? ⟨o, 1, none⟩ = some (.int .i64 x1) ∧ u.cell? ⟨o, 2, none⟩ = some (.int .i64 x2)) (first | assumption | go_keep)
          (first
            | (go_at_call 13
               (with_reducible refine (D1.out _ (HZ.out.on (by go_grown))).mono ?_)
               rintro e u4 ⟨rfl, hs1⟩
               have S4 := Lib.hid hs1
               have y1 : u4.cell? ⟨o, 1, none⟩ = some (.int .i64 x1) := hs1.cells.1
               have y2 : u4.cell? ⟨o, 2, none⟩ = some (.int .i64 x2) := hs1.cells.2.1
               clear hs1)
            | (go_at_call 17
               (with_reducible refine (D2.out _ (S4.out.on (by go_grown))).mono ?_)
               rintro e u5 ⟨rfl, sv9, hs2⟩
               have S5 := Lib.hid hs2
               have y3 : u5.cell? ⟨o, 1, none⟩ = some (.int .i64 x1) := hs2.cells.1
               have y4 : u5.cell? ⟨o, 2, none⟩ = some (.int .i64 x2) := hs2.cells.2.1
               clear hs2))
        all_goals
          have SE : Hid (Bo m w p rb N (i + 1) u5) := ⟨r9, qs9, sv9, L9, by have := HRI.out; omega, hrel9, S5.out.b⟩
          clear D1 D2 S4 S5 HZ y1 y2 y3 y4 z0 z1 z2 z3 z4
          go_wp2_with fail
          go_loopw [10] (fun s10 wv => ∃ k : Nat, s10 = .int .i64 k ∧ k ≤ 46 ∧ Hid (Bo m w p rb N (i + 1) wv)) (fun s10 _ => 47 - (intOf s10).toNat)
          case atStart => exact ⟨0, rfl, Nat.zero_le _, SE.out⟩
          case round =>
            clear SE
            obtain ⟨k, rfl, hk, HK⟩ := hrel
            by_cases hk40 : k < 40
            · obtain ⟨r5, qs5, sv5, L5, hr5, hrel5, hp5⟩ := HK.out.h
              obtain ⟨V, HV1, HV2⟩ := valid_both (n0 := m) (w := w) (p := p) (rb := rb) (sv := sv5) (show r5 ≤ 1000 by omega) H5.out hrel5 (k : Int) 1 (toplit (by omega))
              have HV1 := Lib.hid HV1
              have HV2 := Lib.hid HV2
              have HR5 := Lib.hid hr5
              have HL5 := Lib.hid hrel5
              have HP5 := Lib.hid hp5
              have k1 : (k : Int) < 40 := by omega
              clear hr5 hrel5 hp5 hk40 HK
              go_wp2_with fail
              refine (HV1.out _ HP5.out).mono ?_
              rintro e w6 ⟨rfl, B6⟩
              have HP6 := Lib.hid (HP5.out.on B6)
              clear B6 HP5
              go_wp2_with fail
              refine (HV2.out _ HP6.out).mono ?_
              rintro e w7 ⟨rfl, B7⟩
              have HB7 : Hid (Bo m w p rb N (i + 1) w7) := ⟨r5, qs5, sv5, L5, HR5.out, HL5.out, HP6.out.on B7⟩
              clear B7 HP6 HV1 HV2
              cases V
              all_goals
                go_wp2
                go_roundw
                case rel => exact ⟨k + 7, by go_num, by omega, HB7.out⟩
                case measure => simp [intOf]; omega
            · have k1 : ¬ (k : Int) < 40 := by omega
              go_wp2
              go_roundw
              case rel => exact ⟨i + 1, by go_num, by omega, HK.out⟩
              case measure => simp [intOf]; omega
      · have b0 : (x0 == 0) = false := beq_eq_false_iff_ne.2 e0
        clear e0
        by_cases e1 : x0 = 1
        · subst e1
          obtain ⟨V, qs9, HD1, HD2⟩ := tell_both (n0 := m) (w := w) (p := p) (rb := rb) (N := N) (sv := sv) (o := o) r1000 H5.out HREL.out ⟨1, x1, x2, x3, x4⟩
          dsimp only at HD1 HD2
          have D1 := Lib.hid HD1
          have D2 := Lib.hid HD2
          clear HD1 HD2
          go_upto_region 18 with fail
          go_region_held3 (fun u => u.cell? ⟨o, 3, none⟩ = some (.int .i64 x3) ∧ u.cell? ⟨o, 4, none⟩ = some (.int .i64 x4)) (first | assumption | go_keep)
            (first
              | (go_at_call 14
                 (with_reducible refine (D1.out _ (HZ.out.on (by go_grown))).mono ?_)
                 rintro e u4 ⟨rfl, hs1⟩
                 have S4 := Lib.hid hs1
                 have y1 : u4.cell? ⟨o, 3, none⟩ = some (.int .i64 x3) := hs1.cells.2.2.1
                 have y2 : u4.cell? ⟨o, 4, none⟩ = some (.int .i64 x4) := hs1.cells.2.2.2
                 clear hs1)
              | (go_at_call 18
                 (with_reducible refine (D2.out _ (S4.out.on (by go_grown))).mono ?_)
                 rintro e u5 ⟨rfl, L9, hrel9, hs2⟩
                 have S5 := Lib.hid hs2
                 have y3 : u5.cell? ⟨o, 3, none⟩ = some (.int .i64 x3) := hs2.cells.2.2.1
                 have y4 : u5.cell? ⟨o, 4, none⟩ = some (.int .i64 x4) := hs2.cells.2.2.2
                 clear hs2))
          all_goals
            cases V
          all_goals
            have SE : Hid (Bo m w p rb N (i + 1) u5) := ⟨r, qs9, sv, L9, by have := HRI.out; omega, hrel9, S5.out.b⟩
            clear D1 D2 S4 S5 HZ y1 y2 y3 y4 z0 z1 z2 z3 z4
            go_wp2_with fail
            go_loopw [10] (fun s10 wv => ∃ k : Nat, s10 = .int .i64 k ∧ k ≤ 46 ∧ Hid (Bo m w p rb N (i + 1) wv)) (fun s10 _ => 47 - (intOf s10).toNat)
            case atStart => exact ⟨0, rfl, Nat.zero_le _, SE.out⟩
            case round =>
              clear SE
              obtain ⟨k, rfl, hk, HK⟩ := hrel
              by_cases hk40 : k < 40
              · obtain ⟨r5, qs5, sv5, L5, hr5, hrel5, hp5⟩ := HK.out.h
                obtain ⟨V, HV1, HV2⟩ := valid_both (n0 := m) (w := w) (p := p) (rb := rb) (sv := sv5) (show r5 ≤ 1000 by omega) H5.out hrel5 (k : Int) 1 (toplit (by omega))
                have HV1 := Lib.hid HV1
                have HV2 := Lib.hid HV2
                have HR5 := Lib.hid hr5
                have HL5 := Lib.hid hrel5
                have HP5 := Lib.hid hp5
                have k1 : (k : Int) < 40 := by omega
                clear hr5 hrel5 hp5 hk40 HK
                go_wp2_with fail
                refine (HV1.out _ HP5.out).mono ?_
                rintro e w6 ⟨rfl, B6⟩
                have HP6 := Lib.hid (HP5.out.on B6)
                clear B6 HP5
                go_wp2_with fail
                refine (HV2.out _ HP6.out).mono ?_
                rintro e w7 ⟨rfl, B7⟩
                have HB7 : Hid (Bo m w p rb N (i + 1) w7) := ⟨r5, qs5, sv5, L5, HR5.out, HL5.out, HP6.out.on B7⟩
                clear B7 HP6 HV1 HV2
                cases V
                all_goals
                  go_wp2
                  go_roundw
                  case rel => exact ⟨k + 7, by go_num, by omega, HB7.out⟩
                  case measure => simp [intOf]; omega
              · have k1 : ¬ (k : Int) < 40 := by omega
                go_wp2
                go_roundw
                case rel => exact ⟨i + 1, by go_num, by omega, HK.out⟩
                case measure => simp [intOf]; omega
        · have b1 : (x0 == 1) = false := beq_eq_false_iff_ne.2 e1
          clear e1
          by_cases e2 : x0 = 2
          · subst e2
            obtain ⟨V, HE1, HE2⟩ := valid_both (n0 := m) (w := w) (p := p) (rb := rb) (N := N) (sv := sv) r1000 H5.out HREL.out x1 x2 HTOP.out
            have HD1 : ∀ u, PS m w p rb N r qs r sv L o ⟨2, x1, x2, x3, x4⟩ u → Calls Try.prog 16 #[.pointer (some ⟨p, 0, none⟩), .int .i64 x1, .int .i64 x2] u fun e w' => e = .returned (.bool V) ∧ PS m w p rb N r qs r sv L o ⟨2, x1, x2, x3, x4⟩ w' := fun u hu => (HE1 u hu.b).mono fun _ _ ⟨he, hb⟩ => ⟨he, hu.on hb⟩
            have HD2 : ∀ u, PS m w p rb N r qs r sv L o ⟨2, x1, x2, x3, x4⟩ u → Calls Try.prog 19 #[.pointer (some ⟨rb, 0, none⟩), .int .i64 x1, .int .i64 x2] u fun e w' => e = .returned (.bool V) ∧ PS m w p rb N r qs r sv L o ⟨2, x1, x2, x3, x4⟩ w' := fun u hu => (HE2 u hu.b).mono fun _ _ ⟨he, hb⟩ => ⟨he, hu.on hb⟩
            clear HE1 HE2
            have D1 := Lib.hid HD1
            have D2 := Lib.hid HD2
            clear HD1 HD2
            go_upto_region 21 with fail
            go_region_held3 (fun u => u.cell? ⟨o, 1, none⟩ = some (.int .i64 x1) ∧ u.cell? ⟨o, 2, none⟩ = some (.int .i64 x2)) (first | assumption | go_keep)
              (first
                | (go_at_call 16
                   (with_reducible refine (D1.out _ (HZ.out.on (by go_grown))).mono ?_)
                   rintro e u4 ⟨rfl, hs1⟩
                   have S4 := Lib.hid hs1
                   have y1 : u4.cell? ⟨o, 1, none⟩ = some (.int .i64 x1) := hs1.cells.1
                   have y2 : u4.cell? ⟨o, 2, none⟩ = some (.int .i64 x2) := hs1.cells.2.1
                   clear hs1)
                | (go_at_call 19
                   (with_reducible refine (D2.out _ (S4.out.on (by go_grown))).mono ?_)
                   rintro e u5 ⟨rfl, hs2⟩
                   have S5 := Lib.hid hs2
                   have y3 : u5.cell? ⟨o, 1, none⟩ = some (.int .i64 x1) := hs2.cells.1
                   have y4 : u5.cell? ⟨o, 2, none⟩ = some (.int .i64 x2) := hs2.cells.2.1
                   clear hs2))
            all_goals
              cases V
            all_goals
              have SE : Hid (Bo m w p rb N (i + 1) u5) := ⟨r, qs, sv, L, by have := HRI.out; omega, HREL.out, S5.out.b⟩
              clear D1 D2 S4 S5 HZ y1 y2 y3 y4 z0 z1 z2 z3 z4
              go_wp2_with fail
              go_loopw [10] (fun s10 wv => ∃ k : Nat, s10 = .int .i64 k ∧ k ≤ 46 ∧ Hid (Bo m w p rb N (i + 1) wv)) (fun s10 _ => 47 - (intOf s10).toNat)
              case atStart => exact ⟨0, rfl, Nat.zero_le _, SE.out⟩
              case round =>
                clear SE
                obtain ⟨k, rfl, hk, HK⟩ := hrel
                by_cases hk40 : k < 40
                · obtain ⟨r5, qs5, sv5, L5, hr5, hrel5, hp5⟩ := HK.out.h
                  obtain ⟨V, HV1, HV2⟩ := valid_both (n0 := m) (w := w) (p := p) (rb := rb) (sv := sv5) (show r5 ≤ 1000 by omega) H5.out hrel5 (k : Int) 1 (toplit (by omega))
                  have HV1 := Lib.hid HV1
                  have HV2 := Lib.hid HV2
                  have HR5 := Lib.hid hr5
                  have HL5 := Lib.hid hrel5
                  have HP5 := Lib.hid hp5
                  have k1 : (k : Int) < 40 := by omega
                  clear hr5 hrel5 hp5 hk40 HK
                  go_wp2_with fail
                  refine (HV1.out _ HP5.out).mono ?_
                  rintro e w6 ⟨rfl, B6⟩
                  have HP6 := Lib.hid (HP5.out.on B6)
                  clear B6 HP5
                  go_wp2_with fail
                  refine (HV2.out _ HP6.out).mono ?_
                  rintro e w7 ⟨rfl, B7⟩
                  have HB7 : Hid (Bo m w p rb N (i + 1) w7) := ⟨r5, qs5, sv5, L5, HR5.out, HL5.out, HP6.out.on B7⟩
                  clear B7 HP6 HV1 HV2
                  cases V
                  all_goals
                    go_wp2
                    go_roundw
                    case rel => exact ⟨k + 7, by go_num, by omega, HB7.out⟩
                    case measure => simp [intOf]; omega
                · have k1 : ¬ (k : Int) < 40 := by omega
                  go_wp2
                  go_roundw
                  case rel => exact ⟨i + 1, by go_num, by omega, HK.out⟩
                  case measure => simp [intOf]; omega
          · have b2 : (x0 == 2) = false := beq_eq_false_iff_ne.2 e2
            clear e2
            go_wp2_with fail
            refine (HZ.out.b.lose r1000).mono ?_
            rintro e u4 ⟨rfl, S4⟩
            have HS4 := Lib.hid S4
            clear S4
            go_wp2_with fail
            refine (HS4.out.lose2 HREL.out.l4).mono ?_
            rintro e u5 ⟨rfl, S5⟩
            have SE : Hid (Bo m w p rb N (i + 1) u5) := ⟨r, _, sv, _, by have := HRI.out; omega, rel_lost HREL.out, S5⟩
            clear S5 HS4 HZ z0 z1 z2 z3 z4
            go_wp2_with fail
            go_loopw [10] (fun s10 wv => ∃ k : Nat, s10 = .int .i64 k ∧ k ≤ 46 ∧ Hid (Bo m w p rb N (i + 1) wv)) (fun s10 _ => 47 - (intOf s10).toNat)
            case atStart => exact ⟨0, rfl, Nat.zero_le _, SE.out⟩
            case round =>
              clear SE
              obtain ⟨k, rfl, hk, HK⟩ := hrel
              by_cases hk40 : k < 40
              · obtain ⟨r5, qs5, sv5, L5, hr5, hrel5, hp5⟩ := HK.out.h
                obtain ⟨V, HV1, HV2⟩ := valid_both (n0 := m) (w := w) (p := p) (rb := rb) (sv := sv5) (show r5 ≤ 1000 by omega) H5.out hrel5 (k : Int) 1 (toplit (by omega))
                have HV1 := Lib.hid HV1
                have HV2 := Lib.hid HV2
                have HR5 := Lib.hid hr5
                have HL5 := Lib.hid hrel5
                have HP5 := Lib.hid hp5
                have k1 : (k : Int) < 40 := by omega
                clear hr5 hrel5 hp5 hk40 HK
                go_wp2_with fail
                refine (HV1.out _ HP5.out).mono ?_
                rintro e w6 ⟨rfl, B6⟩
                have HP6 := Lib.hid (HP5.out.on B6)
                clear B6 HP5
                go_wp2_with fail
                refine (HV2.out _ HP6.out).mono ?_
                rintro e w7 ⟨rfl, B7⟩
                have HB7 : Hid (Bo m w p rb N (i + 1) w7) := ⟨r5, qs5, sv5, L5, HR5.out, HL5.out, HP6.out.on B7⟩
                clear B7 HP6 HV1 HV2
                cases V
                all_goals
                  go_wp2
                  go_roundw
                  case rel => exact ⟨k + 7, by go_num, by omega, HB7.out⟩
                  case measure => simp [intOf]; omega
              · have k1 : ¬ (k : Int) < 40 := by omega
                go_wp2
                go_roundw
                case rel => exact ⟨i + 1, by go_num, by omega, HK.out⟩
                case measure => simp [intOf]; omega
    · have HE : Hid (∀ u, Below wr.heap.size wr u → Below m w u) := fun u hu => by
        obtain ⟨r, qs, sv, L, _, _, hp⟩ := HS.out.h
        exact (hp.on hu).lo.bel
      by_cases hl1 : i < len
      · have i1 : (i : Int) < (len : Int) := by omega
        have i2 : (80 : Int) ≤ (i : Int) := by omega
        clear hlt
        go_wp2_with fail
        refine (HT.out _).mono ?_
        rintro e w3 ⟨rfl, B3⟩
        have S3 := Lib.hid (HE.out _ B3)
        clear B3 HS
        go_wp2
        go_returns
        exact ⟨by first | rfl | trivial, S3.out⟩
      · have i1 : (len : Int) ≤ (i : Int) := by omega
        clear hlt
        go_wp2_with fail
        refine (HT.out _).mono ?_
        rintro e w3 ⟨rfl, B3⟩
        have S3 := Lib.hid (HE.out _ B3)
        clear B3 HS
        go_wp2
        go_returns
        exact ⟨by first | rfl | trivial, S3.out⟩

theorem walk (n : Int) (v : Value) (l : List HStepV) (w : World) (_ : (Lit.int .i64 n).wf = true) (hI : HSteps w w.heap.size v l) :
    Calls Try.prog 4 #[.int .i64 n, v] w fun e w' => e = .returned (.bool true) ∧ Below w.heap.size w w' := by
  by_cases hm : 1 ≤ n ∧ n ≤ 5
  · obtain ⟨a, c, rfl, _⟩ := id hI
    have h := yes n.toNat a _ c l w (by omega) (by omega) hI
    rwa [show ((n.toNat : Nat) : Int) = n by omega] at h
  · exact no n v w hm

set_option maxRecDepth 100000 in
theorem lifted (os : Os) (started : os.Started) (H : Type) (enc : TypeId × Value → H) :
    ReturnsInHanded {} Try.checked os 4 .any (Rows.holdPlaysSpec.pre6 enc Try.prog Try.f4 Rows.holdPlaysRow.domain false) (Rows.holdPlaysSpec.post enc Try.prog Try.f4 false true false false) := by
  refine returnsInHanded_of_change (C := Try.checked) own started (by kernel_rfl) Try.func4
    (ChangeSpec.witness6 (enc := enc) (C := Try.checked) false ⟨#[], #[.int .i64 0, .slice none 0 0], []⟩ 8 (by kernel_rfl) (by kernel_rfl) (by kernel_rfl) (by kernel_rfl)) ?_
  intro W base args ds gs before hval0 hW hcnd _
  have hval : ∀ (j : Nat) t v, Try.f4.params[j]? = some t → args[j]? = some v → Value.okWide Try.prog W .any base t v := hval0
  have hW' := hW
  obtain ⟨p, q, hA0, hV, rfl, hfz, hnd⟩ := hW
  have hA : DataW.TrodAll enc Try.prog W 0 (fun _ => true) true Try.f4.params.toList args.toList ds p := hA0
  rw [Try.params4] at hA hval
  obtain ⟨v0, vs0, d0, ds0, p0, q0, hargs, rfl, rfl, h0, r0⟩ := trodAll_cons hA
  obtain ⟨v1, vs1, d1, ds1, p1, q1, rfl, rfl, rfl, h1, r1⟩ := trodAll_cons r0
  obtain ⟨rfl, rfl, rfl⟩ := trodAll_nil r1
  obtain rfl : args = #[v0, v1] := by cases args; simp_all
  obtain ⟨rfl, rfl⟩ := trodVars_none hV
  obtain ⟨a0, rfl, rfl, rfl, w0⟩ := open_int Try.underlying3 (hval 0 3 v0 rfl rfl) h0
  obtain ⟨a1, len1, cap1, rfl⟩ := okWide_slice Try.underlying30 (hval 1 30 v1 rfl rfl)
  have k1 := h1
  have lt1 : ∀ x ∈ p1, x.block < W.heap.size := by obtain ⟨m, hm⟩ := k1; exact DataW.trod_lt m _ _ _ hm
  obtain ⟨l1, w1⟩ := hsteps_open h1
  clear hA0 hval0
  refine (walk a0 (.slice a1 len1 cap1) l1 W w0 w1).mono fun e W' ⟨he, bel⟩ => ?_
  subst he
  exact ⟨_, rfl, _, _, _, [], _, [], hW', trodAll_mk1 (shut_bool Try.underlying4 _), (trodAll_cons_mk (shut_int Try.underlying3 w0) (trodAll_cons_mk (Below.trod laidOut (by kernel_rfl) (of_decide_eq_true (by kernel_rfl)) k1 bel lt1) trodAll_mk0)), rfl, bel.frame _, fun h => by cases h⟩

theorem over : Rows.holdPlaysRow.holds Try.pinned (OpenSpec.ofChange Rows.holdPlaysSpec) :=
  OpenClaim.holds_of_wide 4 Try.f4 rfl rfl rfl rfl rfl rfl rfl ⟨rfl, rfl, rfl, rfl, rfl⟩ rfl rfl rfl rfl rfl (by kernel_rfl) Try.func4 (by kernel_rfl)
    (of_decide_eq_true (by kernel_rfl)) (by unfold Func.isWrapper; first | (rw [if_pos (by decide +kernel)]; kernel_rfl) | (rw [if_neg (by decide +kernel)]; exact ⟨rfl, rfl⟩))
    (fun os started H enc _ => lifted os started H enc)
end Go.Proofs.Ytomjlhmkmihbeaa.HoldPlays

namespace Go.Proofs.Ytomjlhmkmihbeaa
theorem holdPlays_holds : Rows.HoldPlaysSaid := HoldPlays.over
#print axioms holdPlays_holds
end Go.Proofs.Ytomjlhmkmihbeaa
