/-
  PROVED: casebooklaw13.AcceptPlays answers true and leaves its arguments as they were, for any number of nodes and any steps: the row's own reading and nothing else is assumed.
-/
import Derived.Test.YtaaffceanjpmbaaAccX
import Derived.Test.YtaaffceanjpmbaaAccS
import Derived.Test.YtaaffceanjpmbaaAccF
namespace Go.Proofs.Ytaaffceanjpmbaa.AcceptPlays
open Go.ChangeShapes Go.WideShapes Go.ChangeAt Go.RowKit

set_option maxRecDepth 100000 in
set_option maxHeartbeats 1000000 in
theorem out (a : Int) (h : a < 1 ∨ 5 < a) (ao : Option Addr) (q cap : Nat) (w : World) :
    Calls Try.prog 5 #[.int .i64 a, .slice ao q cap] w fun e w' => e = .returned (.bool true) ∧ Below w.heap.size w w' := by
  have HT := Lib.hid (fun u => told13_any u)
  have HN := Lib.hid (anew_no a h w)
  have HR := Lib.hid (fun u => rhfirst_no a h u)
  clear h
  go_enter Try.func5, Try.ntmps5
  go_wp2_with fail
  refine HN.out.mono ?_
  rintro e w1 ⟨rfl, B1⟩
  have C1 := Lib.hid B1
  clear B1
  go_wp2_with fail
  refine (HR.out _).mono ?_
  rintro e w2 ⟨rfl, B2⟩
  have C2 := Lib.hid (C1.out.trans ((B2.alloc B2.size (.cells #[.int .i64 0, .slice none 0 0] 28)).mono C1.out.size))
  clear B2
  go_wp2_with fail
  refine (HT.out _).mono ?_
  rintro e w3 ⟨rfl, B3⟩
  have C3 := Lib.hid (C2.out.trans (B3.mono C2.out.size))
  clear B3
  go_wp2
  go_returns
  exact ⟨rfl, C3.out⟩

set_option maxRecDepth 100000 in
set_option maxHeartbeats 16000000 in
theorem main (mm : Nat) (hm1 : 1 ≤ mm) (hm5 : mm ≤ 5) (v : Value) (l : List AStepV) (w : World) (hS : ASteps w w.heap.size v l) :
    Calls Try.prog 5 #[.int .i64 mm, v] w fun e w' => e = .returned (.bool true) ∧ Below w.heap.size w w' := by
  have HT := Lib.hid (fun u => told13_any u)
  obtain ⟨ao, cap, rfl, hlm, hfit, hcells⟩ := hS
  obtain ⟨q, hq⟩ : ∃ q, q = l.length := ⟨_, rfl⟩
  obtain ⟨n, hn⟩ : ∃ n, n = w.heap.size := ⟨_, rfl⟩
  have HQL := Lib.hid hq
  have HNN := Lib.hid hn
  rw [← hq, ← hn]
  rw [← hn] at hfit hcells
  have HFIT := Lib.hid hfit
  have HCELLS := Lib.hid hcells
  have HN : Hid (Calls Try.prog 9 #[.int .i64 mm] w fun e w' => ∃ p, e = .returned (.tuple #[.pointer (some ⟨p, 0, none⟩), .int .i64 0]) ∧ Hid (AO n w p (AccV.first mm) w' ∧ Below w.heap.size w w')) := ao_new mm hm1 hm5 (Below.refl _ _) (by omega)
  have HR : Hid (∀ u, Calls Try.prog 18 #[.int .i64 mm] u fun e w' => ∃ a c, e = .returned (.tuple #[.agg #[.int .i64 1, .slice a mm c], .int .i64 0]) ∧ Hid (RowI w' (.slice a mm c) (firstL mm) ∧ Below u.heap.size u w')) := fun u => (rhfirst_in mm hm1 hm5 u).mono fun _ _ ⟨a, c, he, ho, hb⟩ => ⟨a, c, he, RowI.own ho, hb⟩
  clear hq hn hfit hcells hlm
  go_enter Try.func5, Try.ntmps5
  go_wp2_with fail
  refine HN.out.mono ?_
  rintro e w1 ⟨p0, rfl, H1⟩
  go_wp2_with fail
  refine (HR.out _).mono ?_
  rintro e w2 ⟨a2, c2, rfl, H2⟩
  obtain ⟨y2, hy2⟩ : ∃ y, y = w2.alloc (.cells #[.int .i64 1, .slice a2 mm c2] 28) := ⟨_, rfl⟩
  obtain ⟨y3, hy3⟩ : ∃ y, y = y2.alloc (.cells #[.int .i64 mm, .int .i64 1, .slice a2 mm c2, .int .i64 0, .int .i64 0, .int .i64 0, .int .i64 0, .bool false, .int .i64 0, .slice none 0 0] 50) := ⟨_, rfl⟩
  have e2 : Below w2.heap.size w2 y2 := by rw [hy2]; exact (Below.refl _ _).alloc (Nat.le_refl _) _
  have e3 : Below y2.heap.size y2 y3 := by rw [hy3]; exact (Below.refl _ _).alloc (Nat.le_refl _) _
  obtain ⟨X, hX⟩ : ∃ X, X = y2.heap.size := ⟨_, rfl⟩
  have a3 : AO n w p0 (AccV.first mm) y3 := ((H1.out.1.on H2.out.2).on e2).on e3
  have x3 : Acc 50 y3 X (AccV.first mm) := by
    refine ⟨.slice a2 mm c2, .slice none 0 0, ?_, (H2.out.1.on e2).on e3, RowI.none _⟩
    rw [hy3, hX]
    exact heap_alloc_new y2 _
  have A3 : Hid (AX n w p0 X (AccV.first mm) (AccV.first mm) y3) := ⟨a3, x3, by rw [hX]; exact Nat.le_trans (Nat.le_trans H1.out.1.size H2.out.2.size) e2.size, a3.ok⟩
  have HY : Hid (y3 = (w2.alloc (.cells #[.int .i64 1, .slice a2 mm c2] 28)).alloc (.cells #[.int .i64 mm, .int .i64 1, .slice a2 mm c2, .int .i64 0, .int .i64 0, .int .i64 0, .int .i64 0, .bool false, .int .i64 0, .slice none 0 0] 50)) := by show _ = _; rw [hy3, hy2]
  have HX : Hid (X = w2.heap.size + 1) := by show _ = _; rw [hX, hy2]; simp
  clear a3 x3 e2 e3 hX hy3 hy2 HN HR
  go_wp2_with fail
  rw [← HX.out, ← HY.out]
  go_loopw [5, 10] (fun s5 s10 wr => ∃ (i p : Nat) (s : AccV), s5 = .pointer (some ⟨p, 0, none⟩) ∧ s10 = .int .i64 i ∧ i ≤ q ∧ i ≤ 60 ∧ Hid (AX n w p X s s wr) ∧ s.n = mm) (fun _ s10 _ => q - (intOf s10).toNat)
  case atStart => exact ⟨0, p0, AccV.first mm, rfl, rfl, by omega, by omega, A3.out, rfl⟩
  case round =>
    obtain ⟨i, p, s, rfl, rfl, hiq, hi60, HR, hn5⟩ := hrel
    clear A3 HY HX H1 H2
    have i0 : (0 : Int) ≤ (i : Int) := by omega
    by_cases hlt : i < q
    case neg =>
      have hle1 : ¬ ((i : Int) < (q : Int)) := by omega
      go_wp2_with fail
      refine (HT.out _).mono ?_
      rintro e w3 ⟨rfl, B3⟩
      have A4 := Lib.hid (HR.out.on B3)
      clear B3
      go_wp2
      go_returns
      exact ⟨rfl, A4.out.a.bel⟩
    have i1 : (i : Int) < (q : Int) := by omega
    by_cases hlt2 : i < 60
    case neg =>
      have hle2 : ¬ ((i : Int) < 60) := by omega
      go_wp2_with fail
      refine (HT.out _).mono ?_
      rintro e w3 ⟨rfl, B3⟩
      have A4 := Lib.hid (HR.out.on B3)
      clear B3
      go_wp2
      go_returns
      exact ⟨rfl, A4.out.a.bel⟩
    have i2 : (i : Int) < 60 := by omega
    obtain ⟨ab, off, rfl, hab, hc⟩ := HCELLS.out (by intro e; have := HQL.out; rw [e] at this; simp at this; omega)
    have hc1 := (hc i (by have := HQL.out; omega)).keep HR.out.a.bel hab
    have hf1 := HFIT.out _ (List.getElem_mem (show i < l.length by have := HQL.out; omega))
    generalize l[i]'(by have := HQL.out; omega) = o at hc1 hf1
    obtain ⟨kd, ep, r, k, ec, vv, Lo, veto⟩ := o
    obtain ⟨⟨hf2, hf3⟩, hI⟩ := hf1
    dsimp only [AStepV.fits] at hf2 hf3 hI
    obtain ⟨oa, oc, rfl⟩ : ∃ a c, vv = .slice a Lo.length c := by obtain ⟨a, c, h, _⟩ := hI; exact ⟨a, c, h⟩
    obtain ⟨lo, hlo⟩ : ∃ x, x = Lo.length := ⟨_, rfl⟩
    rw [← hlo] at hI hc1
    obtain ⟨d0, d1, d2, d3, d4, d5, d6⟩ := hc1
    dsimp only at d0 d1 d2 d3 d4 d5 d6
    obtain ⟨y1, hy1⟩ : ∃ y, y = wr.alloc (.cells #[.int .i64 kd, .int .i64 ep, .int .i64 r, .int .i64 k, .int .i64 ec, .slice oa lo oc, .bool veto] 52) := ⟨_, rfl⟩
    have e1 : Below wr.heap.size wr y1 := by rw [hy1]; exact (Below.refl _ _).alloc (Nat.le_refl _) _
    have A1 := Lib.hid (HR.out.on e1)
    obtain ⟨qb, hqb⟩ : ∃ b, b = wr.heap.size := ⟨_, rfl⟩
    have o1 : AOpB y1 qb ⟨kd, ep, r, k, ec, .slice oa lo oc, Lo, veto⟩ := by rw [hy1, hqb]; exact AOpB.fresh wr ⟨kd, ep, r, k, ec, .slice oa lo oc, Lo, veto⟩
    have O1 := Lib.hid o1
    have HY1 : Hid (y1 = wr.alloc (.cells #[.int .i64 kd, .int .i64 ep, .int .i64 r, .int .i64 k, .int .i64 ec, .slice oa lo oc, .bool veto] 52)) := hy1
    have HQB := Lib.hid hqb
    obtain ⟨g0, g1, g2, g3, g4, g5, g6⟩ := o1.cells
    rw [hy1, hqb] at g0 g1 g2 g3 g4 g5 g6
    dsimp only at g0 g1 g2 g3 g4 g5 g6
    have HLO := Lib.hid hlo
    clear e1 o1 hy1 hqb hlo hc
    by_cases h8 : (8 : Int) < (lo : Int)
    · go_wp2_with fail
      rw [← HY1.out]
      refine (HT.out _).mono ?_
      rintro e w3 ⟨rfl, B3⟩
      have A4 := Lib.hid (A1.out.on B3)
      clear B3
      go_wp2
      go_returns
      exact ⟨rfl, A4.out.a.bel⟩
    have HF : Hid ((ec ≤ 9223372036854775807 ∧ ep ≤ 9223372036854775807) ∧ Lo.length ≤ 8 ∧ Ints w n (.slice oa lo oc) Lo) := ⟨⟨hf3.2, hf2.2⟩, by have := HLO.out; omega, hI⟩
    clear hf2 hf3 hI
    rw [HQB.out] at O1
    by_cases hk0 : kd = 0
    · subst hk0
      obtain ⟨s', hs'⟩ : ∃ s', prepS s ep r k = s' := ⟨_, rfl⟩
      obtain ⟨err, herr⟩ : ∃ e, prepE s ep r k = e := ⟨_, rfl⟩
      obtain ⟨V, hV⟩ : ∃ V, prepV s ep r k = V := ⟨_, rfl⟩
      have hVl : V.C.length ≤ 1000000 := by
        rw [← hV, prepV]
        split
        · have := (AccV.ok_prep A1.out.a.ok ep r k).len; omega
        · simp [VoteV.zero]
      have hn5' : s'.n = mm := by rw [← hs', prep_n]; exact hn5
      clear hn5
      have hn5 := hn5'
      clear hn5'
      have HP : Hid (∀ u, AX n w p X s s u → Calls Try.prog 10 #[.pointer (some ⟨p, 0, none⟩), .int .i64 ep, .agg #[.int .i64 r, .int .i64 k]] u fun e w' => ∃ a m c, e = .returned (.tuple #[.agg #[.int .i64 V.pr, .int .i64 V.pn, .int .i64 V.ar, .int .i64 V.an, .bool V.has, .int .i64 V.ce, .slice a m c], .int .i64 err]) ∧ Hid (RowI w' (.slice a m c) V.C ∧ AX n w p X s' s w' ∧ KC u w')) := fun u hu => ax_prep hu ep r k hs' hV herr
      have HQ : Hid (∀ u, AX n w p X s' s u → Calls Try.prog 19 #[.pointer (some ⟨X, 0, none⟩), .int .i64 ep, .agg #[.int .i64 r, .int .i64 k]] u fun e w' => ∃ a m c, e = .returned (.tuple #[.agg #[.int .i64 V.pr, .int .i64 V.pn, .int .i64 V.ar, .int .i64 V.an, .bool V.has, .int .i64 V.ce, .slice a m c], .int .i64 err]) ∧ Hid (RowI w' (.slice a m c) V.C ∧ AX n w p X s' s' w' ∧ KC u w')) := fun u hu => ax_rprep hu ep r k HF.out.1.2 hs' hV herr
      have HSV : Hid (∀ u c1 c2, RowI u c1 V.C → RowI u c2 V.C → Calls Try.prog 20 #[.agg #[.int .i64 V.pr, .int .i64 V.pn, .int .i64 V.ar, .int .i64 V.an, .bool V.has, .int .i64 V.ce, c1], .agg #[.int .i64 V.pr, .int .i64 V.pn, .int .i64 V.ar, .int .i64 V.an, .bool V.has, .int .i64 V.ce, c2]] u fun e w' => e = .returned (.bool true) ∧ Below u.heap.size u w') := fun u c1 c2 h1 h2 => rsamevote_r V c1 c2 u.heap.size u h1.ints h2.ints (Nat.le_refl _) hVl
      clear hs' hV herr hVl
      go_wp2_with fail
      rw [← HY1.out]
      refine (HP.out _ A1.out).mono ?_
      rintro e w2 ⟨a2, m2, c2, rfl, H2⟩
      clear g0 g1 g2 g3 g4 g5 g6
      obtain ⟨b2, hb2⟩ : ∃ b, b = w2.heap.size := ⟨_, rfl⟩
      obtain ⟨y2, hy2⟩ : ∃ y, y = w2.alloc (.cells #[.int .i64 V.pr, .int .i64 V.pn, .int .i64 V.ar, .int .i64 V.an, .bool V.has, .int .i64 V.ce, .slice a2 m2 c2] 32) := ⟨_, rfl⟩
      have e2 : Below w2.heap.size w2 y2 := by rw [hy2]; exact (Below.refl _ _).alloc (Nat.le_refl _) _
      have A2 := Lib.hid (H2.out.2.1.on e2)
      have O2 := Lib.hid ((H2.out.2.2.op O1.out).on e2)
      have R2 := Lib.hid (H2.out.1.on e2)
      have v2 : VotB y2 b2 V (.slice a2 m2 c2) := by rw [hy2, hb2]; exact VotB.fresh w2 V _
      have V2 := Lib.hid v2
      have HY2 := Lib.hid hy2
      obtain ⟨g0, g1, g2, g3, g4, g5, g6⟩ := O2.out.cells
      rw [hy2] at g0 g1 g2 g3 g4 g5 g6
      dsimp only at g0 g1 g2 g3 g4 g5 g6
      have HB2 := Lib.hid hb2
      clear e2 v2 hy2 O1 A1 hb2
      go_wp2_with fail
      rw [← HY2.out, ← HB2.out]
      refine (HQ.out _ A2.out).mono ?_
      rintro e w3 ⟨a3, m3, c3, rfl, H3⟩
      clear g0 g1 g2 g3 g4 g5 g6
      obtain ⟨y3, hy3⟩ : ∃ y, y = w3.alloc (.cells #[.int .i64 V.pr, .int .i64 V.pn, .int .i64 V.ar, .int .i64 V.an, .bool V.has, .int .i64 V.ce, .slice a3 m3 c3] 32) := ⟨_, rfl⟩
      have e3 : Below w3.heap.size w3 y3 := by rw [hy3]; exact (Below.refl _ _).alloc (Nat.le_refl _) _
      have A3 := Lib.hid (H3.out.2.1.on e3)
      have R3 := Lib.hid (H3.out.1.on e3)
      have R2b := Lib.hid ((H3.out.2.2.row R2.out).on e3)
      have v3 : VotB y3 w3.heap.size V (.slice a3 m3 c3) := by rw [hy3]; exact VotB.fresh w3 V _
      have vb := (H3.out.2.2.vot V2.out).keep e3 (H3.out.2.2.vot V2.out).lt
      have HY3 := Lib.hid hy3
      obtain ⟨x0, x1, x2, x3, x4, x5, x6⟩ := vb.cells
      obtain ⟨z0, z1, z2, z3, z4, z5, z6⟩ := v3.cells
      rw [hy3] at x0 x1 x2 x3 x4 x5 x6 z0 z1 z2 z3 z4 z5 z6
      have HSV3 := Lib.hid (HSV.out _ _ _ R2b.out R3.out)
      clear e3 v3 vb hy3 A2 O2 R2 V2 HSV HP HQ
      go_wp2_with fail
      rw [← HY3.out]
      refine HSV3.out.mono ?_
      rintro e w4 ⟨rfl, B4⟩
      have A4 := Lib.hid (A3.out.on B4)
      clear B4 x0 x1 x2 x3 x4 x5 x6 z0 z1 z2 z3 z4 z5 z6
      have HSM := Lib.hid (same13_r A4.out.a A4.out.x)
      go_wp2_with fail
      refine HSM.out.mono ?_
      rintro e wz ⟨rfl, bz⟩
      have AZ := Lib.hid (A4.out.on bz)
      clear bz
      go_wp2_with fail
      go_roundw
      case rel => exact ⟨i + 1, p, s', rfl, by go_num, by omega, by omega, AZ.out, hn5⟩
      case measure => simp [intOf]; omega
    · by_cases hk1 : kd = 1
      · subst hk1
        obtain ⟨s', hs'⟩ : ∃ s', accS s ec Lo r k veto = s' := ⟨_, rfl⟩
        obtain ⟨err, herr⟩ : ∃ e, accE s ec Lo r k veto = e := ⟨_, rfl⟩
        have hn5' : s'.n = mm := by rw [← hs', acc_n]; exact hn5
        clear hn5
        have hn5 := hn5'
        clear hn5'
        have HP : Hid (∀ u, AX n w p X s s u → Calls Try.prog 16 #[.pointer (some ⟨p, 0, none⟩), .agg #[.int .i64 ec, .slice oa lo oc], .agg #[.int .i64 r, .int .i64 k], .bool veto] u fun e w' => e = .returned (.int .i64 err) ∧ Hid (AX n w p X s' s w' ∧ KC u w')) := fun u hu => ax_acc hu ec _ Lo n (HF.out.2.2.keep hu.a.bel) hu.a.size (by have := HF.out.2.1; omega) r k veto hs' herr
        have HQ : Hid (∀ u, AX n w p X s' s u → Calls Try.prog 21 #[.pointer (some ⟨X, 0, none⟩), .agg #[.int .i64 ec, .slice oa lo oc], .agg #[.int .i64 r, .int .i64 k], .bool veto] u fun e w' => e = .returned (.int .i64 err) ∧ Hid (AX n w p X s' s' w' ∧ KC u w')) := fun u hu => ax_racc hu ec HF.out.1.1 _ Lo n (HF.out.2.2.keep hu.a.bel) hu.a.size (by have := HF.out.2.1; omega) r k veto hs' herr
        clear hs' herr
        go_wp2_with fail
        rw [← HY1.out]
        clear g0 g1 g2 g3 g4 g5 g6
        refine wp_region_held_drew (S := (fun u => AOpB u wr.heap.size ⟨1, ep, r, k, ec, .slice oa lo oc, Lo, veto⟩)) (by kernel_rfl) (O1.out.on (Below.drew (Below.refl _ _))) (fun hHeld => ?_)
        first
          | (refine held_take 0 116 (v := ?_) rfl rfl (by kernel_rfl) (by kernel_rfl) (by kernel_rfl) (fun _ _ _ h => h) (by assumption) (by rfl) ?_ ?_; rotate_left; (focus (intro w hSw; obtain ⟨hS0, hS1, hS2, hS3, hS4, hS5, hS6⟩ := AOpB.cells hSw; go_simp <;> with_reducible rfl)))
          | refine held_pass 0 116 rfl rfl (by kernel_rfl) (by kernel_rfl) (by kernel_rfl) (fun _ _ _ h => h) (by assumption) (by rfl) ?_
        simp only [Act.put, List.setIfInBounds_toArray, List.set_cons_zero, List.set_cons_succ]
        first
          | (refine held_take 1 117 (v := ?_) rfl rfl (by kernel_rfl) (by kernel_rfl) (by kernel_rfl) (fun _ _ _ h => h) (by assumption) (by rfl) ?_ ?_; rotate_left; (focus (intro w hSw; obtain ⟨hS0, hS1, hS2, hS3, hS4, hS5, hS6⟩ := AOpB.cells hSw; go_simp <;> with_reducible rfl)))
          | refine held_pass 1 117 rfl rfl (by kernel_rfl) (by kernel_rfl) (by kernel_rfl) (fun _ _ _ h => h) (by assumption) (by rfl) ?_
        simp only [Act.put, List.setIfInBounds_toArray, List.set_cons_zero, List.set_cons_succ]
        first
          | (refine held_take 2 118 (v := ?_) rfl rfl (by kernel_rfl) (by kernel_rfl) (by kernel_rfl) (fun _ _ _ h => h) (by assumption) (by rfl) ?_ ?_; rotate_left; (focus (intro w hSw; obtain ⟨hS0, hS1, hS2, hS3, hS4, hS5, hS6⟩ := AOpB.cells hSw; go_simp <;> with_reducible rfl)))
          | refine held_pass 2 118 rfl rfl (by kernel_rfl) (by kernel_rfl) (by kernel_rfl) (fun _ _ _ h => h) (by assumption) (by rfl) ?_
        simp only [Act.put, List.setIfInBounds_toArray, List.set_cons_zero, List.set_cons_succ]
        first
          | (refine held_take 3 119 (v := ?_) rfl rfl (by kernel_rfl) (by kernel_rfl) (by kernel_rfl) (fun _ _ _ h => h) (by assumption) (by rfl) ?_ ?_; rotate_left; (focus (intro w hSw; obtain ⟨hS0, hS1, hS2, hS3, hS4, hS5, hS6⟩ := AOpB.cells hSw; go_simp <;> with_reducible rfl)))
          | refine held_pass 3 119 rfl rfl (by kernel_rfl) (by kernel_rfl) (by kernel_rfl) (fun _ _ _ h => h) (by assumption) (by rfl) ?_
        simp only [Act.put, List.setIfInBounds_toArray, List.set_cons_zero, List.set_cons_succ]
        first
          | (refine held_take 4 120 (v := ?_) rfl rfl (by kernel_rfl) (by kernel_rfl) (by kernel_rfl) (fun _ _ _ h => h) (by assumption) (by rfl) ?_ ?_; rotate_left; (focus (intro w hSw; obtain ⟨hS0, hS1, hS2, hS3, hS4, hS5, hS6⟩ := AOpB.cells hSw; go_simp <;> with_reducible rfl)))
          | refine held_pass 4 120 rfl rfl (by kernel_rfl) (by kernel_rfl) (by kernel_rfl) (fun _ _ _ h => h) (by assumption) (by rfl) ?_
        simp only [Act.put, List.setIfInBounds_toArray, List.set_cons_zero, List.set_cons_succ]
        first
          | (refine held_take 5 121 (v := ?_) rfl rfl (by kernel_rfl) (by kernel_rfl) (by kernel_rfl) (fun _ _ _ h => h) (by assumption) (by rfl) ?_ ?_; rotate_left; (focus (intro w hSw; obtain ⟨hS0, hS1, hS2, hS3, hS4, hS5, hS6⟩ := AOpB.cells hSw; go_simp <;> with_reducible rfl)))
          | refine held_pass 5 121 rfl rfl (by kernel_rfl) (by kernel_rfl) (by kernel_rfl) (fun _ _ _ h => h) (by assumption) (by rfl) ?_
        simp only [Act.put, List.setIfInBounds_toArray, List.set_cons_zero, List.set_cons_succ]
        first
          | (refine held_take 6 122 (v := ?_) rfl rfl (by kernel_rfl) (by kernel_rfl) (by kernel_rfl) (fun _ _ _ h => h) (by assumption) (by rfl) ?_ ?_; rotate_left; (focus (intro w hSw; obtain ⟨hS0, hS1, hS2, hS3, hS4, hS5, hS6⟩ := AOpB.cells hSw; go_simp <;> with_reducible rfl)))
          | refine held_pass 6 122 rfl rfl (by kernel_rfl) (by kernel_rfl) (by kernel_rfl) (fun _ _ _ h => h) (by assumption) (by rfl) ?_
        simp only [Act.put, List.setIfInBounds_toArray, List.set_cons_zero, List.set_cons_succ]
        first
          | (refine held_take 8 124 (v := ?_) rfl rfl (by kernel_rfl) (by kernel_rfl) (by kernel_rfl) (fun _ _ _ h => h) (by assumption) (by rfl) ?_ ?_; rotate_left; (focus (intro w hSw; obtain ⟨hS0, hS1, hS2, hS3, hS4, hS5, hS6⟩ := AOpB.cells hSw; go_simp <;> with_reducible rfl)))
          | refine held_pass 8 124 rfl rfl (by kernel_rfl) (by kernel_rfl) (by kernel_rfl) (fun _ _ _ h => h) (by assumption) (by rfl) ?_
        simp only [Act.put, List.setIfInBounds_toArray, List.set_cons_zero, List.set_cons_succ]
        first
          | (refine held_take 9 125 (v := ?_) rfl rfl (by kernel_rfl) (by kernel_rfl) (by kernel_rfl) (fun _ _ _ h => h) (by assumption) (by rfl) ?_ ?_; rotate_left; (focus (intro w hSw; obtain ⟨hS0, hS1, hS2, hS3, hS4, hS5, hS6⟩ := AOpB.cells hSw; go_simp <;> with_reducible rfl)))
          | refine held_pass 9 125 rfl rfl (by kernel_rfl) (by kernel_rfl) (by kernel_rfl) (fun _ _ _ h => h) (by assumption) (by rfl) ?_
        simp only [Act.put, List.setIfInBounds_toArray, List.set_cons_zero, List.set_cons_succ]
        first
          | (refine held_take 10 126 (v := ?_) rfl rfl (by kernel_rfl) (by kernel_rfl) (by kernel_rfl) (fun _ _ _ h => h) (by assumption) (by rfl) ?_ ?_; rotate_left; (focus (intro w hSw; obtain ⟨hS0, hS1, hS2, hS3, hS4, hS5, hS6⟩ := AOpB.cells hSw; go_simp <;> with_reducible rfl)))
          | refine held_pass 10 126 rfl rfl (by kernel_rfl) (by kernel_rfl) (by kernel_rfl) (fun _ _ _ h => h) (by assumption) (by rfl) ?_
        simp only [Act.put, List.setIfInBounds_toArray, List.set_cons_zero, List.set_cons_succ]
        first
          | (refine held_take 11 127 (v := ?_) rfl rfl (by kernel_rfl) (by kernel_rfl) (by kernel_rfl) (fun _ _ _ h => h) (by assumption) (by rfl) ?_ ?_; rotate_left; (focus (intro w hSw; obtain ⟨hS0, hS1, hS2, hS3, hS4, hS5, hS6⟩ := AOpB.cells hSw; go_simp <;> with_reducible rfl)))
          | refine held_pass 11 127 rfl rfl (by kernel_rfl) (by kernel_rfl) (by kernel_rfl) (fun _ _ _ h => h) (by assumption) (by rfl) ?_
        simp only [Act.put, List.setIfInBounds_toArray, List.set_cons_zero, List.set_cons_succ]
        first
          | (refine held_take 12 128 (v := ?_) rfl rfl (by kernel_rfl) (by kernel_rfl) (by kernel_rfl) (fun _ _ _ h => h) (by assumption) (by rfl) ?_ ?_; rotate_left; (focus (intro w hSw; obtain ⟨hS0, hS1, hS2, hS3, hS4, hS5, hS6⟩ := AOpB.cells hSw; go_simp <;> with_reducible rfl)))
          | refine held_pass 12 128 rfl rfl (by kernel_rfl) (by kernel_rfl) (by kernel_rfl) (fun _ _ _ h => h) (by assumption) (by rfl) ?_
        simp only [Act.put, List.setIfInBounds_toArray, List.set_cons_zero, List.set_cons_succ]
        first
          | (refine held_take 13 129 (v := ?_) rfl rfl (by kernel_rfl) (by kernel_rfl) (by kernel_rfl) (fun _ _ _ h => h) (by assumption) (by rfl) ?_ ?_; rotate_left; (focus (intro w hSw; obtain ⟨hS0, hS1, hS2, hS3, hS4, hS5, hS6⟩ := AOpB.cells hSw; go_simp <;> with_reducible rfl)))
          | refine held_pass 13 129 rfl rfl (by kernel_rfl) (by kernel_rfl) (by kernel_rfl) (fun _ _ _ h => h) (by assumption) (by rfl) ?_
        simp only [Act.put, List.setIfInBounds_toArray, List.set_cons_zero, List.set_cons_succ]
        first
          | (refine held_take 14 130 (v := ?_) rfl rfl (by kernel_rfl) (by kernel_rfl) (by kernel_rfl) (fun _ _ _ h => h) (by assumption) (by rfl) ?_ ?_; rotate_left; (focus (intro w hSw; obtain ⟨hS0, hS1, hS2, hS3, hS4, hS5, hS6⟩ := AOpB.cells hSw; go_simp <;> with_reducible rfl)))
          | refine held_pass 14 130 rfl rfl (by kernel_rfl) (by kernel_rfl) (by kernel_rfl) (fun _ _ _ h => h) (by assumption) (by rfl) ?_
        simp only [Act.put, List.setIfInBounds_toArray, List.set_cons_zero, List.set_cons_succ]
        refine held_call 7 123 rfl rfl (by kernel_rfl) (by rfl) (fun K hK => ?_)
        simp only [Go.wp_at_succ, Go.wp_at_zero]
        go_simp
        refine (HP.out _ (A1.out.on (Below.drew (Below.refl _ _)))).mono ?_
        rintro e w2 ⟨rfl, Hw2⟩
        have A2 := Lib.hid Hw2.out.1
        have O2 := Lib.hid (Hw2.out.2.op (O1.out.on (Below.drew (Below.refl _ _))))
        first | (with_reducible refine hK.out _ _ ?_ (fun hHeld => ?_)) | (go_wp2_with fail; refine hK.out _ _ ?_ (fun hHeld => ?_))
        · exact O2.out
        clear hK K
        try simp only [Act.put, List.setIfInBounds_toArray, List.set_cons_zero, List.set_cons_succ]
        refine held_call 15 131 rfl rfl (by kernel_rfl) (by rfl) (fun K hK => ?_)
        simp only [Go.wp_at_succ, Go.wp_at_zero]
        go_simp
        refine (HQ.out _ A2.out).mono ?_
        rintro e w3 ⟨rfl, Hw3⟩
        have A3 := Lib.hid Hw3.out.1
        have O3 := Lib.hid (Hw3.out.2.op (O2.out))
        first | (with_reducible refine hK.out _ _ ?_ (fun hHeld => ?_)) | (go_wp2_with fail; refine hK.out _ _ ?_ (fun hHeld => ?_))
        · exact O3.out
        clear hK K
        try simp only [Act.put, List.setIfInBounds_toArray, List.set_cons_zero, List.set_cons_succ]
        first
          | (refine held_take 16 132 (v := ?_) rfl rfl (by kernel_rfl) (by kernel_rfl) (by kernel_rfl) (fun _ _ _ h => h) (by assumption) (by rfl) ?_ ?_; rotate_left; (focus (intro w hSw; obtain ⟨hS0, hS1, hS2, hS3, hS4, hS5, hS6⟩ := AOpB.cells hSw; go_simp <;> with_reducible rfl)))
          | refine held_pass 16 132 rfl rfl (by kernel_rfl) (by kernel_rfl) (by kernel_rfl) (fun _ _ _ h => h) (by assumption) (by rfl) ?_
        simp only [Act.put, List.setIfInBounds_toArray, List.set_cons_zero, List.set_cons_succ]
        refine wpAnyH_done (by kernel_rfl) ?_ _
        clear HP HQ
        have HSM := Lib.hid (same13_r A3.out.a A3.out.x)
        go_wp2_with fail
        refine HSM.out.mono ?_
        rintro e wz ⟨rfl, bz⟩
        have AZ := Lib.hid (A3.out.on bz)
        clear bz
        go_wp2_with fail
        go_roundw
        case rel => exact ⟨i + 1, p, s', rfl, by go_num, by omega, by omega, AZ.out, hn5⟩
        case measure => simp [intOf]; omega
      · by_cases hk2 : kd = 2
        · subst hk2
          obtain ⟨s', hs'⟩ : ∃ s', lrnS s ec Lo = s' := ⟨_, rfl⟩
          obtain ⟨err, herr⟩ : ∃ e, lrnE s ec Lo = e := ⟨_, rfl⟩
          have hn5' : s'.n = mm := by rw [← hs', lrn_n]; exact hn5
          clear hn5
          have hn5 := hn5'
          clear hn5'
          have HP : Hid (∀ u, AX n w p X s s u → Calls Try.prog 11 #[.pointer (some ⟨p, 0, none⟩), .agg #[.int .i64 ec, .slice oa lo oc]] u fun e w' => e = .returned (.int .i64 err) ∧ Hid (AX n w p X s' s w' ∧ KC u w')) := fun u hu => ax_lrn hu ec _ Lo n (HF.out.2.2.keep hu.a.bel) hu.a.size (by have := HF.out.2.1; omega) hs' herr
          have HQ : Hid (∀ u, AX n w p X s' s u → Calls Try.prog 22 #[.pointer (some ⟨X, 0, none⟩), .agg #[.int .i64 ec, .slice oa lo oc]] u fun e w' => e = .returned (.int .i64 err) ∧ Hid (AX n w p X s' s' w' ∧ KC u w')) := fun u hu => ax_rlrn hu ec _ Lo n (HF.out.2.2.keep hu.a.bel) hu.a.size (by have := HF.out.2.1; omega) hs' herr
          clear hs' herr
          go_wp2_with fail
          rw [← HY1.out]
          clear g0 g1 g2 g3 g4 g5 g6
          refine wp_region_held_drew (S := (fun u => AOpB u wr.heap.size ⟨2, ep, r, k, ec, .slice oa lo oc, Lo, veto⟩)) (by kernel_rfl) (O1.out.on (Below.drew (Below.refl _ _))) (fun hHeld => ?_)
          first
            | (refine held_take 0 135 (v := ?_) rfl rfl (by kernel_rfl) (by kernel_rfl) (by kernel_rfl) (fun _ _ _ h => h) (by assumption) (by rfl) ?_ ?_; rotate_left; (focus (intro w hSw; obtain ⟨hS0, hS1, hS2, hS3, hS4, hS5, hS6⟩ := AOpB.cells hSw; go_simp <;> with_reducible rfl)))
            | refine held_pass 0 135 rfl rfl (by kernel_rfl) (by kernel_rfl) (by kernel_rfl) (fun _ _ _ h => h) (by assumption) (by rfl) ?_
          simp only [Act.put, List.setIfInBounds_toArray, List.set_cons_zero, List.set_cons_succ]
          first
            | (refine held_take 1 136 (v := ?_) rfl rfl (by kernel_rfl) (by kernel_rfl) (by kernel_rfl) (fun _ _ _ h => h) (by assumption) (by rfl) ?_ ?_; rotate_left; (focus (intro w hSw; obtain ⟨hS0, hS1, hS2, hS3, hS4, hS5, hS6⟩ := AOpB.cells hSw; go_simp <;> with_reducible rfl)))
            | refine held_pass 1 136 rfl rfl (by kernel_rfl) (by kernel_rfl) (by kernel_rfl) (fun _ _ _ h => h) (by assumption) (by rfl) ?_
          simp only [Act.put, List.setIfInBounds_toArray, List.set_cons_zero, List.set_cons_succ]
          first
            | (refine held_take 2 137 (v := ?_) rfl rfl (by kernel_rfl) (by kernel_rfl) (by kernel_rfl) (fun _ _ _ h => h) (by assumption) (by rfl) ?_ ?_; rotate_left; (focus (intro w hSw; obtain ⟨hS0, hS1, hS2, hS3, hS4, hS5, hS6⟩ := AOpB.cells hSw; go_simp <;> with_reducible rfl)))
            | refine held_pass 2 137 rfl rfl (by kernel_rfl) (by kernel_rfl) (by kernel_rfl) (fun _ _ _ h => h) (by assumption) (by rfl) ?_
          simp only [Act.put, List.setIfInBounds_toArray, List.set_cons_zero, List.set_cons_succ]
          first
            | (refine held_take 4 139 (v := ?_) rfl rfl (by kernel_rfl) (by kernel_rfl) (by kernel_rfl) (fun _ _ _ h => h) (by assumption) (by rfl) ?_ ?_; rotate_left; (focus (intro w hSw; obtain ⟨hS0, hS1, hS2, hS3, hS4, hS5, hS6⟩ := AOpB.cells hSw; go_simp <;> with_reducible rfl)))
            | refine held_pass 4 139 rfl rfl (by kernel_rfl) (by kernel_rfl) (by kernel_rfl) (fun _ _ _ h => h) (by assumption) (by rfl) ?_
          simp only [Act.put, List.setIfInBounds_toArray, List.set_cons_zero, List.set_cons_succ]
          first
            | (refine held_take 5 140 (v := ?_) rfl rfl (by kernel_rfl) (by kernel_rfl) (by kernel_rfl) (fun _ _ _ h => h) (by assumption) (by rfl) ?_ ?_; rotate_left; (focus (intro w hSw; obtain ⟨hS0, hS1, hS2, hS3, hS4, hS5, hS6⟩ := AOpB.cells hSw; go_simp <;> with_reducible rfl)))
            | refine held_pass 5 140 rfl rfl (by kernel_rfl) (by kernel_rfl) (by kernel_rfl) (fun _ _ _ h => h) (by assumption) (by rfl) ?_
          simp only [Act.put, List.setIfInBounds_toArray, List.set_cons_zero, List.set_cons_succ]
          first
            | (refine held_take 6 141 (v := ?_) rfl rfl (by kernel_rfl) (by kernel_rfl) (by kernel_rfl) (fun _ _ _ h => h) (by assumption) (by rfl) ?_ ?_; rotate_left; (focus (intro w hSw; obtain ⟨hS0, hS1, hS2, hS3, hS4, hS5, hS6⟩ := AOpB.cells hSw; go_simp <;> with_reducible rfl)))
            | refine held_pass 6 141 rfl rfl (by kernel_rfl) (by kernel_rfl) (by kernel_rfl) (fun _ _ _ h => h) (by assumption) (by rfl) ?_
          simp only [Act.put, List.setIfInBounds_toArray, List.set_cons_zero, List.set_cons_succ]
          refine held_call 3 138 rfl rfl (by kernel_rfl) (by rfl) (fun K hK => ?_)
          simp only [Go.wp_at_succ, Go.wp_at_zero]
          go_simp
          refine (HP.out _ (A1.out.on (Below.drew (Below.refl _ _)))).mono ?_
          rintro e w2 ⟨rfl, Hw2⟩
          have A2 := Lib.hid Hw2.out.1
          have O2 := Lib.hid (Hw2.out.2.op (O1.out.on (Below.drew (Below.refl _ _))))
          first | (with_reducible refine hK.out _ _ ?_ (fun hHeld => ?_)) | (go_wp2_with fail; refine hK.out _ _ ?_ (fun hHeld => ?_))
          · exact O2.out
          clear hK K
          try simp only [Act.put, List.setIfInBounds_toArray, List.set_cons_zero, List.set_cons_succ]
          refine held_call 7 142 rfl rfl (by kernel_rfl) (by rfl) (fun K hK => ?_)
          simp only [Go.wp_at_succ, Go.wp_at_zero]
          go_simp
          refine (HQ.out _ A2.out).mono ?_
          rintro e w3 ⟨rfl, Hw3⟩
          have A3 := Lib.hid Hw3.out.1
          have O3 := Lib.hid (Hw3.out.2.op (O2.out))
          first | (with_reducible refine hK.out _ _ ?_ (fun hHeld => ?_)) | (go_wp2_with fail; refine hK.out _ _ ?_ (fun hHeld => ?_))
          · exact O3.out
          clear hK K
          try simp only [Act.put, List.setIfInBounds_toArray, List.set_cons_zero, List.set_cons_succ]
          first
            | (refine held_take 8 143 (v := ?_) rfl rfl (by kernel_rfl) (by kernel_rfl) (by kernel_rfl) (fun _ _ _ h => h) (by assumption) (by rfl) ?_ ?_; rotate_left; (focus (intro w hSw; obtain ⟨hS0, hS1, hS2, hS3, hS4, hS5, hS6⟩ := AOpB.cells hSw; go_simp <;> with_reducible rfl)))
            | refine held_pass 8 143 rfl rfl (by kernel_rfl) (by kernel_rfl) (by kernel_rfl) (fun _ _ _ h => h) (by assumption) (by rfl) ?_
          simp only [Act.put, List.setIfInBounds_toArray, List.set_cons_zero, List.set_cons_succ]
          refine wpAnyH_done (by kernel_rfl) ?_ _
          clear HP HQ
          have HSM := Lib.hid (same13_r A3.out.a A3.out.x)
          go_wp2_with fail
          refine HSM.out.mono ?_
          rintro e wz ⟨rfl, bz⟩
          have AZ := Lib.hid (A3.out.on bz)
          clear bz
          go_wp2_with fail
          go_roundw
          case rel => exact ⟨i + 1, p, s', rfl, by go_num, by omega, by omega, AZ.out, hn5⟩
          case measure => simp [intOf]; omega
        · have hb0 : (kd == 0) = false := beq_eq_false_iff_ne.2 hk0
          have hb1 : (kd == 1) = false := beq_eq_false_iff_ne.2 hk1
          have hb2 : (kd == 2) = false := beq_eq_false_iff_ne.2 hk2
          clear hk0 hk1 hk2
          have HB : Hid (Calls Try.prog 17 #[.pointer (some ⟨p, 0, none⟩)] y1 fun e w' => ∃ a m c, e = .returned (.slice a m c) ∧ Hid (Byt w' w'.heap.size (.slice a m c) s.bytes ∧ AX n w p X s s w')) := (ao_bytes A1.out.a).mono fun _ _ ⟨a, m, c, he, hh⟩ => ⟨a, m, c, he, hh.out.1, A1.out.on hh.out.2.2⟩
          have HL : Hid (∀ u a m c, AX n w p X s s u → Byt u u.heap.size (.slice a m c) s.bytes → Calls Try.prog 23 #[.int .i64 mm, .slice a m c] u fun e w' => ∃ p2, e = .returned (.tuple #[.pointer (some ⟨p2, 0, none⟩), .int .i64 0]) ∧ Hid (AX n w p2 X s s w')) := fun u a m c hu hb =>
            (aload_in mm hm1 hm5 hu.a.ok hn5 _ _ u hb (Nat.le_refl _)).mono fun _ w' ⟨p2, he, hp2, ha, hbe⟩ => ⟨p2, he, ⟨⟨ha, Nat.le_trans hu.a.size hp2, Nat.le_trans hu.a.size hbe.size, hu.a.bel.trans (hbe.mono hu.a.size), hu.a.ok⟩, hu.x.on hbe, hu.low, hu.ok⟩⟩
          go_wp2_with fail
          rw [← HY1.out]
          refine HB.out.mono ?_
          rintro e w2 ⟨a2, m2, c2, rfl, H2⟩
          clear g0 g1 g2 g3 g4 g5 g6
          go_wp2_with fail
          refine (HL.out _ _ _ _ H2.out.2 H2.out.1).mono ?_
          rintro e w3 ⟨p2, rfl, A3⟩
          clear HB HL
          have HSM := Lib.hid (same13_r A3.out.a A3.out.x)
          go_wp2_with fail
          refine HSM.out.mono ?_
          rintro e wz ⟨rfl, bz⟩
          have AZ := Lib.hid (A3.out.on bz)
          clear bz
          go_wp2_with fail
          go_roundw
          case rel => exact ⟨i + 1, p2, s, rfl, by go_num, by omega, by omega, AZ.out, hn5⟩
          case measure => simp [intOf]; omega

theorem walk (a : Int) (v : Value) (l : List AStepV) (w : World) (_ : (Lit.int .i64 a).wf = true) (hS : ASteps w w.heap.size v l) :
    Calls Try.prog 5 #[.int .i64 a, v] w fun e w' => e = .returned (.bool true) ∧ Below w.heap.size w w' := by
  by_cases h : a < 1 ∨ 5 < a
  · obtain ⟨ao, cap, rfl, _⟩ := hS
    exact out a h ao _ cap w
  · obtain ⟨mm, rfl⟩ : ∃ mm : Nat, a = mm := ⟨a.toNat, by omega⟩
    exact main mm (by omega) (by omega) v l w hS

set_option maxRecDepth 100000 in
theorem lifted (os : Os) (started : os.Started) (H : Type) (enc : TypeId × Value → H) :
    ReturnsInHanded {} Try.checked os 5 .any (Rows.acceptPlaysSpec.pre6 enc Try.prog Try.f5 Rows.acceptPlaysRow.domain false) (Rows.acceptPlaysSpec.post enc Try.prog Try.f5 false true false false) := by
  refine returnsInHanded_of_change (C := Try.checked) own started (by kernel_rfl) Try.func5
    (ChangeSpec.witness6 (enc := enc) (C := Try.checked) false ⟨#[], #[.int .i64 0, .slice none 0 0], []⟩ 8 (by kernel_rfl) (by kernel_rfl) (by kernel_rfl) (by kernel_rfl)) ?_
  intro W base args ds gs before hval0 hW hcnd _
  have hval : ∀ (j : Nat) t v, Try.f5.params[j]? = some t → args[j]? = some v → Value.okWide Try.prog W .any base t v := hval0
  have hW' := hW
  obtain ⟨p, q, hA0, hV, rfl, hfz, hnd⟩ := hW
  have hA : DataW.TrodAll enc Try.prog W 0 (fun _ => true) true Try.f5.params.toList args.toList ds p := hA0
  rw [Try.params5] at hA hval
  obtain ⟨v0, vs0, d0, ds0, p0, q0, hargs, rfl, rfl, h0, r0⟩ := trodAll_cons hA
  obtain ⟨v1, vs1, d1, ds1, p1, q1, rfl, rfl, rfl, h1, r1⟩ := trodAll_cons r0
  obtain ⟨rfl, rfl, rfl⟩ := trodAll_nil r1
  obtain rfl : args = #[v0, v1] := by cases args; simp_all
  obtain ⟨rfl, rfl⟩ := trodVars_none hV
  obtain ⟨a0, rfl, rfl, rfl, w0⟩ := open_int Try.underlying3 (hval 0 3 v0 rfl rfl) h0
  obtain ⟨a1, len1, cap1, rfl⟩ := okWide_slice Try.underlying45 (hval 1 45 v1 rfl rfl)
  have k1 := h1
  have lt1 : ∀ x ∈ p1, x.block < W.heap.size := by obtain ⟨m, hm⟩ := k1; exact DataW.trod_lt m _ _ _ hm
  obtain ⟨l1, w1⟩ := asteps_open h1
  clear hA0 hval0
  refine (walk a0 (.slice a1 len1 cap1) l1 W w0 w1).mono fun e W' ⟨he, bel⟩ => ?_
  subst he
  exact ⟨_, rfl, _, _, _, [], _, [], hW', trodAll_mk1 (shut_bool Try.underlying4 _), (trodAll_cons_mk (shut_int Try.underlying3 w0) (trodAll_cons_mk (Below.trod laidOut (by kernel_rfl) (of_decide_eq_true (by kernel_rfl)) k1 bel lt1) trodAll_mk0)), rfl, bel.frame _, fun h => by cases h⟩

theorem over : Rows.acceptPlaysRow.holds Try.pinned (OpenSpec.ofChange Rows.acceptPlaysSpec) :=
  OpenClaim.holds_of_wide 5 Try.f5 rfl rfl rfl rfl rfl rfl rfl ⟨rfl, rfl, rfl, rfl, rfl⟩ rfl rfl rfl rfl rfl (by kernel_rfl) Try.func5 (by kernel_rfl)
    (of_decide_eq_true (by kernel_rfl)) (by unfold Func.isWrapper; first | (rw [if_pos (by decide +kernel)]; kernel_rfl) | (rw [if_neg (by decide +kernel)]; exact ⟨rfl, rfl⟩))
    (fun os started H enc _ => lifted os started H enc)
end Go.Proofs.Ytaaffceanjpmbaa.AcceptPlays

namespace Go.Proofs.Ytaaffceanjpmbaa
theorem acceptPlays_holds : Rows.AcceptPlaysSaid := AcceptPlays.over
#print axioms acceptPlays_holds
end Go.Proofs.Ytaaffceanjpmbaa
