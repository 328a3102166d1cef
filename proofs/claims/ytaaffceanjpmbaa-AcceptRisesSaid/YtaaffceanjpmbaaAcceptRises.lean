/-
  PROVED: casebooklaw13.AcceptRises answers true and leaves its arguments as they were, for any steps: the row's own reading and nothing else is assumed.
-/
import Derived.Test.YtaaffceanjpmbaaAccX
import Derived.Test.YtaaffceanjpmbaaAccS
namespace Go.Proofs.Ytaaffceanjpmbaa.AcceptRises
open Go.ChangeShapes Go.WideShapes Go.ChangeAt Go.RowKit

theorem kc_of {w w' : World} (h : KAc w w') : KC w w' := ⟨h.size, fun b cs T hb h1 _ => h.same b cs T hb h1⟩

set_option maxRecDepth 100000 in
set_option maxHeartbeats 32000000 in
theorem walk (v : Value) (l : List AStepV) (w : World) (hS : ASteps w w.heap.size v l) :
    Calls Try.prog 6 #[v] w fun e w' => e = .returned (.bool true) ∧ Below w.heap.size w w' := by
  have HT := Lib.hid (fun u => told13_any u)
  obtain ⟨ao, cap, rfl, hlm, hfit, hcells⟩ := hS
  obtain ⟨q, hq⟩ : ∃ q, q = l.length := ⟨_, rfl⟩
  obtain ⟨n, hn⟩ : ∃ n, n = w.heap.size := ⟨_, rfl⟩
  have HQL := Lib.hid hq
  have HNN := Lib.hid hn
  rw [← hq, ← hn]
  rw [← hn] at hfit hcells
  have HFIT := Lib.hid hfit
  have HCELLS := Lib.hid hcells
  have HN : Hid (Calls Try.prog 9 #[.int .i64 4] w fun e w' => ∃ p, e = .returned (.tuple #[.pointer (some ⟨p, 0, none⟩), .int .i64 0]) ∧ Hid (AO n w p (AccV.first 4) w' ∧ Below w.heap.size w w')) := ao_new 4 (by decide) (by decide) (Below.refl _ _) (by omega)
  clear hq hn hfit hcells hlm
  go_enter Try.func6, Try.ntmps6
  go_wp2_with fail
  refine HN.out.mono ?_
  rintro e w1 ⟨p, rfl, H1⟩
  go_wp2_with fail
  go_loopw [5] (fun s5 wr => ∃ (i : Nat) (s : AccV), i ≤ q ∧ i ≤ 60 ∧ s5 = .int .i64 i ∧ Hid (AO n w p s wr) ∧ Hid (s.n = 4)) (fun s5 _ => q - (intOf s5).toNat)
  case atStart => exact ⟨0, AccV.first 4, by omega, by omega, rfl, H1.out.1, rfl⟩
  case round =>
    obtain ⟨i, s, hiq, hi60, rfl, HR, HN4⟩ := hrel
    clear H1 HN
    have i0 : (0 : Int) ≤ (i : Int) := by omega
    by_cases hlt : i < q
    case neg =>
      have hle1 : ¬ ((i : Int) < (q : Int)) := by omega
      go_wp2_with fail
      refine (HT.out _).mono ?_
      rintro e w3 ⟨rfl, B3⟩
      have A4 := Lib.hid (HR.out.on B3)
      clear B3
      go_wp2
      go_returns
      exact ⟨rfl, A4.out.bel⟩
    have i1 : (i : Int) < (q : Int) := by omega
    by_cases hlt2 : i < 60
    case neg =>
      have hle2 : ¬ ((i : Int) < 60) := by omega
      go_wp2_with fail
      refine (HT.out _).mono ?_
      rintro e w3 ⟨rfl, B3⟩
      have A4 := Lib.hid (HR.out.on B3)
      clear B3
      go_wp2
      go_returns
      exact ⟨rfl, A4.out.bel⟩
    have i2 : (i : Int) < 60 := by omega
    obtain ⟨ab, off, rfl, hab, hc⟩ := HCELLS.out (by intro e; have := HQL.out; rw [e] at this; simp at this; omega)
    have hc1 := (hc i (by have := HQL.out; omega)).keep HR.out.bel hab
    have hf1 := HFIT.out _ (List.getElem_mem (show i < l.length by have := HQL.out; omega))
    generalize l[i]'(by have := HQL.out; omega) = o at hc1 hf1
    obtain ⟨kd, ep, r, k, ec, ov, Lo, veto⟩ := o
    obtain ⟨_, hI⟩ := hf1
    dsimp only at hI
    obtain ⟨oa, oc, rfl⟩ : ∃ a c, ov = .slice a Lo.length c := by obtain ⟨a, c, h, _⟩ := hI; exact ⟨a, c, h⟩
    obtain ⟨lo, hlo⟩ : ∃ x, x = Lo.length := ⟨_, rfl⟩
    rw [← hlo] at hI hc1
    obtain ⟨d0, d1, d2, d3, d4, d5, d6⟩ := hc1
    dsimp only at d0 d1 d2 d3 d4 d5 d6
    obtain ⟨y1, hy1⟩ : ∃ y, y = wr.alloc (.cells #[.int .i64 kd, .int .i64 ep, .int .i64 r, .int .i64 k, .int .i64 ec, .slice oa lo oc, .bool veto] 52) := ⟨_, rfl⟩
    have e1 : Below wr.heap.size wr y1 := by rw [hy1]; exact (Below.refl _ _).alloc (Nat.le_refl _) _
    have A1 := Lib.hid (HR.out.on e1)
    have o1 : AOpB y1 wr.heap.size ⟨kd, ep, r, k, ec, .slice oa lo oc, Lo, veto⟩ := by rw [hy1]; exact AOpB.fresh wr ⟨kd, ep, r, k, ec, .slice oa lo oc, Lo, veto⟩
    have O1 := Lib.hid o1
    have HY1 : Hid (y1 = wr.alloc (.cells #[.int .i64 kd, .int .i64 ep, .int .i64 r, .int .i64 k, .int .i64 ec, .slice oa lo oc, .bool veto] 52)) := hy1
    obtain ⟨g0, g1, g2, g3, g4, g5, g6⟩ := o1.cells
    rw [hy1] at g0 g1 g2 g3 g4 g5 g6
    dsimp only at g0 g1 g2 g3 g4 g5 g6
    have HLO := Lib.hid hlo
    clear e1 o1 hy1 hlo hc
    by_cases h8 : (8 : Int) < (lo : Int)
    · go_wp2_with fail
      rw [← HY1.out]
      refine (HT.out _).mono ?_
      rintro e w3 ⟨rfl, B3⟩
      have A4 := Lib.hid (A1.out.on B3)
      clear B3
      go_wp2
      go_returns
      exact ⟨rfl, A4.out.bel⟩
    have HF : Hid (Lo.length ≤ 8 ∧ Ints w n (.slice oa lo oc) Lo) := ⟨by have := HLO.out; omega, hI⟩
    have HLEN : Hid (s.K.length ≤ 5 ∧ s.v.C.length ≤ 5) := HR.out.ok.len
    have HKN0 : Hid (∀ u, AO n w p s u → Calls Try.prog 14 #[.pointer (some ⟨p, 0, none⟩)] u fun e w' => ∃ a m c, e = .returned (.agg #[.int .i64 s.ke, .slice a m c]) ∧ Hid (RowI w' (.slice a m c) s.K ∧ AO n w p s w' ∧ Below u.heap.size u w')) := fun u hu => ao_known hu
    have HVT0 : Hid (∀ u, AO n w p s u → Calls Try.prog 12 #[.pointer (some ⟨p, 0, none⟩)] u fun e w' => ∃ a m c, e = .returned (.agg #[.int .i64 s.v.pr, .int .i64 s.v.pn, .int .i64 s.v.ar, .int .i64 s.v.an, .bool s.v.has, .int .i64 s.v.ce, .slice a m c]) ∧ Hid (RowI w' (.slice a m c) s.v.C ∧ AO n w p s w' ∧ Below u.heap.size u w')) := fun u hu => ao_vote hu
    clear hI
    go_wp2_with fail
    rw [← HY1.out]
    refine (HKN0.out _ A1.out).mono ?_
    rintro e w2 ⟨ka, km, kc, rfl, H2⟩
    have O2 := Lib.hid (O1.out.on H2.out.2.2)
    clear g0 g1 g2 g3 g4 g5 g6
    go_wp2_with fail
    refine (HVT0.out _ H2.out.2.1).mono ?_
    rintro e w3 ⟨va, vm, vc, rfl, H3⟩
    have O3 := Lib.hid (O2.out.on H3.out.2.2)
    obtain ⟨y3, hy3⟩ : ∃ y, y = w3.alloc (.cells #[.int .i64 s.ke, .slice ka km kc] 28) := ⟨_, rfl⟩
    obtain ⟨y4, hy4⟩ : ∃ y, y = y3.alloc (.cells #[.int .i64 s.v.pr, .int .i64 s.v.pn, .int .i64 s.v.ar, .int .i64 s.v.an, .bool s.v.has, .int .i64 s.v.ce, .slice va vm vc] 32) := ⟨_, rfl⟩
    have e3 : Below w3.heap.size w3 y3 := by rw [hy3]; exact (Below.refl _ _).alloc (Nat.le_refl _) _
    have e4 : Below y3.heap.size y3 y4 := by rw [hy4]; exact (Below.refl _ _).alloc (Nat.le_refl _) _
    obtain ⟨kb, hkb⟩ : ∃ b, b = w3.heap.size := ⟨_, rfl⟩
    have hs3 : y3.heap.size = kb + 1 := by rw [hy3, hkb]; simp
    have c3 : ChT y3 kb s.ke (.slice ka km kc) := by rw [hy3, hkb]; exact ChT.fresh w3 _ _
    have v4 : VotB y4 (kb + 1) s.v (.slice va vm vc) := by rw [hy4, ← hs3]; exact VotB.fresh y3 s.v _
    have CZ := Lib.hid (c3.keep e4 c3.lt)
    have VZ := Lib.hid v4
    have OZ := Lib.hid ((O3.out.on e3).on e4)
    have AZ := Lib.hid ((H3.out.2.1.on e3).on e4)
    have RKZ := Lib.hid (((H2.out.1.on H3.out.2.2).on e3).on e4)
    have RCZ := Lib.hid ((H3.out.1.on e3).on e4)
    have HY4 : Hid (y4 = (w3.alloc (.cells #[.int .i64 s.ke, .slice ka km kc] 28)).alloc (.cells #[.int .i64 s.v.pr, .int .i64 s.v.pn, .int .i64 s.v.ar, .int .i64 s.v.an, .bool s.v.has, .int .i64 s.v.ce, .slice va vm vc] 32)) := by show _ = _; rw [hy4, hy3]
    have HKB := Lib.hid hkb
    clear e3 e4 c3 v4 hy3 hy4 hs3 hkb HKN0 HVT0 O2 O3
    by_cases hk0 : kd = 0
    · subst hk0
      by_cases h0 : prepE s ep r k = 0
      · have HZ := Lib.hid (prepE_zero h0)
        obtain ⟨ohas, hoh⟩ : ∃ b, s.v.has = b := ⟨_, rfl⟩
        have HOH := Lib.hid hoh
        have e0 := h0
        cases ohas with
        | true =>
          have HP : Hid (∀ u, AO n w p s u → Calls Try.prog 10 #[.pointer (some ⟨p, 0, none⟩), .int .i64 ep, .agg #[.int .i64 r, .int .i64 k]] u fun e w' => ∃ a m c x0 x1 x2 x3 x5 bb, e = .returned (.tuple #[.agg #[.int .i64 x0, .int .i64 x1, .int .i64 x2, .int .i64 x3, .bool bb, .int .i64 x5, .slice a m c], .int .i64 0]) ∧ Hid (AO n w p (⟨s.n, s.ke, s.K, ⟨r, k, s.v.ar, s.v.an, true, s.v.ce, s.v.C⟩⟩ : AccV) w' ∧ KC u w')) := fun u hu => (ao_prep hu ep r k (s' := (⟨s.n, s.ke, s.K, ⟨r, k, s.v.ar, s.v.an, true, s.v.ce, s.v.C⟩⟩ : AccV)) (V := prepV s ep r k) (by rw [prepS, if_pos h0, hoh]) rfl (by exact h0)).mono fun _ _ ⟨a, m, c, he, hh⟩ => ⟨a, m, c, _, _, _, _, _, _, he, hh.out.2.1, kc_of hh.out.2.2⟩
          clear e0 h0 hoh
          obtain ⟨g0, g1, g2, g3, g4, g5, g6⟩ := OZ.out.cells
          dsimp only at g0 g1 g2 g3 g4 g5 g6
          rw [HY4.out] at g0 g1 g2 g3 g4 g5 g6
          go_wp2_with fail
          rw [← HKB.out, ← HY4.out]
          refine (HP.out _ AZ.out).mono ?_
          rintro e w5 ⟨a5, m5, c5, t0, t1, t2, t3, t5, tb, rfl, H5⟩
          clear g0 g1 g2 g3 g4 g5 g6
          have C5 := Lib.hid (H5.out.2.ch CZ.out)
          have V5 := Lib.hid (H5.out.2.vot VZ.out)
          have RK5 := Lib.hid (H5.out.2.row RKZ.out)
          have RC5 := Lib.hid (H5.out.2.row RCZ.out)
          clear HP
          have HKN : Hid (∀ u, AO n w p (⟨s.n, s.ke, s.K, ⟨r, k, s.v.ar, s.v.an, true, s.v.ce, s.v.C⟩⟩ : AccV) u → Calls Try.prog 14 #[.pointer (some ⟨p, 0, none⟩)] u fun e w' => ∃ a m c, e = .returned (.agg #[.int .i64 s.ke, .slice a m c]) ∧ Hid (RowI w' (.slice a m c) s.K ∧ AO n w p (⟨s.n, s.ke, s.K, ⟨r, k, s.v.ar, s.v.an, true, s.v.ce, s.v.C⟩⟩ : AccV) w' ∧ Below u.heap.size u w')) := fun u hu => ao_known hu
          have HVT : Hid (∀ u, AO n w p (⟨s.n, s.ke, s.K, ⟨r, k, s.v.ar, s.v.an, true, s.v.ce, s.v.C⟩⟩ : AccV) u → Calls Try.prog 12 #[.pointer (some ⟨p, 0, none⟩)] u fun e w' => ∃ a m c, e = .returned (.agg #[.int .i64 r, .int .i64 k, .int .i64 s.v.ar, .int .i64 s.v.an, .bool true, .int .i64 s.v.ce, .slice a m c]) ∧ Hid (RowI w' (.slice a m c) s.v.C ∧ AO n w p (⟨s.n, s.ke, s.K, ⟨r, k, s.v.ar, s.v.an, true, s.v.ce, s.v.C⟩⟩ : AccV) w' ∧ Below u.heap.size u w')) := fun u hu => ao_vote hu
          go_wp2_with fail
          refine (HKN.out _ H5.out.1).mono ?_
          rintro e w6 ⟨a6, m6, c6, rfl, H6⟩
          go_wp2_with fail
          refine (HVT.out _ H6.out.2.1).mono ?_
          rintro e w7 ⟨a7, m7, c7, rfl, H7⟩
          obtain ⟨y8, hy8⟩ : ∃ y, y = w7.alloc (.cells #[.int .i64 s.ke, .slice a6 m6 c6] 28) := ⟨_, rfl⟩
          obtain ⟨y9, hy9⟩ : ∃ y, y = y8.alloc (.cells #[.int .i64 r, .int .i64 k, .int .i64 s.v.ar, .int .i64 s.v.an, .bool true, .int .i64 s.v.ce, .slice a7 m7 c7] 32) := ⟨_, rfl⟩
          have e8 : Below w7.heap.size w7 y8 := by rw [hy8]; exact (Below.refl _ _).alloc (Nat.le_refl _) _
          have e9 : Below y8.heap.size y8 y9 := by rw [hy9]; exact (Below.refl _ _).alloc (Nat.le_refl _) _
          have e57 : Below w5.heap.size w5 y9 := H6.out.2.2.trans (((H7.out.2.2.trans ((e8.trans (e9.mono e8.size)).mono H7.out.2.2.size))).mono H6.out.2.2.size)
          have hs8 : y8.heap.size = w7.heap.size + 1 := by rw [hy8]; simp
          have c8 : ChT y8 w7.heap.size s.ke (.slice a6 m6 c6) := by rw [hy8]; exact ChT.fresh w7 _ _
          have v9 : VotB y9 (w7.heap.size + 1) (⟨r, k, s.v.ar, s.v.an, true, s.v.ce, s.v.C⟩ : VoteV) (.slice a7 m7 c7) := by rw [hy9, ← hs8]; exact VotB.fresh y8 (⟨r, k, s.v.ar, s.v.an, true, s.v.ce, s.v.C⟩ : VoteV) _
          have C9 := Lib.hid (c8.keep e9 c8.lt)
          have V9 := Lib.hid v9
          have A9 := Lib.hid ((H7.out.2.1.on e8).on e9)
          have RM := Lib.hid (((H6.out.1.on H7.out.2.2).on e8).on e9)
          have RW := Lib.hid ((H7.out.1.on e8).on e9)
          have CK := Lib.hid (C5.out.keep e57 C5.out.lt)
          have VK := Lib.hid (V5.out.keep e57 V5.out.lt)
          have RK9 := Lib.hid (RK5.out.on e57)
          have RC9 := Lib.hid (RC5.out.on e57)
          have HY9 : Hid (y9 = (w7.alloc (.cells #[.int .i64 s.ke, .slice a6 m6 c6] 28)).alloc (.cells #[.int .i64 r, .int .i64 k, .int .i64 s.v.ar, .int .i64 s.v.an, .bool true, .int .i64 s.v.ce, .slice a7 m7 c7] 32)) := by show _ = _; rw [hy9, hy8]
          have FX : Hid (∀ u, Below y9.heap.size y9 u → ((u.cell? ⟨kb, 0, none⟩ = some (.int .i64 s.ke) ∧ u.cell? ⟨kb, 1, none⟩ = some (.slice ka km kc)) ∧ (u.cell? ⟨kb + 1, 0, none⟩ = some (.int .i64 s.v.pr) ∧ u.cell? ⟨kb + 1, 1, none⟩ = some (.int .i64 s.v.pn) ∧ u.cell? ⟨kb + 1, 2, none⟩ = some (.int .i64 s.v.ar) ∧ u.cell? ⟨kb + 1, 3, none⟩ = some (.int .i64 s.v.an) ∧ u.cell? ⟨kb + 1, 4, none⟩ = some (.bool true) ∧ u.cell? ⟨kb + 1, 5, none⟩ = some (.int .i64 s.v.ce) ∧ u.cell? ⟨kb + 1, 6, none⟩ = some (.slice va vm vc))) ∧ (u.cell? ⟨w7.heap.size, 0, none⟩ = some (.int .i64 s.ke) ∧ u.cell? ⟨w7.heap.size, 1, none⟩ = some (.slice a6 m6 c6)) ∧ (u.cell? ⟨w7.heap.size + 1, 0, none⟩ = some (.int .i64 r) ∧ u.cell? ⟨w7.heap.size + 1, 1, none⟩ = some (.int .i64 k) ∧ u.cell? ⟨w7.heap.size + 1, 2, none⟩ = some (.int .i64 s.v.ar) ∧ u.cell? ⟨w7.heap.size + 1, 3, none⟩ = some (.int .i64 s.v.an) ∧ u.cell? ⟨w7.heap.size + 1, 4, none⟩ = some (.bool true) ∧ u.cell? ⟨w7.heap.size + 1, 5, none⟩ = some (.int .i64 s.v.ce) ∧ u.cell? ⟨w7.heap.size + 1, 6, none⟩ = some (.slice a7 m7 c7))) := fun u hu => by
            have q1 := (CK.out.keep hu CK.out.lt).cells
            have q2 := (VK.out.keep hu VK.out.lt).cells
            have q3 := (C9.out.keep hu C9.out.lt).cells
            have q4 := (V9.out.keep hu V9.out.lt).cells
            rw [HOH.out] at q2
            exact ⟨⟨⟨q1.1, q1.2.1⟩, q2⟩, ⟨q3.1, q3.2.1⟩, q4⟩
          obtain ⟨D, hD⟩ : ∃ D, cmpV (r) (k) s.v.pr s.v.pn = D := ⟨_, rfl⟩
          have hDn : ¬ D < 0 := by rw [← hD]; have := HZ.out.2.2; omega
          have hDb : decide (D < 0) = false := decide_eq_false hDn
          have HC1 : Hid (∀ u, Below y9.heap.size y9 u → Calls Try.prog 25 #[.agg #[.int .i64 r, .int .i64 k], .agg #[.int .i64 s.v.pr, .int .i64 s.v.pn]] u fun e w' => e = .returned (.int .i64 D) ∧ Below u.heap.size u w') := fun u _ => rvcmp_r _ _ _ _ u hD
          clear hD hDn
          obtain ⟨D2, hD2⟩ : ∃ D, cmpV (s.v.ar) (s.v.an) (r) (k) = D := ⟨_, rfl⟩
          have hD2n : ¬ 0 < D2 := by rw [← hD2]; have := A9.out.ok.le; dsimp only at this; omega
          have hD2b : decide (0 < D2) = false := decide_eq_false hD2n
          have HC2 : Hid (∀ u, Below y9.heap.size y9 u → Calls Try.prog 25 #[.agg #[.int .i64 s.v.ar, .int .i64 s.v.an], .agg #[.int .i64 r, .int .i64 k]] u fun e w' => e = .returned (.int .i64 D2) ∧ Below u.heap.size u w') := fun u _ => rvcmp_r _ _ _ _ u hD2
          have HFO : Hid (∀ u, Below y9.heap.size y9 u → Calls Try.prog 26 #[.agg #[.int .i64 s.ke, .slice a6 m6 c6], .agg #[.int .i64 s.v.ce, .slice a7 m7 c7], .int .i64 4] u fun e w' => e = .returned (.bool true) ∧ Below u.heap.size u w') := fun u hu =>
            rhfollows_r s.ke _ s.K s.v.ce _ s.v.C 4 u.heap.size u (RM.out.on hu).ints (RW.out.on hu).ints (Nat.le_refl _) (by have := A9.out.ok.len; dsimp only at this; omega) (by have := A9.out.ok.len; dsimp only at this; omega) (decide_eq_true (by have := A9.out.ok.yes rfl; dsimp only at this; rw [HN4.out] at this; exact this))
          clear hD2 hD2n
          have BB := Lib.hid (Below.refl y9.heap.size y9)
          obtain ⟨⟨⟨x0, x1⟩, x2, x3, x4, x5, x6, x7, x8⟩, ⟨z0, z1⟩, z2, z3, z4, z5, z6, z7, z8⟩ := FX.out _ BB.out
          rw [HY9.out] at x0 x1 x2 x3 x4 x5 x6 x7 x8 z0 z1 z2 z3 z4 z5 z6 z7 z8
          clear e8 e9 e57 c8 v9 hy8 hy9 hs8 HKN HVT CK VK C9 V9
          go_wp2_with fail
          rw [← HY9.out]
          refine (HC1.out _ BB.out).mono ?_
          rintro e u0 ⟨rfl, bu0⟩
          have BB2 := Lib.hid (BB.out.trans (bu0.mono BB.out.size))
          clear BB bu0
          have BB := BB2
          clear BB2
          clear x0 x1 x2 x3 x4 x5 x6 x7 x8 z0 z1 z2 z3 z4 z5 z6 z7 z8
          obtain ⟨⟨⟨x0, x1⟩, x2, x3, x4, x5, x6, x7, x8⟩, ⟨z0, z1⟩, z2, z3, z4, z5, z6, z7, z8⟩ := FX.out _ BB.out
          go_wp2_with fail
          refine (HC2.out _ BB.out).mono ?_
          rintro e u1 ⟨rfl, bu1⟩
          have BB2 := Lib.hid (BB.out.trans (bu1.mono BB.out.size))
          clear BB bu1
          have BB := BB2
          clear BB2
          clear x0 x1 x2 x3 x4 x5 x6 x7 x8 z0 z1 z2 z3 z4 z5 z6 z7 z8
          obtain ⟨⟨⟨x0, x1⟩, x2, x3, x4, x5, x6, x7, x8⟩, ⟨z0, z1⟩, z2, z3, z4, z5, z6, z7, z8⟩ := FX.out _ BB.out
          go_wp2_with fail
          refine (HFO.out _ BB.out).mono ?_
          rintro e u2 ⟨rfl, bu2⟩
          have BB2 := Lib.hid (BB.out.trans (bu2.mono BB.out.size))
          clear BB bu2
          have BB := BB2
          clear BB2
          clear x0 x1 x2 x3 x4 x5 x6 x7 x8 z0 z1 z2 z3 z4 z5 z6 z7 z8
          obtain ⟨⟨⟨x0, x1⟩, x2, x3, x4, x5, x6, x7, x8⟩, ⟨z0, z1⟩, z2, z3, z4, z5, z6, z7, z8⟩ := FX.out _ BB.out
          go_wp2_with fail
          go_roundw
          case rel => exact ⟨i + 1, (⟨s.n, s.ke, s.K, ⟨r, k, s.v.ar, s.v.an, true, s.v.ce, s.v.C⟩⟩ : AccV), by omega, by omega, by go_num, A9.out.on BB.out, HN4.out⟩
          case measure => simp [intOf]; omega
        | false =>
          have HP : Hid (∀ u, AO n w p s u → Calls Try.prog 10 #[.pointer (some ⟨p, 0, none⟩), .int .i64 ep, .agg #[.int .i64 r, .int .i64 k]] u fun e w' => ∃ a m c x0 x1 x2 x3 x5 bb, e = .returned (.tuple #[.agg #[.int .i64 x0, .int .i64 x1, .int .i64 x2, .int .i64 x3, .bool bb, .int .i64 x5, .slice a m c], .int .i64 0]) ∧ Hid (AO n w p (⟨s.n, s.ke, s.K, ⟨r, k, s.v.ar, s.v.an, false, s.v.ce, s.v.C⟩⟩ : AccV) w' ∧ KC u w')) := fun u hu => (ao_prep hu ep r k (s' := (⟨s.n, s.ke, s.K, ⟨r, k, s.v.ar, s.v.an, false, s.v.ce, s.v.C⟩⟩ : AccV)) (V := prepV s ep r k) (by rw [prepS, if_pos h0, hoh]) rfl (by exact h0)).mono fun _ _ ⟨a, m, c, he, hh⟩ => ⟨a, m, c, _, _, _, _, _, _, he, hh.out.2.1, kc_of hh.out.2.2⟩
          clear e0 h0 hoh
          obtain ⟨g0, g1, g2, g3, g4, g5, g6⟩ := OZ.out.cells
          dsimp only at g0 g1 g2 g3 g4 g5 g6
          rw [HY4.out] at g0 g1 g2 g3 g4 g5 g6
          go_wp2_with fail
          rw [← HKB.out, ← HY4.out]
          refine (HP.out _ AZ.out).mono ?_
          rintro e w5 ⟨a5, m5, c5, t0, t1, t2, t3, t5, tb, rfl, H5⟩
          clear g0 g1 g2 g3 g4 g5 g6
          have C5 := Lib.hid (H5.out.2.ch CZ.out)
          have V5 := Lib.hid (H5.out.2.vot VZ.out)
          have RK5 := Lib.hid (H5.out.2.row RKZ.out)
          have RC5 := Lib.hid (H5.out.2.row RCZ.out)
          clear HP
          have HKN : Hid (∀ u, AO n w p (⟨s.n, s.ke, s.K, ⟨r, k, s.v.ar, s.v.an, false, s.v.ce, s.v.C⟩⟩ : AccV) u → Calls Try.prog 14 #[.pointer (some ⟨p, 0, none⟩)] u fun e w' => ∃ a m c, e = .returned (.agg #[.int .i64 s.ke, .slice a m c]) ∧ Hid (RowI w' (.slice a m c) s.K ∧ AO n w p (⟨s.n, s.ke, s.K, ⟨r, k, s.v.ar, s.v.an, false, s.v.ce, s.v.C⟩⟩ : AccV) w' ∧ Below u.heap.size u w')) := fun u hu => ao_known hu
          have HVT : Hid (∀ u, AO n w p (⟨s.n, s.ke, s.K, ⟨r, k, s.v.ar, s.v.an, false, s.v.ce, s.v.C⟩⟩ : AccV) u → Calls Try.prog 12 #[.pointer (some ⟨p, 0, none⟩)] u fun e w' => ∃ a m c, e = .returned (.agg #[.int .i64 r, .int .i64 k, .int .i64 s.v.ar, .int .i64 s.v.an, .bool false, .int .i64 s.v.ce, .slice a m c]) ∧ Hid (RowI w' (.slice a m c) s.v.C ∧ AO n w p (⟨s.n, s.ke, s.K, ⟨r, k, s.v.ar, s.v.an, false, s.v.ce, s.v.C⟩⟩ : AccV) w' ∧ Below u.heap.size u w')) := fun u hu => ao_vote hu
          go_wp2_with fail
          refine (HKN.out _ H5.out.1).mono ?_
          rintro e w6 ⟨a6, m6, c6, rfl, H6⟩
          go_wp2_with fail
          refine (HVT.out _ H6.out.2.1).mono ?_
          rintro e w7 ⟨a7, m7, c7, rfl, H7⟩
          obtain ⟨y8, hy8⟩ : ∃ y, y = w7.alloc (.cells #[.int .i64 s.ke, .slice a6 m6 c6] 28) := ⟨_, rfl⟩
          obtain ⟨y9, hy9⟩ : ∃ y, y = y8.alloc (.cells #[.int .i64 r, .int .i64 k, .int .i64 s.v.ar, .int .i64 s.v.an, .bool false, .int .i64 s.v.ce, .slice a7 m7 c7] 32) := ⟨_, rfl⟩
          have e8 : Below w7.heap.size w7 y8 := by rw [hy8]; exact (Below.refl _ _).alloc (Nat.le_refl _) _
          have e9 : Below y8.heap.size y8 y9 := by rw [hy9]; exact (Below.refl _ _).alloc (Nat.le_refl _) _
          have e57 : Below w5.heap.size w5 y9 := H6.out.2.2.trans (((H7.out.2.2.trans ((e8.trans (e9.mono e8.size)).mono H7.out.2.2.size))).mono H6.out.2.2.size)
          have hs8 : y8.heap.size = w7.heap.size + 1 := by rw [hy8]; simp
          have c8 : ChT y8 w7.heap.size s.ke (.slice a6 m6 c6) := by rw [hy8]; exact ChT.fresh w7 _ _
          have v9 : VotB y9 (w7.heap.size + 1) (⟨r, k, s.v.ar, s.v.an, false, s.v.ce, s.v.C⟩ : VoteV) (.slice a7 m7 c7) := by rw [hy9, ← hs8]; exact VotB.fresh y8 (⟨r, k, s.v.ar, s.v.an, false, s.v.ce, s.v.C⟩ : VoteV) _
          have C9 := Lib.hid (c8.keep e9 c8.lt)
          have V9 := Lib.hid v9
          have A9 := Lib.hid ((H7.out.2.1.on e8).on e9)
          have RM := Lib.hid (((H6.out.1.on H7.out.2.2).on e8).on e9)
          have RW := Lib.hid ((H7.out.1.on e8).on e9)
          have CK := Lib.hid (C5.out.keep e57 C5.out.lt)
          have VK := Lib.hid (V5.out.keep e57 V5.out.lt)
          have RK9 := Lib.hid (RK5.out.on e57)
          have RC9 := Lib.hid (RC5.out.on e57)
          have HY9 : Hid (y9 = (w7.alloc (.cells #[.int .i64 s.ke, .slice a6 m6 c6] 28)).alloc (.cells #[.int .i64 r, .int .i64 k, .int .i64 s.v.ar, .int .i64 s.v.an, .bool false, .int .i64 s.v.ce, .slice a7 m7 c7] 32)) := by show _ = _; rw [hy9, hy8]
          have FX : Hid (∀ u, Below y9.heap.size y9 u → ((u.cell? ⟨kb, 0, none⟩ = some (.int .i64 s.ke) ∧ u.cell? ⟨kb, 1, none⟩ = some (.slice ka km kc)) ∧ (u.cell? ⟨kb + 1, 0, none⟩ = some (.int .i64 s.v.pr) ∧ u.cell? ⟨kb + 1, 1, none⟩ = some (.int .i64 s.v.pn) ∧ u.cell? ⟨kb + 1, 2, none⟩ = some (.int .i64 s.v.ar) ∧ u.cell? ⟨kb + 1, 3, none⟩ = some (.int .i64 s.v.an) ∧ u.cell? ⟨kb + 1, 4, none⟩ = some (.bool false) ∧ u.cell? ⟨kb + 1, 5, none⟩ = some (.int .i64 s.v.ce) ∧ u.cell? ⟨kb + 1, 6, none⟩ = some (.slice va vm vc))) ∧ (u.cell? ⟨w7.heap.size, 0, none⟩ = some (.int .i64 s.ke) ∧ u.cell? ⟨w7.heap.size, 1, none⟩ = some (.slice a6 m6 c6)) ∧ (u.cell? ⟨w7.heap.size + 1, 0, none⟩ = some (.int .i64 r) ∧ u.cell? ⟨w7.heap.size + 1, 1, none⟩ = some (.int .i64 k) ∧ u.cell? ⟨w7.heap.size + 1, 2, none⟩ = some (.int .i64 s.v.ar) ∧ u.cell? ⟨w7.heap.size + 1, 3, none⟩ = some (.int .i64 s.v.an) ∧ u.cell? ⟨w7.heap.size + 1, 4, none⟩ = some (.bool false) ∧ u.cell? ⟨w7.heap.size + 1, 5, none⟩ = some (.int .i64 s.v.ce) ∧ u.cell? ⟨w7.heap.size + 1, 6, none⟩ = some (.slice a7 m7 c7))) := fun u hu => by
            have q1 := (CK.out.keep hu CK.out.lt).cells
            have q2 := (VK.out.keep hu VK.out.lt).cells
            have q3 := (C9.out.keep hu C9.out.lt).cells
            have q4 := (V9.out.keep hu V9.out.lt).cells
            rw [HOH.out] at q2
            exact ⟨⟨⟨q1.1, q1.2.1⟩, q2⟩, ⟨q3.1, q3.2.1⟩, q4⟩
          obtain ⟨D, hD⟩ : ∃ D, cmpV (r) (k) s.v.pr s.v.pn = D := ⟨_, rfl⟩
          have hDn : ¬ D < 0 := by rw [← hD]; have := HZ.out.2.2; omega
          have hDb : decide (D < 0) = false := decide_eq_false hDn
          have HC1 : Hid (∀ u, Below y9.heap.size y9 u → Calls Try.prog 25 #[.agg #[.int .i64 r, .int .i64 k], .agg #[.int .i64 s.v.pr, .int .i64 s.v.pn]] u fun e w' => e = .returned (.int .i64 D) ∧ Below u.heap.size u w') := fun u _ => rvcmp_r _ _ _ _ u hD
          clear hD hDn
          have BB := Lib.hid (Below.refl y9.heap.size y9)
          obtain ⟨⟨⟨x0, x1⟩, x2, x3, x4, x5, x6, x7, x8⟩, ⟨z0, z1⟩, z2, z3, z4, z5, z6, z7, z8⟩ := FX.out _ BB.out
          rw [HY9.out] at x0 x1 x2 x3 x4 x5 x6 x7 x8 z0 z1 z2 z3 z4 z5 z6 z7 z8
          clear e8 e9 e57 c8 v9 hy8 hy9 hs8 HKN HVT CK VK C9 V9
          go_wp2_with fail
          rw [← HY9.out]
          refine (HC1.out _ BB.out).mono ?_
          rintro e u0 ⟨rfl, bu0⟩
          have BB2 := Lib.hid (BB.out.trans (bu0.mono BB.out.size))
          clear BB bu0
          have BB := BB2
          clear BB2
          clear x0 x1 x2 x3 x4 x5 x6 x7 x8 z0 z1 z2 z3 z4 z5 z6 z7 z8
          obtain ⟨⟨⟨x0, x1⟩, x2, x3, x4, x5, x6, x7, x8⟩, ⟨z0, z1⟩, z2, z3, z4, z5, z6, z7, z8⟩ := FX.out _ BB.out
          go_wp2_with fail
          go_roundw
          case rel => exact ⟨i + 1, (⟨s.n, s.ke, s.K, ⟨r, k, s.v.ar, s.v.an, false, s.v.ce, s.v.C⟩⟩ : AccV), by omega, by omega, by go_num, A9.out.on BB.out, HN4.out⟩
          case measure => simp [intOf]; omega
      · obtain ⟨err, herr⟩ : ∃ e, prepE s ep r k = e := ⟨_, rfl⟩
        rw [herr] at h0
        have hb : (err != 0) = true := by simp [h0]
        have hb2 : (err == 0) = false := beq_eq_false_iff_ne.2 h0
        obtain ⟨ohas, hoh⟩ : ∃ b, s.v.has = b := ⟨_, rfl⟩
        have HOH := Lib.hid hoh
        cases ohas with
        | true =>
          have HP : Hid (∀ u, AO n w p s u → Calls Try.prog 10 #[.pointer (some ⟨p, 0, none⟩), .int .i64 ep, .agg #[.int .i64 r, .int .i64 k]] u fun e w' => ∃ a m c x0 x1 x2 x3 x5 bb, e = .returned (.tuple #[.agg #[.int .i64 x0, .int .i64 x1, .int .i64 x2, .int .i64 x3, .bool bb, .int .i64 x5, .slice a m c], .int .i64 err]) ∧ Hid (AO n w p (⟨s.n, s.ke, s.K, ⟨s.v.pr, s.v.pn, s.v.ar, s.v.an, true, s.v.ce, s.v.C⟩⟩ : AccV) w' ∧ KC u w')) := fun u hu => (ao_prep hu ep r k (s' := (⟨s.n, s.ke, s.K, ⟨s.v.pr, s.v.pn, s.v.ar, s.v.an, true, s.v.ce, s.v.C⟩⟩ : AccV)) (V := prepV s ep r k) (by rw [prepS, if_neg (by rw [herr]; exact h0), ← hoh]) rfl (by exact herr)).mono fun _ _ ⟨a, m, c, he, hh⟩ => ⟨a, m, c, _, _, _, _, _, _, he, hh.out.2.1, kc_of hh.out.2.2⟩
          clear herr h0 hoh
          obtain ⟨g0, g1, g2, g3, g4, g5, g6⟩ := OZ.out.cells
          dsimp only at g0 g1 g2 g3 g4 g5 g6
          rw [HY4.out] at g0 g1 g2 g3 g4 g5 g6
          go_wp2_with fail
          rw [← HKB.out, ← HY4.out]
          refine (HP.out _ AZ.out).mono ?_
          rintro e w5 ⟨a5, m5, c5, t0, t1, t2, t3, t5, tb, rfl, H5⟩
          clear g0 g1 g2 g3 g4 g5 g6
          have C5 := Lib.hid (H5.out.2.ch CZ.out)
          have V5 := Lib.hid (H5.out.2.vot VZ.out)
          have RK5 := Lib.hid (H5.out.2.row RKZ.out)
          have RC5 := Lib.hid (H5.out.2.row RCZ.out)
          clear HP
          have HKN : Hid (∀ u, AO n w p (⟨s.n, s.ke, s.K, ⟨s.v.pr, s.v.pn, s.v.ar, s.v.an, true, s.v.ce, s.v.C⟩⟩ : AccV) u → Calls Try.prog 14 #[.pointer (some ⟨p, 0, none⟩)] u fun e w' => ∃ a m c, e = .returned (.agg #[.int .i64 s.ke, .slice a m c]) ∧ Hid (RowI w' (.slice a m c) s.K ∧ AO n w p (⟨s.n, s.ke, s.K, ⟨s.v.pr, s.v.pn, s.v.ar, s.v.an, true, s.v.ce, s.v.C⟩⟩ : AccV) w' ∧ Below u.heap.size u w')) := fun u hu => ao_known hu
          have HVT : Hid (∀ u, AO n w p (⟨s.n, s.ke, s.K, ⟨s.v.pr, s.v.pn, s.v.ar, s.v.an, true, s.v.ce, s.v.C⟩⟩ : AccV) u → Calls Try.prog 12 #[.pointer (some ⟨p, 0, none⟩)] u fun e w' => ∃ a m c, e = .returned (.agg #[.int .i64 s.v.pr, .int .i64 s.v.pn, .int .i64 s.v.ar, .int .i64 s.v.an, .bool true, .int .i64 s.v.ce, .slice a m c]) ∧ Hid (RowI w' (.slice a m c) s.v.C ∧ AO n w p (⟨s.n, s.ke, s.K, ⟨s.v.pr, s.v.pn, s.v.ar, s.v.an, true, s.v.ce, s.v.C⟩⟩ : AccV) w' ∧ Below u.heap.size u w')) := fun u hu => ao_vote hu
          go_wp2_with fail
          refine (HKN.out _ H5.out.1).mono ?_
          rintro e w6 ⟨a6, m6, c6, rfl, H6⟩
          go_wp2_with fail
          refine (HVT.out _ H6.out.2.1).mono ?_
          rintro e w7 ⟨a7, m7, c7, rfl, H7⟩
          obtain ⟨y8, hy8⟩ : ∃ y, y = w7.alloc (.cells #[.int .i64 s.ke, .slice a6 m6 c6] 28) := ⟨_, rfl⟩
          obtain ⟨y9, hy9⟩ : ∃ y, y = y8.alloc (.cells #[.int .i64 s.v.pr, .int .i64 s.v.pn, .int .i64 s.v.ar, .int .i64 s.v.an, .bool true, .int .i64 s.v.ce, .slice a7 m7 c7] 32) := ⟨_, rfl⟩
          have e8 : Below w7.heap.size w7 y8 := by rw [hy8]; exact (Below.refl _ _).alloc (Nat.le_refl _) _
          have e9 : Below y8.heap.size y8 y9 := by rw [hy9]; exact (Below.refl _ _).alloc (Nat.le_refl _) _
          have e57 : Below w5.heap.size w5 y9 := H6.out.2.2.trans (((H7.out.2.2.trans ((e8.trans (e9.mono e8.size)).mono H7.out.2.2.size))).mono H6.out.2.2.size)
          have hs8 : y8.heap.size = w7.heap.size + 1 := by rw [hy8]; simp
          have c8 : ChT y8 w7.heap.size s.ke (.slice a6 m6 c6) := by rw [hy8]; exact ChT.fresh w7 _ _
          have v9 : VotB y9 (w7.heap.size + 1) (⟨s.v.pr, s.v.pn, s.v.ar, s.v.an, true, s.v.ce, s.v.C⟩ : VoteV) (.slice a7 m7 c7) := by rw [hy9, ← hs8]; exact VotB.fresh y8 (⟨s.v.pr, s.v.pn, s.v.ar, s.v.an, true, s.v.ce, s.v.C⟩ : VoteV) _
          have C9 := Lib.hid (c8.keep e9 c8.lt)
          have V9 := Lib.hid v9
          have A9 := Lib.hid ((H7.out.2.1.on e8).on e9)
          have RM := Lib.hid (((H6.out.1.on H7.out.2.2).on e8).on e9)
          have RW := Lib.hid ((H7.out.1.on e8).on e9)
          have CK := Lib.hid (C5.out.keep e57 C5.out.lt)
          have VK := Lib.hid (V5.out.keep e57 V5.out.lt)
          have RK9 := Lib.hid (RK5.out.on e57)
          have RC9 := Lib.hid (RC5.out.on e57)
          have HY9 : Hid (y9 = (w7.alloc (.cells #[.int .i64 s.ke, .slice a6 m6 c6] 28)).alloc (.cells #[.int .i64 s.v.pr, .int .i64 s.v.pn, .int .i64 s.v.ar, .int .i64 s.v.an, .bool true, .int .i64 s.v.ce, .slice a7 m7 c7] 32)) := by show _ = _; rw [hy9, hy8]
          have FX : Hid (∀ u, Below y9.heap.size y9 u → ((u.cell? ⟨kb, 0, none⟩ = some (.int .i64 s.ke) ∧ u.cell? ⟨kb, 1, none⟩ = some (.slice ka km kc)) ∧ (u.cell? ⟨kb + 1, 0, none⟩ = some (.int .i64 s.v.pr) ∧ u.cell? ⟨kb + 1, 1, none⟩ = some (.int .i64 s.v.pn) ∧ u.cell? ⟨kb + 1, 2, none⟩ = some (.int .i64 s.v.ar) ∧ u.cell? ⟨kb + 1, 3, none⟩ = some (.int .i64 s.v.an) ∧ u.cell? ⟨kb + 1, 4, none⟩ = some (.bool true) ∧ u.cell? ⟨kb + 1, 5, none⟩ = some (.int .i64 s.v.ce) ∧ u.cell? ⟨kb + 1, 6, none⟩ = some (.slice va vm vc))) ∧ (u.cell? ⟨w7.heap.size, 0, none⟩ = some (.int .i64 s.ke) ∧ u.cell? ⟨w7.heap.size, 1, none⟩ = some (.slice a6 m6 c6)) ∧ (u.cell? ⟨w7.heap.size + 1, 0, none⟩ = some (.int .i64 s.v.pr) ∧ u.cell? ⟨w7.heap.size + 1, 1, none⟩ = some (.int .i64 s.v.pn) ∧ u.cell? ⟨w7.heap.size + 1, 2, none⟩ = some (.int .i64 s.v.ar) ∧ u.cell? ⟨w7.heap.size + 1, 3, none⟩ = some (.int .i64 s.v.an) ∧ u.cell? ⟨w7.heap.size + 1, 4, none⟩ = some (.bool true) ∧ u.cell? ⟨w7.heap.size + 1, 5, none⟩ = some (.int .i64 s.v.ce) ∧ u.cell? ⟨w7.heap.size + 1, 6, none⟩ = some (.slice a7 m7 c7))) := fun u hu => by
            have q1 := (CK.out.keep hu CK.out.lt).cells
            have q2 := (VK.out.keep hu VK.out.lt).cells
            have q3 := (C9.out.keep hu C9.out.lt).cells
            have q4 := (V9.out.keep hu V9.out.lt).cells
            rw [HOH.out] at q2
            exact ⟨⟨⟨q1.1, q1.2.1⟩, q2⟩, ⟨q3.1, q3.2.1⟩, q4⟩
          have HSC : Hid (∀ u, Below y9.heap.size y9 u → Calls Try.prog 13 #[.agg #[.int .i64 s.ke, (.slice ka km kc)], .agg #[.int .i64 s.ke, .slice a6 m6 c6]] u fun e w' => e = .returned (.bool true) ∧ Below u.heap.size u w') := fun u hu => (refsame_any s.ke s.ke _ _ s.K s.K u.heap.size u (RK9.out.on hu).ints (RM.out.on hu).ints (Nat.le_refl _) (by have := HLEN.out; omega)).mono fun _ _ ⟨q1, q2⟩ => ⟨by simpa using q1, q2⟩
          have HSV : Hid (∀ u, Below y9.heap.size y9 u → Calls Try.prog 20 #[.agg #[.int .i64 s.v.pr, .int .i64 s.v.pn, .int .i64 s.v.ar, .int .i64 s.v.an, .bool true, .int .i64 s.v.ce, (.slice va vm vc)], .agg #[.int .i64 s.v.pr, .int .i64 s.v.pn, .int .i64 s.v.ar, .int .i64 s.v.an, .bool true, .int .i64 s.v.ce, .slice a7 m7 c7]] u fun e w' => e = .returned (.bool true) ∧ Below u.heap.size u w') := fun u hu => rsamevote_r (⟨s.v.pr, s.v.pn, s.v.ar, s.v.an, true, s.v.ce, s.v.C⟩ : VoteV) (.slice va vm vc) (.slice a7 m7 c7) u.heap.size u (RC9.out.on hu).ints (RW.out.on hu).ints (Nat.le_refl _) (by have := HLEN.out; show s.v.C.length ≤ _; omega)
          obtain ⟨D, hD⟩ : ∃ D, cmpV (s.v.pr) (s.v.pn) s.v.pr s.v.pn = D := ⟨_, rfl⟩
          have hDn : ¬ D < 0 := by rw [← hD]; rw [cmpV_same]; omega
          have hDb : decide (D < 0) = false := decide_eq_false hDn
          have HC1 : Hid (∀ u, Below y9.heap.size y9 u → Calls Try.prog 25 #[.agg #[.int .i64 s.v.pr, .int .i64 s.v.pn], .agg #[.int .i64 s.v.pr, .int .i64 s.v.pn]] u fun e w' => e = .returned (.int .i64 D) ∧ Below u.heap.size u w') := fun u _ => rvcmp_r _ _ _ _ u hD
          clear hD hDn
          obtain ⟨D2, hD2⟩ : ∃ D, cmpV (s.v.ar) (s.v.an) (s.v.pr) (s.v.pn) = D := ⟨_, rfl⟩
          have hD2n : ¬ 0 < D2 := by rw [← hD2]; have := A9.out.ok.le; dsimp only at this; omega
          have hD2b : decide (0 < D2) = false := decide_eq_false hD2n
          have HC2 : Hid (∀ u, Below y9.heap.size y9 u → Calls Try.prog 25 #[.agg #[.int .i64 s.v.ar, .int .i64 s.v.an], .agg #[.int .i64 s.v.pr, .int .i64 s.v.pn]] u fun e w' => e = .returned (.int .i64 D2) ∧ Below u.heap.size u w') := fun u _ => rvcmp_r _ _ _ _ u hD2
          have HFO : Hid (∀ u, Below y9.heap.size y9 u → Calls Try.prog 26 #[.agg #[.int .i64 s.ke, .slice a6 m6 c6], .agg #[.int .i64 s.v.ce, .slice a7 m7 c7], .int .i64 4] u fun e w' => e = .returned (.bool true) ∧ Below u.heap.size u w') := fun u hu =>
            rhfollows_r s.ke _ s.K s.v.ce _ s.v.C 4 u.heap.size u (RM.out.on hu).ints (RW.out.on hu).ints (Nat.le_refl _) (by have := A9.out.ok.len; dsimp only at this; omega) (by have := A9.out.ok.len; dsimp only at this; omega) (decide_eq_true (by have := A9.out.ok.yes rfl; dsimp only at this; rw [HN4.out] at this; exact this))
          clear hD2 hD2n
          have BB := Lib.hid (Below.refl y9.heap.size y9)
          obtain ⟨⟨⟨x0, x1⟩, x2, x3, x4, x5, x6, x7, x8⟩, ⟨z0, z1⟩, z2, z3, z4, z5, z6, z7, z8⟩ := FX.out _ BB.out
          rw [HY9.out] at x0 x1 x2 x3 x4 x5 x6 x7 x8 z0 z1 z2 z3 z4 z5 z6 z7 z8
          clear e8 e9 e57 c8 v9 hy8 hy9 hs8 HKN HVT CK VK C9 V9
          go_wp2_with fail
          rw [← HY9.out]
          refine (HSC.out _ BB.out).mono ?_
          rintro e u0 ⟨rfl, bu0⟩
          have BB2 := Lib.hid (BB.out.trans (bu0.mono BB.out.size))
          clear BB bu0
          have BB := BB2
          clear BB2
          clear x0 x1 x2 x3 x4 x5 x6 x7 x8 z0 z1 z2 z3 z4 z5 z6 z7 z8
          obtain ⟨⟨⟨x0, x1⟩, x2, x3, x4, x5, x6, x7, x8⟩, ⟨z0, z1⟩, z2, z3, z4, z5, z6, z7, z8⟩ := FX.out _ BB.out
          go_wp2_with fail
          refine (HSV.out _ BB.out).mono ?_
          rintro e u1 ⟨rfl, bu1⟩
          have BB2 := Lib.hid (BB.out.trans (bu1.mono BB.out.size))
          clear BB bu1
          have BB := BB2
          clear BB2
          clear x0 x1 x2 x3 x4 x5 x6 x7 x8 z0 z1 z2 z3 z4 z5 z6 z7 z8
          obtain ⟨⟨⟨x0, x1⟩, x2, x3, x4, x5, x6, x7, x8⟩, ⟨z0, z1⟩, z2, z3, z4, z5, z6, z7, z8⟩ := FX.out _ BB.out
          go_wp2_with fail
          refine (HC1.out _ BB.out).mono ?_
          rintro e u2 ⟨rfl, bu2⟩
          have BB2 := Lib.hid (BB.out.trans (bu2.mono BB.out.size))
          clear BB bu2
          have BB := BB2
          clear BB2
          clear x0 x1 x2 x3 x4 x5 x6 x7 x8 z0 z1 z2 z3 z4 z5 z6 z7 z8
          obtain ⟨⟨⟨x0, x1⟩, x2, x3, x4, x5, x6, x7, x8⟩, ⟨z0, z1⟩, z2, z3, z4, z5, z6, z7, z8⟩ := FX.out _ BB.out
          go_wp2_with fail
          refine (HC2.out _ BB.out).mono ?_
          rintro e u3 ⟨rfl, bu3⟩
          have BB2 := Lib.hid (BB.out.trans (bu3.mono BB.out.size))
          clear BB bu3
          have BB := BB2
          clear BB2
          clear x0 x1 x2 x3 x4 x5 x6 x7 x8 z0 z1 z2 z3 z4 z5 z6 z7 z8
          obtain ⟨⟨⟨x0, x1⟩, x2, x3, x4, x5, x6, x7, x8⟩, ⟨z0, z1⟩, z2, z3, z4, z5, z6, z7, z8⟩ := FX.out _ BB.out
          go_wp2_with fail
          refine (HFO.out _ BB.out).mono ?_
          rintro e u4 ⟨rfl, bu4⟩
          have BB2 := Lib.hid (BB.out.trans (bu4.mono BB.out.size))
          clear BB bu4
          have BB := BB2
          clear BB2
          clear x0 x1 x2 x3 x4 x5 x6 x7 x8 z0 z1 z2 z3 z4 z5 z6 z7 z8
          obtain ⟨⟨⟨x0, x1⟩, x2, x3, x4, x5, x6, x7, x8⟩, ⟨z0, z1⟩, z2, z3, z4, z5, z6, z7, z8⟩ := FX.out _ BB.out
          go_wp2_with fail
          go_roundw
          case rel => exact ⟨i + 1, (⟨s.n, s.ke, s.K, ⟨s.v.pr, s.v.pn, s.v.ar, s.v.an, true, s.v.ce, s.v.C⟩⟩ : AccV), by omega, by omega, by go_num, A9.out.on BB.out, HN4.out⟩
          case measure => simp [intOf]; omega
        | false =>
          have HP : Hid (∀ u, AO n w p s u → Calls Try.prog 10 #[.pointer (some ⟨p, 0, none⟩), .int .i64 ep, .agg #[.int .i64 r, .int .i64 k]] u fun e w' => ∃ a m c x0 x1 x2 x3 x5 bb, e = .returned (.tuple #[.agg #[.int .i64 x0, .int .i64 x1, .int .i64 x2, .int .i64 x3, .bool bb, .int .i64 x5, .slice a m c], .int .i64 err]) ∧ Hid (AO n w p (⟨s.n, s.ke, s.K, ⟨s.v.pr, s.v.pn, s.v.ar, s.v.an, false, s.v.ce, s.v.C⟩⟩ : AccV) w' ∧ KC u w')) := fun u hu => (ao_prep hu ep r k (s' := (⟨s.n, s.ke, s.K, ⟨s.v.pr, s.v.pn, s.v.ar, s.v.an, false, s.v.ce, s.v.C⟩⟩ : AccV)) (V := prepV s ep r k) (by rw [prepS, if_neg (by rw [herr]; exact h0), ← hoh]) rfl (by exact herr)).mono fun _ _ ⟨a, m, c, he, hh⟩ => ⟨a, m, c, _, _, _, _, _, _, he, hh.out.2.1, kc_of hh.out.2.2⟩
          clear herr h0 hoh
          obtain ⟨g0, g1, g2, g3, g4, g5, g6⟩ := OZ.out.cells
          dsimp only at g0 g1 g2 g3 g4 g5 g6
          rw [HY4.out] at g0 g1 g2 g3 g4 g5 g6
          go_wp2_with fail
          rw [← HKB.out, ← HY4.out]
          refine (HP.out _ AZ.out).mono ?_
          rintro e w5 ⟨a5, m5, c5, t0, t1, t2, t3, t5, tb, rfl, H5⟩
          clear g0 g1 g2 g3 g4 g5 g6
          have C5 := Lib.hid (H5.out.2.ch CZ.out)
          have V5 := Lib.hid (H5.out.2.vot VZ.out)
          have RK5 := Lib.hid (H5.out.2.row RKZ.out)
          have RC5 := Lib.hid (H5.out.2.row RCZ.out)
          clear HP
          have HKN : Hid (∀ u, AO n w p (⟨s.n, s.ke, s.K, ⟨s.v.pr, s.v.pn, s.v.ar, s.v.an, false, s.v.ce, s.v.C⟩⟩ : AccV) u → Calls Try.prog 14 #[.pointer (some ⟨p, 0, none⟩)] u fun e w' => ∃ a m c, e = .returned (.agg #[.int .i64 s.ke, .slice a m c]) ∧ Hid (RowI w' (.slice a m c) s.K ∧ AO n w p (⟨s.n, s.ke, s.K, ⟨s.v.pr, s.v.pn, s.v.ar, s.v.an, false, s.v.ce, s.v.C⟩⟩ : AccV) w' ∧ Below u.heap.size u w')) := fun u hu => ao_known hu
          have HVT : Hid (∀ u, AO n w p (⟨s.n, s.ke, s.K, ⟨s.v.pr, s.v.pn, s.v.ar, s.v.an, false, s.v.ce, s.v.C⟩⟩ : AccV) u → Calls Try.prog 12 #[.pointer (some ⟨p, 0, none⟩)] u fun e w' => ∃ a m c, e = .returned (.agg #[.int .i64 s.v.pr, .int .i64 s.v.pn, .int .i64 s.v.ar, .int .i64 s.v.an, .bool false, .int .i64 s.v.ce, .slice a m c]) ∧ Hid (RowI w' (.slice a m c) s.v.C ∧ AO n w p (⟨s.n, s.ke, s.K, ⟨s.v.pr, s.v.pn, s.v.ar, s.v.an, false, s.v.ce, s.v.C⟩⟩ : AccV) w' ∧ Below u.heap.size u w')) := fun u hu => ao_vote hu
          go_wp2_with fail
          refine (HKN.out _ H5.out.1).mono ?_
          rintro e w6 ⟨a6, m6, c6, rfl, H6⟩
          go_wp2_with fail
          refine (HVT.out _ H6.out.2.1).mono ?_
          rintro e w7 ⟨a7, m7, c7, rfl, H7⟩
          obtain ⟨y8, hy8⟩ : ∃ y, y = w7.alloc (.cells #[.int .i64 s.ke, .slice a6 m6 c6] 28) := ⟨_, rfl⟩
          obtain ⟨y9, hy9⟩ : ∃ y, y = y8.alloc (.cells #[.int .i64 s.v.pr, .int .i64 s.v.pn, .int .i64 s.v.ar, .int .i64 s.v.an, .bool false, .int .i64 s.v.ce, .slice a7 m7 c7] 32) := ⟨_, rfl⟩
          have e8 : Below w7.heap.size w7 y8 := by rw [hy8]; exact (Below.refl _ _).alloc (Nat.le_refl _) _
          have e9 : Below y8.heap.size y8 y9 := by rw [hy9]; exact (Below.refl _ _).alloc (Nat.le_refl _) _
          have e57 : Below w5.heap.size w5 y9 := H6.out.2.2.trans (((H7.out.2.2.trans ((e8.trans (e9.mono e8.size)).mono H7.out.2.2.size))).mono H6.out.2.2.size)
          have hs8 : y8.heap.size = w7.heap.size + 1 := by rw [hy8]; simp
          have c8 : ChT y8 w7.heap.size s.ke (.slice a6 m6 c6) := by rw [hy8]; exact ChT.fresh w7 _ _
          have v9 : VotB y9 (w7.heap.size + 1) (⟨s.v.pr, s.v.pn, s.v.ar, s.v.an, false, s.v.ce, s.v.C⟩ : VoteV) (.slice a7 m7 c7) := by rw [hy9, ← hs8]; exact VotB.fresh y8 (⟨s.v.pr, s.v.pn, s.v.ar, s.v.an, false, s.v.ce, s.v.C⟩ : VoteV) _
          have C9 := Lib.hid (c8.keep e9 c8.lt)
          have V9 := Lib.hid v9
          have A9 := Lib.hid ((H7.out.2.1.on e8).on e9)
          have RM := Lib.hid (((H6.out.1.on H7.out.2.2).on e8).on e9)
          have RW := Lib.hid ((H7.out.1.on e8).on e9)
          have CK := Lib.hid (C5.out.keep e57 C5.out.lt)
          have VK := Lib.hid (V5.out.keep e57 V5.out.lt)
          have RK9 := Lib.hid (RK5.out.on e57)
          have RC9 := Lib.hid (RC5.out.on e57)
          have HY9 : Hid (y9 = (w7.alloc (.cells #[.int .i64 s.ke, .slice a6 m6 c6] 28)).alloc (.cells #[.int .i64 s.v.pr, .int .i64 s.v.pn, .int .i64 s.v.ar, .int .i64 s.v.an, .bool false, .int .i64 s.v.ce, .slice a7 m7 c7] 32)) := by show _ = _; rw [hy9, hy8]
          have FX : Hid (∀ u, Below y9.heap.size y9 u → ((u.cell? ⟨kb, 0, none⟩ = some (.int .i64 s.ke) ∧ u.cell? ⟨kb, 1, none⟩ = some (.slice ka km kc)) ∧ (u.cell? ⟨kb + 1, 0, none⟩ = some (.int .i64 s.v.pr) ∧ u.cell? ⟨kb + 1, 1, none⟩ = some (.int .i64 s.v.pn) ∧ u.cell? ⟨kb + 1, 2, none⟩ = some (.int .i64 s.v.ar) ∧ u.cell? ⟨kb + 1, 3, none⟩ = some (.int .i64 s.v.an) ∧ u.cell? ⟨kb + 1, 4, none⟩ = some (.bool false) ∧ u.cell? ⟨kb + 1, 5, none⟩ = some (.int .i64 s.v.ce) ∧ u.cell? ⟨kb + 1, 6, none⟩ = some (.slice va vm vc))) ∧ (u.cell? ⟨w7.heap.size, 0, none⟩ = some (.int .i64 s.ke) ∧ u.cell? ⟨w7.heap.size, 1, none⟩ = some (.slice a6 m6 c6)) ∧ (u.cell? ⟨w7.heap.size + 1, 0, none⟩ = some (.int .i64 s.v.pr) ∧ u.cell? ⟨w7.heap.size + 1, 1, none⟩ = some (.int .i64 s.v.pn) ∧ u.cell? ⟨w7.heap.size + 1, 2, none⟩ = some (.int .i64 s.v.ar) ∧ u.cell? ⟨w7.heap.size + 1, 3, none⟩ = some (.int .i64 s.v.an) ∧ u.cell? ⟨w7.heap.size + 1, 4, none⟩ = some (.bool false) ∧ u.cell? ⟨w7.heap.size + 1, 5, none⟩ = some (.int .i64 s.v.ce) ∧ u.cell? ⟨w7.heap.size + 1, 6, none⟩ = some (.slice a7 m7 c7))) := fun u hu => by
            have q1 := (CK.out.keep hu CK.out.lt).cells
            have q2 := (VK.out.keep hu VK.out.lt).cells
            have q3 := (C9.out.keep hu C9.out.lt).cells
            have q4 := (V9.out.keep hu V9.out.lt).cells
            rw [HOH.out] at q2
            exact ⟨⟨⟨q1.1, q1.2.1⟩, q2⟩, ⟨q3.1, q3.2.1⟩, q4⟩
          have HSC : Hid (∀ u, Below y9.heap.size y9 u → Calls Try.prog 13 #[.agg #[.int .i64 s.ke, (.slice ka km kc)], .agg #[.int .i64 s.ke, .slice a6 m6 c6]] u fun e w' => e = .returned (.bool true) ∧ Below u.heap.size u w') := fun u hu => (refsame_any s.ke s.ke _ _ s.K s.K u.heap.size u (RK9.out.on hu).ints (RM.out.on hu).ints (Nat.le_refl _) (by have := HLEN.out; omega)).mono fun _ _ ⟨q1, q2⟩ => ⟨by simpa using q1, q2⟩
          have HSV : Hid (∀ u, Below y9.heap.size y9 u → Calls Try.prog 20 #[.agg #[.int .i64 s.v.pr, .int .i64 s.v.pn, .int .i64 s.v.ar, .int .i64 s.v.an, .bool false, .int .i64 s.v.ce, (.slice va vm vc)], .agg #[.int .i64 s.v.pr, .int .i64 s.v.pn, .int .i64 s.v.ar, .int .i64 s.v.an, .bool false, .int .i64 s.v.ce, .slice a7 m7 c7]] u fun e w' => e = .returned (.bool true) ∧ Below u.heap.size u w') := fun u hu => rsamevote_r (⟨s.v.pr, s.v.pn, s.v.ar, s.v.an, false, s.v.ce, s.v.C⟩ : VoteV) (.slice va vm vc) (.slice a7 m7 c7) u.heap.size u (RC9.out.on hu).ints (RW.out.on hu).ints (Nat.le_refl _) (by have := HLEN.out; show s.v.C.length ≤ _; omega)
          obtain ⟨D, hD⟩ : ∃ D, cmpV (s.v.pr) (s.v.pn) s.v.pr s.v.pn = D := ⟨_, rfl⟩
          have hDn : ¬ D < 0 := by rw [← hD]; rw [cmpV_same]; omega
          have hDb : decide (D < 0) = false := decide_eq_false hDn
          have HC1 : Hid (∀ u, Below y9.heap.size y9 u → Calls Try.prog 25 #[.agg #[.int .i64 s.v.pr, .int .i64 s.v.pn], .agg #[.int .i64 s.v.pr, .int .i64 s.v.pn]] u fun e w' => e = .returned (.int .i64 D) ∧ Below u.heap.size u w') := fun u _ => rvcmp_r _ _ _ _ u hD
          clear hD hDn
          have BB := Lib.hid (Below.refl y9.heap.size y9)
          obtain ⟨⟨⟨x0, x1⟩, x2, x3, x4, x5, x6, x7, x8⟩, ⟨z0, z1⟩, z2, z3, z4, z5, z6, z7, z8⟩ := FX.out _ BB.out
          rw [HY9.out] at x0 x1 x2 x3 x4 x5 x6 x7 x8 z0 z1 z2 z3 z4 z5 z6 z7 z8
          clear e8 e9 e57 c8 v9 hy8 hy9 hs8 HKN HVT CK VK C9 V9
          go_wp2_with fail
          rw [← HY9.out]
          refine (HSC.out _ BB.out).mono ?_
          rintro e u0 ⟨rfl, bu0⟩
          have BB2 := Lib.hid (BB.out.trans (bu0.mono BB.out.size))
          clear BB bu0
          have BB := BB2
          clear BB2
          clear x0 x1 x2 x3 x4 x5 x6 x7 x8 z0 z1 z2 z3 z4 z5 z6 z7 z8
          obtain ⟨⟨⟨x0, x1⟩, x2, x3, x4, x5, x6, x7, x8⟩, ⟨z0, z1⟩, z2, z3, z4, z5, z6, z7, z8⟩ := FX.out _ BB.out
          go_wp2_with fail
          refine (HSV.out _ BB.out).mono ?_
          rintro e u1 ⟨rfl, bu1⟩
          have BB2 := Lib.hid (BB.out.trans (bu1.mono BB.out.size))
          clear BB bu1
          have BB := BB2
          clear BB2
          clear x0 x1 x2 x3 x4 x5 x6 x7 x8 z0 z1 z2 z3 z4 z5 z6 z7 z8
          obtain ⟨⟨⟨x0, x1⟩, x2, x3, x4, x5, x6, x7, x8⟩, ⟨z0, z1⟩, z2, z3, z4, z5, z6, z7, z8⟩ := FX.out _ BB.out
          go_wp2_with fail
          refine (HC1.out _ BB.out).mono ?_
          rintro e u2 ⟨rfl, bu2⟩
          have BB2 := Lib.hid (BB.out.trans (bu2.mono BB.out.size))
          clear BB bu2
          have BB := BB2
          clear BB2
          clear x0 x1 x2 x3 x4 x5 x6 x7 x8 z0 z1 z2 z3 z4 z5 z6 z7 z8
          obtain ⟨⟨⟨x0, x1⟩, x2, x3, x4, x5, x6, x7, x8⟩, ⟨z0, z1⟩, z2, z3, z4, z5, z6, z7, z8⟩ := FX.out _ BB.out
          go_wp2_with fail
          go_roundw
          case rel => exact ⟨i + 1, (⟨s.n, s.ke, s.K, ⟨s.v.pr, s.v.pn, s.v.ar, s.v.an, false, s.v.ce, s.v.C⟩⟩ : AccV), by omega, by omega, by go_num, A9.out.on BB.out, HN4.out⟩
          case measure => simp [intOf]; omega
    · by_cases hk1 : kd = 1
      · subst hk1
        by_cases h0 : accE s ec Lo r k veto = 0
        · have HZ := Lib.hid (accE_zero h0)
          obtain ⟨ohas, hoh⟩ : ∃ b, s.v.has = b := ⟨_, rfl⟩
          have HOH := Lib.hid hoh
          cases ohas with
          | true =>
            have HP : Hid (∀ u, AO n w p s u → Calls Try.prog 16 #[.pointer (some ⟨p, 0, none⟩), .agg #[.int .i64 ec, .slice oa lo oc], .agg #[.int .i64 r, .int .i64 k], .bool veto] u fun e w' => e = .returned (.int .i64 0) ∧ Hid (AO n w p (⟨s.n, s.ke, s.K, ⟨r, k, r, k, true, ec, Lo⟩⟩ : AccV) w' ∧ KC u w')) := fun u hu => (ao_acc hu ec _ Lo n (HF.out.2.keep hu.bel) hu.size (by have := HF.out.1; omega) r k veto (s' := (⟨s.n, s.ke, s.K, ⟨r, k, r, k, true, ec, Lo⟩⟩ : AccV)) (by rw [accS, if_pos h0]) (by exact h0)).mono fun _ _ ⟨he, hh⟩ => ⟨he, hh.out.1, kc_of hh.out.2⟩
            clear h0 hoh
            obtain ⟨g0, g1, g2, g3, g4, g5, g6⟩ := OZ.out.cells
            dsimp only at g0 g1 g2 g3 g4 g5 g6
            rw [HY4.out] at g0 g1 g2 g3 g4 g5 g6
            go_wp2_with fail
            rw [← HKB.out, ← HY4.out]
            refine (HP.out _ AZ.out).mono ?_
            rintro e w5 ⟨rfl, H5⟩
            clear g0 g1 g2 g3 g4 g5 g6
            have C5 := Lib.hid (H5.out.2.ch CZ.out)
            have V5 := Lib.hid (H5.out.2.vot VZ.out)
            have RK5 := Lib.hid (H5.out.2.row RKZ.out)
            have RC5 := Lib.hid (H5.out.2.row RCZ.out)
            clear HP
            have HKN : Hid (∀ u, AO n w p (⟨s.n, s.ke, s.K, ⟨r, k, r, k, true, ec, Lo⟩⟩ : AccV) u → Calls Try.prog 14 #[.pointer (some ⟨p, 0, none⟩)] u fun e w' => ∃ a m c, e = .returned (.agg #[.int .i64 s.ke, .slice a m c]) ∧ Hid (RowI w' (.slice a m c) s.K ∧ AO n w p (⟨s.n, s.ke, s.K, ⟨r, k, r, k, true, ec, Lo⟩⟩ : AccV) w' ∧ Below u.heap.size u w')) := fun u hu => ao_known hu
            have HVT : Hid (∀ u, AO n w p (⟨s.n, s.ke, s.K, ⟨r, k, r, k, true, ec, Lo⟩⟩ : AccV) u → Calls Try.prog 12 #[.pointer (some ⟨p, 0, none⟩)] u fun e w' => ∃ a m c, e = .returned (.agg #[.int .i64 r, .int .i64 k, .int .i64 r, .int .i64 k, .bool true, .int .i64 ec, .slice a m c]) ∧ Hid (RowI w' (.slice a m c) Lo ∧ AO n w p (⟨s.n, s.ke, s.K, ⟨r, k, r, k, true, ec, Lo⟩⟩ : AccV) w' ∧ Below u.heap.size u w')) := fun u hu => ao_vote hu
            go_wp2_with fail
            refine (HKN.out _ H5.out.1).mono ?_
            rintro e w6 ⟨a6, m6, c6, rfl, H6⟩
            go_wp2_with fail
            refine (HVT.out _ H6.out.2.1).mono ?_
            rintro e w7 ⟨a7, m7, c7, rfl, H7⟩
            obtain ⟨y8, hy8⟩ : ∃ y, y = w7.alloc (.cells #[.int .i64 s.ke, .slice a6 m6 c6] 28) := ⟨_, rfl⟩
            obtain ⟨y9, hy9⟩ : ∃ y, y = y8.alloc (.cells #[.int .i64 r, .int .i64 k, .int .i64 r, .int .i64 k, .bool true, .int .i64 ec, .slice a7 m7 c7] 32) := ⟨_, rfl⟩
            have e8 : Below w7.heap.size w7 y8 := by rw [hy8]; exact (Below.refl _ _).alloc (Nat.le_refl _) _
            have e9 : Below y8.heap.size y8 y9 := by rw [hy9]; exact (Below.refl _ _).alloc (Nat.le_refl _) _
            have e57 : Below w5.heap.size w5 y9 := H6.out.2.2.trans (((H7.out.2.2.trans ((e8.trans (e9.mono e8.size)).mono H7.out.2.2.size))).mono H6.out.2.2.size)
            have hs8 : y8.heap.size = w7.heap.size + 1 := by rw [hy8]; simp
            have c8 : ChT y8 w7.heap.size s.ke (.slice a6 m6 c6) := by rw [hy8]; exact ChT.fresh w7 _ _
            have v9 : VotB y9 (w7.heap.size + 1) (⟨r, k, r, k, true, ec, Lo⟩ : VoteV) (.slice a7 m7 c7) := by rw [hy9, ← hs8]; exact VotB.fresh y8 (⟨r, k, r, k, true, ec, Lo⟩ : VoteV) _
            have C9 := Lib.hid (c8.keep e9 c8.lt)
            have V9 := Lib.hid v9
            have A9 := Lib.hid ((H7.out.2.1.on e8).on e9)
            have RM := Lib.hid (((H6.out.1.on H7.out.2.2).on e8).on e9)
            have RW := Lib.hid ((H7.out.1.on e8).on e9)
            have CK := Lib.hid (C5.out.keep e57 C5.out.lt)
            have VK := Lib.hid (V5.out.keep e57 V5.out.lt)
            have RK9 := Lib.hid (RK5.out.on e57)
            have RC9 := Lib.hid (RC5.out.on e57)
            have HY9 : Hid (y9 = (w7.alloc (.cells #[.int .i64 s.ke, .slice a6 m6 c6] 28)).alloc (.cells #[.int .i64 r, .int .i64 k, .int .i64 r, .int .i64 k, .bool true, .int .i64 ec, .slice a7 m7 c7] 32)) := by show _ = _; rw [hy9, hy8]
            have FX : Hid (∀ u, Below y9.heap.size y9 u → ((u.cell? ⟨kb, 0, none⟩ = some (.int .i64 s.ke) ∧ u.cell? ⟨kb, 1, none⟩ = some (.slice ka km kc)) ∧ (u.cell? ⟨kb + 1, 0, none⟩ = some (.int .i64 s.v.pr) ∧ u.cell? ⟨kb + 1, 1, none⟩ = some (.int .i64 s.v.pn) ∧ u.cell? ⟨kb + 1, 2, none⟩ = some (.int .i64 s.v.ar) ∧ u.cell? ⟨kb + 1, 3, none⟩ = some (.int .i64 s.v.an) ∧ u.cell? ⟨kb + 1, 4, none⟩ = some (.bool true) ∧ u.cell? ⟨kb + 1, 5, none⟩ = some (.int .i64 s.v.ce) ∧ u.cell? ⟨kb + 1, 6, none⟩ = some (.slice va vm vc))) ∧ (u.cell? ⟨w7.heap.size, 0, none⟩ = some (.int .i64 s.ke) ∧ u.cell? ⟨w7.heap.size, 1, none⟩ = some (.slice a6 m6 c6)) ∧ (u.cell? ⟨w7.heap.size + 1, 0, none⟩ = some (.int .i64 r) ∧ u.cell? ⟨w7.heap.size + 1, 1, none⟩ = some (.int .i64 k) ∧ u.cell? ⟨w7.heap.size + 1, 2, none⟩ = some (.int .i64 r) ∧ u.cell? ⟨w7.heap.size + 1, 3, none⟩ = some (.int .i64 k) ∧ u.cell? ⟨w7.heap.size + 1, 4, none⟩ = some (.bool true) ∧ u.cell? ⟨w7.heap.size + 1, 5, none⟩ = some (.int .i64 ec) ∧ u.cell? ⟨w7.heap.size + 1, 6, none⟩ = some (.slice a7 m7 c7))) := fun u hu => by
              have q1 := (CK.out.keep hu CK.out.lt).cells
              have q2 := (VK.out.keep hu VK.out.lt).cells
              have q3 := (C9.out.keep hu C9.out.lt).cells
              have q4 := (V9.out.keep hu V9.out.lt).cells
              rw [HOH.out] at q2
              exact ⟨⟨⟨q1.1, q1.2.1⟩, q2⟩, ⟨q3.1, q3.2.1⟩, q4⟩
            obtain ⟨D, hD⟩ : ∃ D, cmpV (r) (k) s.v.pr s.v.pn = D := ⟨_, rfl⟩
            have hDn : ¬ D < 0 := by rw [← hD]; have := HZ.out.2.2.1; omega
            have hDb : decide (D < 0) = false := decide_eq_false hDn
            have HC1 : Hid (∀ u, Below y9.heap.size y9 u → Calls Try.prog 25 #[.agg #[.int .i64 r, .int .i64 k], .agg #[.int .i64 s.v.pr, .int .i64 s.v.pn]] u fun e w' => e = .returned (.int .i64 D) ∧ Below u.heap.size u w') := fun u _ => rvcmp_r _ _ _ _ u hD
            clear hD hDn
            obtain ⟨D2, hD2⟩ : ∃ D, cmpV (r) (k) (r) (k) = D := ⟨_, rfl⟩
            have hD2n : ¬ 0 < D2 := by rw [← hD2]; have := A9.out.ok.le; dsimp only at this; omega
            have hD2b : decide (0 < D2) = false := decide_eq_false hD2n
            have HC2 : Hid (∀ u, Below y9.heap.size y9 u → Calls Try.prog 25 #[.agg #[.int .i64 r, .int .i64 k], .agg #[.int .i64 r, .int .i64 k]] u fun e w' => e = .returned (.int .i64 D2) ∧ Below u.heap.size u w') := fun u _ => rvcmp_r _ _ _ _ u hD2
            have HFO : Hid (∀ u, Below y9.heap.size y9 u → Calls Try.prog 26 #[.agg #[.int .i64 s.ke, .slice a6 m6 c6], .agg #[.int .i64 ec, .slice a7 m7 c7], .int .i64 4] u fun e w' => e = .returned (.bool true) ∧ Below u.heap.size u w') := fun u hu =>
              rhfollows_r s.ke _ s.K ec _ Lo 4 u.heap.size u (RM.out.on hu).ints (RW.out.on hu).ints (Nat.le_refl _) (by have := A9.out.ok.len; dsimp only at this; omega) (by have := A9.out.ok.len; dsimp only at this; omega) (decide_eq_true (by have := A9.out.ok.yes rfl; dsimp only at this; rw [HN4.out] at this; exact this))
            clear hD2 hD2n
            have BB := Lib.hid (Below.refl y9.heap.size y9)
            obtain ⟨⟨⟨x0, x1⟩, x2, x3, x4, x5, x6, x7, x8⟩, ⟨z0, z1⟩, z2, z3, z4, z5, z6, z7, z8⟩ := FX.out _ BB.out
            rw [HY9.out] at x0 x1 x2 x3 x4 x5 x6 x7 x8 z0 z1 z2 z3 z4 z5 z6 z7 z8
            clear e8 e9 e57 c8 v9 hy8 hy9 hs8 HKN HVT CK VK C9 V9
            go_wp2_with fail
            rw [← HY9.out]
            refine (HC1.out _ BB.out).mono ?_
            rintro e u0 ⟨rfl, bu0⟩
            have BB2 := Lib.hid (BB.out.trans (bu0.mono BB.out.size))
            clear BB bu0
            have BB := BB2
            clear BB2
            clear x0 x1 x2 x3 x4 x5 x6 x7 x8 z0 z1 z2 z3 z4 z5 z6 z7 z8
            obtain ⟨⟨⟨x0, x1⟩, x2, x3, x4, x5, x6, x7, x8⟩, ⟨z0, z1⟩, z2, z3, z4, z5, z6, z7, z8⟩ := FX.out _ BB.out
            go_wp2_with fail
            refine (HC2.out _ BB.out).mono ?_
            rintro e u1 ⟨rfl, bu1⟩
            have BB2 := Lib.hid (BB.out.trans (bu1.mono BB.out.size))
            clear BB bu1
            have BB := BB2
            clear BB2
            clear x0 x1 x2 x3 x4 x5 x6 x7 x8 z0 z1 z2 z3 z4 z5 z6 z7 z8
            obtain ⟨⟨⟨x0, x1⟩, x2, x3, x4, x5, x6, x7, x8⟩, ⟨z0, z1⟩, z2, z3, z4, z5, z6, z7, z8⟩ := FX.out _ BB.out
            go_wp2_with fail
            refine (HFO.out _ BB.out).mono ?_
            rintro e u2 ⟨rfl, bu2⟩
            have BB2 := Lib.hid (BB.out.trans (bu2.mono BB.out.size))
            clear BB bu2
            have BB := BB2
            clear BB2
            clear x0 x1 x2 x3 x4 x5 x6 x7 x8 z0 z1 z2 z3 z4 z5 z6 z7 z8
            obtain ⟨⟨⟨x0, x1⟩, x2, x3, x4, x5, x6, x7, x8⟩, ⟨z0, z1⟩, z2, z3, z4, z5, z6, z7, z8⟩ := FX.out _ BB.out
            go_wp2_with fail
            go_roundw
            case rel => exact ⟨i + 1, (⟨s.n, s.ke, s.K, ⟨r, k, r, k, true, ec, Lo⟩⟩ : AccV), by omega, by omega, by go_num, A9.out.on BB.out, HN4.out⟩
            case measure => simp [intOf]; omega
          | false =>
            have HP : Hid (∀ u, AO n w p s u → Calls Try.prog 16 #[.pointer (some ⟨p, 0, none⟩), .agg #[.int .i64 ec, .slice oa lo oc], .agg #[.int .i64 r, .int .i64 k], .bool veto] u fun e w' => e = .returned (.int .i64 0) ∧ Hid (AO n w p (⟨s.n, s.ke, s.K, ⟨r, k, r, k, true, ec, Lo⟩⟩ : AccV) w' ∧ KC u w')) := fun u hu => (ao_acc hu ec _ Lo n (HF.out.2.keep hu.bel) hu.size (by have := HF.out.1; omega) r k veto (s' := (⟨s.n, s.ke, s.K, ⟨r, k, r, k, true, ec, Lo⟩⟩ : AccV)) (by rw [accS, if_pos h0]) (by exact h0)).mono fun _ _ ⟨he, hh⟩ => ⟨he, hh.out.1, kc_of hh.out.2⟩
            clear h0 hoh
            obtain ⟨g0, g1, g2, g3, g4, g5, g6⟩ := OZ.out.cells
            dsimp only at g0 g1 g2 g3 g4 g5 g6
            rw [HY4.out] at g0 g1 g2 g3 g4 g5 g6
            go_wp2_with fail
            rw [← HKB.out, ← HY4.out]
            refine (HP.out _ AZ.out).mono ?_
            rintro e w5 ⟨rfl, H5⟩
            clear g0 g1 g2 g3 g4 g5 g6
            have C5 := Lib.hid (H5.out.2.ch CZ.out)
            have V5 := Lib.hid (H5.out.2.vot VZ.out)
            have RK5 := Lib.hid (H5.out.2.row RKZ.out)
            have RC5 := Lib.hid (H5.out.2.row RCZ.out)
            clear HP
            have HKN : Hid (∀ u, AO n w p (⟨s.n, s.ke, s.K, ⟨r, k, r, k, true, ec, Lo⟩⟩ : AccV) u → Calls Try.prog 14 #[.pointer (some ⟨p, 0, none⟩)] u fun e w' => ∃ a m c, e = .returned (.agg #[.int .i64 s.ke, .slice a m c]) ∧ Hid (RowI w' (.slice a m c) s.K ∧ AO n w p (⟨s.n, s.ke, s.K, ⟨r, k, r, k, true, ec, Lo⟩⟩ : AccV) w' ∧ Below u.heap.size u w')) := fun u hu => ao_known hu
            have HVT : Hid (∀ u, AO n w p (⟨s.n, s.ke, s.K, ⟨r, k, r, k, true, ec, Lo⟩⟩ : AccV) u → Calls Try.prog 12 #[.pointer (some ⟨p, 0, none⟩)] u fun e w' => ∃ a m c, e = .returned (.agg #[.int .i64 r, .int .i64 k, .int .i64 r, .int .i64 k, .bool true, .int .i64 ec, .slice a m c]) ∧ Hid (RowI w' (.slice a m c) Lo ∧ AO n w p (⟨s.n, s.ke, s.K, ⟨r, k, r, k, true, ec, Lo⟩⟩ : AccV) w' ∧ Below u.heap.size u w')) := fun u hu => ao_vote hu
            go_wp2_with fail
            refine (HKN.out _ H5.out.1).mono ?_
            rintro e w6 ⟨a6, m6, c6, rfl, H6⟩
            go_wp2_with fail
            refine (HVT.out _ H6.out.2.1).mono ?_
            rintro e w7 ⟨a7, m7, c7, rfl, H7⟩
            obtain ⟨y8, hy8⟩ : ∃ y, y = w7.alloc (.cells #[.int .i64 s.ke, .slice a6 m6 c6] 28) := ⟨_, rfl⟩
            obtain ⟨y9, hy9⟩ : ∃ y, y = y8.alloc (.cells #[.int .i64 r, .int .i64 k, .int .i64 r, .int .i64 k, .bool true, .int .i64 ec, .slice a7 m7 c7] 32) := ⟨_, rfl⟩
            have e8 : Below w7.heap.size w7 y8 := by rw [hy8]; exact (Below.refl _ _).alloc (Nat.le_refl _) _
            have e9 : Below y8.heap.size y8 y9 := by rw [hy9]; exact (Below.refl _ _).alloc (Nat.le_refl _) _
            have e57 : Below w5.heap.size w5 y9 := H6.out.2.2.trans (((H7.out.2.2.trans ((e8.trans (e9.mono e8.size)).mono H7.out.2.2.size))).mono H6.out.2.2.size)
            have hs8 : y8.heap.size = w7.heap.size + 1 := by rw [hy8]; simp
            have c8 : ChT y8 w7.heap.size s.ke (.slice a6 m6 c6) := by rw [hy8]; exact ChT.fresh w7 _ _
            have v9 : VotB y9 (w7.heap.size + 1) (⟨r, k, r, k, true, ec, Lo⟩ : VoteV) (.slice a7 m7 c7) := by rw [hy9, ← hs8]; exact VotB.fresh y8 (⟨r, k, r, k, true, ec, Lo⟩ : VoteV) _
            have C9 := Lib.hid (c8.keep e9 c8.lt)
            have V9 := Lib.hid v9
            have A9 := Lib.hid ((H7.out.2.1.on e8).on e9)
            have RM := Lib.hid (((H6.out.1.on H7.out.2.2).on e8).on e9)
            have RW := Lib.hid ((H7.out.1.on e8).on e9)
            have CK := Lib.hid (C5.out.keep e57 C5.out.lt)
            have VK := Lib.hid (V5.out.keep e57 V5.out.lt)
            have RK9 := Lib.hid (RK5.out.on e57)
            have RC9 := Lib.hid (RC5.out.on e57)
            have HY9 : Hid (y9 = (w7.alloc (.cells #[.int .i64 s.ke, .slice a6 m6 c6] 28)).alloc (.cells #[.int .i64 r, .int .i64 k, .int .i64 r, .int .i64 k, .bool true, .int .i64 ec, .slice a7 m7 c7] 32)) := by show _ = _; rw [hy9, hy8]
            have FX : Hid (∀ u, Below y9.heap.size y9 u → ((u.cell? ⟨kb, 0, none⟩ = some (.int .i64 s.ke) ∧ u.cell? ⟨kb, 1, none⟩ = some (.slice ka km kc)) ∧ (u.cell? ⟨kb + 1, 0, none⟩ = some (.int .i64 s.v.pr) ∧ u.cell? ⟨kb + 1, 1, none⟩ = some (.int .i64 s.v.pn) ∧ u.cell? ⟨kb + 1, 2, none⟩ = some (.int .i64 s.v.ar) ∧ u.cell? ⟨kb + 1, 3, none⟩ = some (.int .i64 s.v.an) ∧ u.cell? ⟨kb + 1, 4, none⟩ = some (.bool false) ∧ u.cell? ⟨kb + 1, 5, none⟩ = some (.int .i64 s.v.ce) ∧ u.cell? ⟨kb + 1, 6, none⟩ = some (.slice va vm vc))) ∧ (u.cell? ⟨w7.heap.size, 0, none⟩ = some (.int .i64 s.ke) ∧ u.cell? ⟨w7.heap.size, 1, none⟩ = some (.slice a6 m6 c6)) ∧ (u.cell? ⟨w7.heap.size + 1, 0, none⟩ = some (.int .i64 r) ∧ u.cell? ⟨w7.heap.size + 1, 1, none⟩ = some (.int .i64 k) ∧ u.cell? ⟨w7.heap.size + 1, 2, none⟩ = some (.int .i64 r) ∧ u.cell? ⟨w7.heap.size + 1, 3, none⟩ = some (.int .i64 k) ∧ u.cell? ⟨w7.heap.size + 1, 4, none⟩ = some (.bool true) ∧ u.cell? ⟨w7.heap.size + 1, 5, none⟩ = some (.int .i64 ec) ∧ u.cell? ⟨w7.heap.size + 1, 6, none⟩ = some (.slice a7 m7 c7))) := fun u hu => by
              have q1 := (CK.out.keep hu CK.out.lt).cells
              have q2 := (VK.out.keep hu VK.out.lt).cells
              have q3 := (C9.out.keep hu C9.out.lt).cells
              have q4 := (V9.out.keep hu V9.out.lt).cells
              rw [HOH.out] at q2
              exact ⟨⟨⟨q1.1, q1.2.1⟩, q2⟩, ⟨q3.1, q3.2.1⟩, q4⟩
            obtain ⟨D, hD⟩ : ∃ D, cmpV (r) (k) s.v.pr s.v.pn = D := ⟨_, rfl⟩
            have hDn : ¬ D < 0 := by rw [← hD]; have := HZ.out.2.2.1; omega
            have hDb : decide (D < 0) = false := decide_eq_false hDn
            have HC1 : Hid (∀ u, Below y9.heap.size y9 u → Calls Try.prog 25 #[.agg #[.int .i64 r, .int .i64 k], .agg #[.int .i64 s.v.pr, .int .i64 s.v.pn]] u fun e w' => e = .returned (.int .i64 D) ∧ Below u.heap.size u w') := fun u _ => rvcmp_r _ _ _ _ u hD
            clear hD hDn
            obtain ⟨D2, hD2⟩ : ∃ D, cmpV (r) (k) (r) (k) = D := ⟨_, rfl⟩
            have hD2n : ¬ 0 < D2 := by rw [← hD2]; have := A9.out.ok.le; dsimp only at this; omega
            have hD2b : decide (0 < D2) = false := decide_eq_false hD2n
            have HC2 : Hid (∀ u, Below y9.heap.size y9 u → Calls Try.prog 25 #[.agg #[.int .i64 r, .int .i64 k], .agg #[.int .i64 r, .int .i64 k]] u fun e w' => e = .returned (.int .i64 D2) ∧ Below u.heap.size u w') := fun u _ => rvcmp_r _ _ _ _ u hD2
            have HFO : Hid (∀ u, Below y9.heap.size y9 u → Calls Try.prog 26 #[.agg #[.int .i64 s.ke, .slice a6 m6 c6], .agg #[.int .i64 ec, .slice a7 m7 c7], .int .i64 4] u fun e w' => e = .returned (.bool true) ∧ Below u.heap.size u w') := fun u hu =>
              rhfollows_r s.ke _ s.K ec _ Lo 4 u.heap.size u (RM.out.on hu).ints (RW.out.on hu).ints (Nat.le_refl _) (by have := A9.out.ok.len; dsimp only at this; omega) (by have := A9.out.ok.len; dsimp only at this; omega) (decide_eq_true (by have := A9.out.ok.yes rfl; dsimp only at this; rw [HN4.out] at this; exact this))
            clear hD2 hD2n
            have BB := Lib.hid (Below.refl y9.heap.size y9)
            obtain ⟨⟨⟨x0, x1⟩, x2, x3, x4, x5, x6, x7, x8⟩, ⟨z0, z1⟩, z2, z3, z4, z5, z6, z7, z8⟩ := FX.out _ BB.out
            rw [HY9.out] at x0 x1 x2 x3 x4 x5 x6 x7 x8 z0 z1 z2 z3 z4 z5 z6 z7 z8
            clear e8 e9 e57 c8 v9 hy8 hy9 hs8 HKN HVT CK VK C9 V9
            go_wp2_with fail
            rw [← HY9.out]
            refine (HC1.out _ BB.out).mono ?_
            rintro e u0 ⟨rfl, bu0⟩
            have BB2 := Lib.hid (BB.out.trans (bu0.mono BB.out.size))
            clear BB bu0
            have BB := BB2
            clear BB2
            clear x0 x1 x2 x3 x4 x5 x6 x7 x8 z0 z1 z2 z3 z4 z5 z6 z7 z8
            obtain ⟨⟨⟨x0, x1⟩, x2, x3, x4, x5, x6, x7, x8⟩, ⟨z0, z1⟩, z2, z3, z4, z5, z6, z7, z8⟩ := FX.out _ BB.out
            go_wp2_with fail
            refine (HC2.out _ BB.out).mono ?_
            rintro e u1 ⟨rfl, bu1⟩
            have BB2 := Lib.hid (BB.out.trans (bu1.mono BB.out.size))
            clear BB bu1
            have BB := BB2
            clear BB2
            clear x0 x1 x2 x3 x4 x5 x6 x7 x8 z0 z1 z2 z3 z4 z5 z6 z7 z8
            obtain ⟨⟨⟨x0, x1⟩, x2, x3, x4, x5, x6, x7, x8⟩, ⟨z0, z1⟩, z2, z3, z4, z5, z6, z7, z8⟩ := FX.out _ BB.out
            go_wp2_with fail
            refine (HFO.out _ BB.out).mono ?_
            rintro e u2 ⟨rfl, bu2⟩
            have BB2 := Lib.hid (BB.out.trans (bu2.mono BB.out.size))
            clear BB bu2
            have BB := BB2
            clear BB2
            clear x0 x1 x2 x3 x4 x5 x6 x7 x8 z0 z1 z2 z3 z4 z5 z6 z7 z8
            obtain ⟨⟨⟨x0, x1⟩, x2, x3, x4, x5, x6, x7, x8⟩, ⟨z0, z1⟩, z2, z3, z4, z5, z6, z7, z8⟩ := FX.out _ BB.out
            go_wp2_with fail
            go_roundw
            case rel => exact ⟨i + 1, (⟨s.n, s.ke, s.K, ⟨r, k, r, k, true, ec, Lo⟩⟩ : AccV), by omega, by omega, by go_num, A9.out.on BB.out, HN4.out⟩
            case measure => simp [intOf]; omega
        · obtain ⟨err, herr⟩ : ∃ e, accE s ec Lo r k veto = e := ⟨_, rfl⟩
          rw [herr] at h0
          have hb : (err != 0) = true := by simp [h0]
          have hb2 : (err == 0) = false := beq_eq_false_iff_ne.2 h0
          obtain ⟨ohas, hoh⟩ : ∃ b, s.v.has = b := ⟨_, rfl⟩
          have HOH := Lib.hid hoh
          cases ohas with
          | true =>
            have HP : Hid (∀ u, AO n w p s u → Calls Try.prog 16 #[.pointer (some ⟨p, 0, none⟩), .agg #[.int .i64 ec, .slice oa lo oc], .agg #[.int .i64 r, .int .i64 k], .bool veto] u fun e w' => e = .returned (.int .i64 err) ∧ Hid (AO n w p (⟨s.n, s.ke, s.K, ⟨s.v.pr, s.v.pn, s.v.ar, s.v.an, true, s.v.ce, s.v.C⟩⟩ : AccV) w' ∧ KC u w')) := fun u hu => (ao_acc hu ec _ Lo n (HF.out.2.keep hu.bel) hu.size (by have := HF.out.1; omega) r k veto (s' := (⟨s.n, s.ke, s.K, ⟨s.v.pr, s.v.pn, s.v.ar, s.v.an, true, s.v.ce, s.v.C⟩⟩ : AccV)) (by rw [accS, if_neg (by rw [herr]; exact h0), ← hoh]) (by exact herr)).mono fun _ _ ⟨he, hh⟩ => ⟨he, hh.out.1, kc_of hh.out.2⟩
            clear herr h0 hoh
            obtain ⟨g0, g1, g2, g3, g4, g5, g6⟩ := OZ.out.cells
            dsimp only at g0 g1 g2 g3 g4 g5 g6
            rw [HY4.out] at g0 g1 g2 g3 g4 g5 g6
            go_wp2_with fail
            rw [← HKB.out, ← HY4.out]
            refine (HP.out _ AZ.out).mono ?_
            rintro e w5 ⟨rfl, H5⟩
            clear g0 g1 g2 g3 g4 g5 g6
            have C5 := Lib.hid (H5.out.2.ch CZ.out)
            have V5 := Lib.hid (H5.out.2.vot VZ.out)
            have RK5 := Lib.hid (H5.out.2.row RKZ.out)
            have RC5 := Lib.hid (H5.out.2.row RCZ.out)
            clear HP
            have HKN : Hid (∀ u, AO n w p (⟨s.n, s.ke, s.K, ⟨s.v.pr, s.v.pn, s.v.ar, s.v.an, true, s.v.ce, s.v.C⟩⟩ : AccV) u → Calls Try.prog 14 #[.pointer (some ⟨p, 0, none⟩)] u fun e w' => ∃ a m c, e = .returned (.agg #[.int .i64 s.ke, .slice a m c]) ∧ Hid (RowI w' (.slice a m c) s.K ∧ AO n w p (⟨s.n, s.ke, s.K, ⟨s.v.pr, s.v.pn, s.v.ar, s.v.an, true, s.v.ce, s.v.C⟩⟩ : AccV) w' ∧ Below u.heap.size u w')) := fun u hu => ao_known hu
            have HVT : Hid (∀ u, AO n w p (⟨s.n, s.ke, s.K, ⟨s.v.pr, s.v.pn, s.v.ar, s.v.an, true, s.v.ce, s.v.C⟩⟩ : AccV) u → Calls Try.prog 12 #[.pointer (some ⟨p, 0, none⟩)] u fun e w' => ∃ a m c, e = .returned (.agg #[.int .i64 s.v.pr, .int .i64 s.v.pn, .int .i64 s.v.ar, .int .i64 s.v.an, .bool true, .int .i64 s.v.ce, .slice a m c]) ∧ Hid (RowI w' (.slice a m c) s.v.C ∧ AO n w p (⟨s.n, s.ke, s.K, ⟨s.v.pr, s.v.pn, s.v.ar, s.v.an, true, s.v.ce, s.v.C⟩⟩ : AccV) w' ∧ Below u.heap.size u w')) := fun u hu => ao_vote hu
            go_wp2_with fail
            refine (HKN.out _ H5.out.1).mono ?_
            rintro e w6 ⟨a6, m6, c6, rfl, H6⟩
            go_wp2_with fail
            refine (HVT.out _ H6.out.2.1).mono ?_
            rintro e w7 ⟨a7, m7, c7, rfl, H7⟩
            obtain ⟨y8, hy8⟩ : ∃ y, y = w7.alloc (.cells #[.int .i64 s.ke, .slice a6 m6 c6] 28) := ⟨_, rfl⟩
            obtain ⟨y9, hy9⟩ : ∃ y, y = y8.alloc (.cells #[.int .i64 s.v.pr, .int .i64 s.v.pn, .int .i64 s.v.ar, .int .i64 s.v.an, .bool true, .int .i64 s.v.ce, .slice a7 m7 c7] 32) := ⟨_, rfl⟩
            have e8 : Below w7.heap.size w7 y8 := by rw [hy8]; exact (Below.refl _ _).alloc (Nat.le_refl _) _
            have e9 : Below y8.heap.size y8 y9 := by rw [hy9]; exact (Below.refl _ _).alloc (Nat.le_refl _) _
            have e57 : Below w5.heap.size w5 y9 := H6.out.2.2.trans (((H7.out.2.2.trans ((e8.trans (e9.mono e8.size)).mono H7.out.2.2.size))).mono H6.out.2.2.size)
            have hs8 : y8.heap.size = w7.heap.size + 1 := by rw [hy8]; simp
            have c8 : ChT y8 w7.heap.size s.ke (.slice a6 m6 c6) := by rw [hy8]; exact ChT.fresh w7 _ _
            have v9 : VotB y9 (w7.heap.size + 1) (⟨s.v.pr, s.v.pn, s.v.ar, s.v.an, true, s.v.ce, s.v.C⟩ : VoteV) (.slice a7 m7 c7) := by rw [hy9, ← hs8]; exact VotB.fresh y8 (⟨s.v.pr, s.v.pn, s.v.ar, s.v.an, true, s.v.ce, s.v.C⟩ : VoteV) _
            have C9 := Lib.hid (c8.keep e9 c8.lt)
            have V9 := Lib.hid v9
            have A9 := Lib.hid ((H7.out.2.1.on e8).on e9)
            have RM := Lib.hid (((H6.out.1.on H7.out.2.2).on e8).on e9)
            have RW := Lib.hid ((H7.out.1.on e8).on e9)
            have CK := Lib.hid (C5.out.keep e57 C5.out.lt)
            have VK := Lib.hid (V5.out.keep e57 V5.out.lt)
            have RK9 := Lib.hid (RK5.out.on e57)
            have RC9 := Lib.hid (RC5.out.on e57)
            have HY9 : Hid (y9 = (w7.alloc (.cells #[.int .i64 s.ke, .slice a6 m6 c6] 28)).alloc (.cells #[.int .i64 s.v.pr, .int .i64 s.v.pn, .int .i64 s.v.ar, .int .i64 s.v.an, .bool true, .int .i64 s.v.ce, .slice a7 m7 c7] 32)) := by show _ = _; rw [hy9, hy8]
            have FX : Hid (∀ u, Below y9.heap.size y9 u → ((u.cell? ⟨kb, 0, none⟩ = some (.int .i64 s.ke) ∧ u.cell? ⟨kb, 1, none⟩ = some (.slice ka km kc)) ∧ (u.cell? ⟨kb + 1, 0, none⟩ = some (.int .i64 s.v.pr) ∧ u.cell? ⟨kb + 1, 1, none⟩ = some (.int .i64 s.v.pn) ∧ u.cell? ⟨kb + 1, 2, none⟩ = some (.int .i64 s.v.ar) ∧ u.cell? ⟨kb + 1, 3, none⟩ = some (.int .i64 s.v.an) ∧ u.cell? ⟨kb + 1, 4, none⟩ = some (.bool true) ∧ u.cell? ⟨kb + 1, 5, none⟩ = some (.int .i64 s.v.ce) ∧ u.cell? ⟨kb + 1, 6, none⟩ = some (.slice va vm vc))) ∧ (u.cell? ⟨w7.heap.size, 0, none⟩ = some (.int .i64 s.ke) ∧ u.cell? ⟨w7.heap.size, 1, none⟩ = some (.slice a6 m6 c6)) ∧ (u.cell? ⟨w7.heap.size + 1, 0, none⟩ = some (.int .i64 s.v.pr) ∧ u.cell? ⟨w7.heap.size + 1, 1, none⟩ = some (.int .i64 s.v.pn) ∧ u.cell? ⟨w7.heap.size + 1, 2, none⟩ = some (.int .i64 s.v.ar) ∧ u.cell? ⟨w7.heap.size + 1, 3, none⟩ = some (.int .i64 s.v.an) ∧ u.cell? ⟨w7.heap.size + 1, 4, none⟩ = some (.bool true) ∧ u.cell? ⟨w7.heap.size + 1, 5, none⟩ = some (.int .i64 s.v.ce) ∧ u.cell? ⟨w7.heap.size + 1, 6, none⟩ = some (.slice a7 m7 c7))) := fun u hu => by
              have q1 := (CK.out.keep hu CK.out.lt).cells
              have q2 := (VK.out.keep hu VK.out.lt).cells
              have q3 := (C9.out.keep hu C9.out.lt).cells
              have q4 := (V9.out.keep hu V9.out.lt).cells
              rw [HOH.out] at q2
              exact ⟨⟨⟨q1.1, q1.2.1⟩, q2⟩, ⟨q3.1, q3.2.1⟩, q4⟩
            have HSC : Hid (∀ u, Below y9.heap.size y9 u → Calls Try.prog 13 #[.agg #[.int .i64 s.ke, (.slice ka km kc)], .agg #[.int .i64 s.ke, .slice a6 m6 c6]] u fun e w' => e = .returned (.bool true) ∧ Below u.heap.size u w') := fun u hu => (refsame_any s.ke s.ke _ _ s.K s.K u.heap.size u (RK9.out.on hu).ints (RM.out.on hu).ints (Nat.le_refl _) (by have := HLEN.out; omega)).mono fun _ _ ⟨q1, q2⟩ => ⟨by simpa using q1, q2⟩
            have HSV : Hid (∀ u, Below y9.heap.size y9 u → Calls Try.prog 20 #[.agg #[.int .i64 s.v.pr, .int .i64 s.v.pn, .int .i64 s.v.ar, .int .i64 s.v.an, .bool true, .int .i64 s.v.ce, (.slice va vm vc)], .agg #[.int .i64 s.v.pr, .int .i64 s.v.pn, .int .i64 s.v.ar, .int .i64 s.v.an, .bool true, .int .i64 s.v.ce, .slice a7 m7 c7]] u fun e w' => e = .returned (.bool true) ∧ Below u.heap.size u w') := fun u hu => rsamevote_r (⟨s.v.pr, s.v.pn, s.v.ar, s.v.an, true, s.v.ce, s.v.C⟩ : VoteV) (.slice va vm vc) (.slice a7 m7 c7) u.heap.size u (RC9.out.on hu).ints (RW.out.on hu).ints (Nat.le_refl _) (by have := HLEN.out; show s.v.C.length ≤ _; omega)
            obtain ⟨D, hD⟩ : ∃ D, cmpV (s.v.pr) (s.v.pn) s.v.pr s.v.pn = D := ⟨_, rfl⟩
            have hDn : ¬ D < 0 := by rw [← hD]; rw [cmpV_same]; omega
            have hDb : decide (D < 0) = false := decide_eq_false hDn
            have HC1 : Hid (∀ u, Below y9.heap.size y9 u → Calls Try.prog 25 #[.agg #[.int .i64 s.v.pr, .int .i64 s.v.pn], .agg #[.int .i64 s.v.pr, .int .i64 s.v.pn]] u fun e w' => e = .returned (.int .i64 D) ∧ Below u.heap.size u w') := fun u _ => rvcmp_r _ _ _ _ u hD
            clear hD hDn
            obtain ⟨D2, hD2⟩ : ∃ D, cmpV (s.v.ar) (s.v.an) (s.v.pr) (s.v.pn) = D := ⟨_, rfl⟩
            have hD2n : ¬ 0 < D2 := by rw [← hD2]; have := A9.out.ok.le; dsimp only at this; omega
            have hD2b : decide (0 < D2) = false := decide_eq_false hD2n
            have HC2 : Hid (∀ u, Below y9.heap.size y9 u → Calls Try.prog 25 #[.agg #[.int .i64 s.v.ar, .int .i64 s.v.an], .agg #[.int .i64 s.v.pr, .int .i64 s.v.pn]] u fun e w' => e = .returned (.int .i64 D2) ∧ Below u.heap.size u w') := fun u _ => rvcmp_r _ _ _ _ u hD2
            have HFO : Hid (∀ u, Below y9.heap.size y9 u → Calls Try.prog 26 #[.agg #[.int .i64 s.ke, .slice a6 m6 c6], .agg #[.int .i64 s.v.ce, .slice a7 m7 c7], .int .i64 4] u fun e w' => e = .returned (.bool true) ∧ Below u.heap.size u w') := fun u hu =>
              rhfollows_r s.ke _ s.K s.v.ce _ s.v.C 4 u.heap.size u (RM.out.on hu).ints (RW.out.on hu).ints (Nat.le_refl _) (by have := A9.out.ok.len; dsimp only at this; omega) (by have := A9.out.ok.len; dsimp only at this; omega) (decide_eq_true (by have := A9.out.ok.yes rfl; dsimp only at this; rw [HN4.out] at this; exact this))
            clear hD2 hD2n
            have BB := Lib.hid (Below.refl y9.heap.size y9)
            obtain ⟨⟨⟨x0, x1⟩, x2, x3, x4, x5, x6, x7, x8⟩, ⟨z0, z1⟩, z2, z3, z4, z5, z6, z7, z8⟩ := FX.out _ BB.out
            rw [HY9.out] at x0 x1 x2 x3 x4 x5 x6 x7 x8 z0 z1 z2 z3 z4 z5 z6 z7 z8
            clear e8 e9 e57 c8 v9 hy8 hy9 hs8 HKN HVT CK VK C9 V9
            go_wp2_with fail
            rw [← HY9.out]
            refine (HSC.out _ BB.out).mono ?_
            rintro e u0 ⟨rfl, bu0⟩
            have BB2 := Lib.hid (BB.out.trans (bu0.mono BB.out.size))
            clear BB bu0
            have BB := BB2
            clear BB2
            clear x0 x1 x2 x3 x4 x5 x6 x7 x8 z0 z1 z2 z3 z4 z5 z6 z7 z8
            obtain ⟨⟨⟨x0, x1⟩, x2, x3, x4, x5, x6, x7, x8⟩, ⟨z0, z1⟩, z2, z3, z4, z5, z6, z7, z8⟩ := FX.out _ BB.out
            go_wp2_with fail
            refine (HSV.out _ BB.out).mono ?_
            rintro e u1 ⟨rfl, bu1⟩
            have BB2 := Lib.hid (BB.out.trans (bu1.mono BB.out.size))
            clear BB bu1
            have BB := BB2
            clear BB2
            clear x0 x1 x2 x3 x4 x5 x6 x7 x8 z0 z1 z2 z3 z4 z5 z6 z7 z8
            obtain ⟨⟨⟨x0, x1⟩, x2, x3, x4, x5, x6, x7, x8⟩, ⟨z0, z1⟩, z2, z3, z4, z5, z6, z7, z8⟩ := FX.out _ BB.out
            go_wp2_with fail
            refine (HC1.out _ BB.out).mono ?_
            rintro e u2 ⟨rfl, bu2⟩
            have BB2 := Lib.hid (BB.out.trans (bu2.mono BB.out.size))
            clear BB bu2
            have BB := BB2
            clear BB2
            clear x0 x1 x2 x3 x4 x5 x6 x7 x8 z0 z1 z2 z3 z4 z5 z6 z7 z8
            obtain ⟨⟨⟨x0, x1⟩, x2, x3, x4, x5, x6, x7, x8⟩, ⟨z0, z1⟩, z2, z3, z4, z5, z6, z7, z8⟩ := FX.out _ BB.out
            go_wp2_with fail
            refine (HC2.out _ BB.out).mono ?_
            rintro e u3 ⟨rfl, bu3⟩
            have BB2 := Lib.hid (BB.out.trans (bu3.mono BB.out.size))
            clear BB bu3
            have BB := BB2
            clear BB2
            clear x0 x1 x2 x3 x4 x5 x6 x7 x8 z0 z1 z2 z3 z4 z5 z6 z7 z8
            obtain ⟨⟨⟨x0, x1⟩, x2, x3, x4, x5, x6, x7, x8⟩, ⟨z0, z1⟩, z2, z3, z4, z5, z6, z7, z8⟩ := FX.out _ BB.out
            go_wp2_with fail
            refine (HFO.out _ BB.out).mono ?_
            rintro e u4 ⟨rfl, bu4⟩
            have BB2 := Lib.hid (BB.out.trans (bu4.mono BB.out.size))
            clear BB bu4
            have BB := BB2
            clear BB2
            clear x0 x1 x2 x3 x4 x5 x6 x7 x8 z0 z1 z2 z3 z4 z5 z6 z7 z8
            obtain ⟨⟨⟨x0, x1⟩, x2, x3, x4, x5, x6, x7, x8⟩, ⟨z0, z1⟩, z2, z3, z4, z5, z6, z7, z8⟩ := FX.out _ BB.out
            go_wp2_with fail
            go_roundw
            case rel => exact ⟨i + 1, (⟨s.n, s.ke, s.K, ⟨s.v.pr, s.v.pn, s.v.ar, s.v.an, true, s.v.ce, s.v.C⟩⟩ : AccV), by omega, by omega, by go_num, A9.out.on BB.out, HN4.out⟩
            case measure => simp [intOf]; omega
          | false =>
            have HP : Hid (∀ u, AO n w p s u → Calls Try.prog 16 #[.pointer (some ⟨p, 0, none⟩), .agg #[.int .i64 ec, .slice oa lo oc], .agg #[.int .i64 r, .int .i64 k], .bool veto] u fun e w' => e = .returned (.int .i64 err) ∧ Hid (AO n w p (⟨s.n, s.ke, s.K, ⟨s.v.pr, s.v.pn, s.v.ar, s.v.an, false, s.v.ce, s.v.C⟩⟩ : AccV) w' ∧ KC u w')) := fun u hu => (ao_acc hu ec _ Lo n (HF.out.2.keep hu.bel) hu.size (by have := HF.out.1; omega) r k veto (s' := (⟨s.n, s.ke, s.K, ⟨s.v.pr, s.v.pn, s.v.ar, s.v.an, false, s.v.ce, s.v.C⟩⟩ : AccV)) (by rw [accS, if_neg (by rw [herr]; exact h0), ← hoh]) (by exact herr)).mono fun _ _ ⟨he, hh⟩ => ⟨he, hh.out.1, kc_of hh.out.2⟩
            clear herr h0 hoh
            obtain ⟨g0, g1, g2, g3, g4, g5, g6⟩ := OZ.out.cells
            dsimp only at g0 g1 g2 g3 g4 g5 g6
            rw [HY4.out] at g0 g1 g2 g3 g4 g5 g6
            go_wp2_with fail
            rw [← HKB.out, ← HY4.out]
            refine (HP.out _ AZ.out).mono ?_
            rintro e w5 ⟨rfl, H5⟩
            clear g0 g1 g2 g3 g4 g5 g6
            have C5 := Lib.hid (H5.out.2.ch CZ.out)
            have V5 := Lib.hid (H5.out.2.vot VZ.out)
            have RK5 := Lib.hid (H5.out.2.row RKZ.out)
            have RC5 := Lib.hid (H5.out.2.row RCZ.out)
            clear HP
            have HKN : Hid (∀ u, AO n w p (⟨s.n, s.ke, s.K, ⟨s.v.pr, s.v.pn, s.v.ar, s.v.an, false, s.v.ce, s.v.C⟩⟩ : AccV) u → Calls Try.prog 14 #[.pointer (some ⟨p, 0, none⟩)] u fun e w' => ∃ a m c, e = .returned (.agg #[.int .i64 s.ke, .slice a m c]) ∧ Hid (RowI w' (.slice a m c) s.K ∧ AO n w p (⟨s.n, s.ke, s.K, ⟨s.v.pr, s.v.pn, s.v.ar, s.v.an, false, s.v.ce, s.v.C⟩⟩ : AccV) w' ∧ Below u.heap.size u w')) := fun u hu => ao_known hu
            have HVT : Hid (∀ u, AO n w p (⟨s.n, s.ke, s.K, ⟨s.v.pr, s.v.pn, s.v.ar, s.v.an, false, s.v.ce, s.v.C⟩⟩ : AccV) u → Calls Try.prog 12 #[.pointer (some ⟨p, 0, none⟩)] u fun e w' => ∃ a m c, e = .returned (.agg #[.int .i64 s.v.pr, .int .i64 s.v.pn, .int .i64 s.v.ar, .int .i64 s.v.an, .bool false, .int .i64 s.v.ce, .slice a m c]) ∧ Hid (RowI w' (.slice a m c) s.v.C ∧ AO n w p (⟨s.n, s.ke, s.K, ⟨s.v.pr, s.v.pn, s.v.ar, s.v.an, false, s.v.ce, s.v.C⟩⟩ : AccV) w' ∧ Below u.heap.size u w')) := fun u hu => ao_vote hu
            go_wp2_with fail
            refine (HKN.out _ H5.out.1).mono ?_
            rintro e w6 ⟨a6, m6, c6, rfl, H6⟩
            go_wp2_with fail
            refine (HVT.out _ H6.out.2.1).mono ?_
            rintro e w7 ⟨a7, m7, c7, rfl, H7⟩
            obtain ⟨y8, hy8⟩ : ∃ y, y = w7.alloc (.cells #[.int .i64 s.ke, .slice a6 m6 c6] 28) := ⟨_, rfl⟩
            obtain ⟨y9, hy9⟩ : ∃ y, y = y8.alloc (.cells #[.int .i64 s.v.pr, .int .i64 s.v.pn, .int .i64 s.v.ar, .int .i64 s.v.an, .bool false, .int .i64 s.v.ce, .slice a7 m7 c7] 32) := ⟨_, rfl⟩
            have e8 : Below w7.heap.size w7 y8 := by rw [hy8]; exact (Below.refl _ _).alloc (Nat.le_refl _) _
            have e9 : Below y8.heap.size y8 y9 := by rw [hy9]; exact (Below.refl _ _).alloc (Nat.le_refl _) _
            have e57 : Below w5.heap.size w5 y9 := H6.out.2.2.trans (((H7.out.2.2.trans ((e8.trans (e9.mono e8.size)).mono H7.out.2.2.size))).mono H6.out.2.2.size)
            have hs8 : y8.heap.size = w7.heap.size + 1 := by rw [hy8]; simp
            have c8 : ChT y8 w7.heap.size s.ke (.slice a6 m6 c6) := by rw [hy8]; exact ChT.fresh w7 _ _
            have v9 : VotB y9 (w7.heap.size + 1) (⟨s.v.pr, s.v.pn, s.v.ar, s.v.an, false, s.v.ce, s.v.C⟩ : VoteV) (.slice a7 m7 c7) := by rw [hy9, ← hs8]; exact VotB.fresh y8 (⟨s.v.pr, s.v.pn, s.v.ar, s.v.an, false, s.v.ce, s.v.C⟩ : VoteV) _
            have C9 := Lib.hid (c8.keep e9 c8.lt)
            have V9 := Lib.hid v9
            have A9 := Lib.hid ((H7.out.2.1.on e8).on e9)
            have RM := Lib.hid (((H6.out.1.on H7.out.2.2).on e8).on e9)
            have RW := Lib.hid ((H7.out.1.on e8).on e9)
            have CK := Lib.hid (C5.out.keep e57 C5.out.lt)
            have VK := Lib.hid (V5.out.keep e57 V5.out.lt)
            have RK9 := Lib.hid (RK5.out.on e57)
            have RC9 := Lib.hid (RC5.out.on e57)
            have HY9 : Hid (y9 = (w7.alloc (.cells #[.int .i64 s.ke, .slice a6 m6 c6] 28)).alloc (.cells #[.int .i64 s.v.pr, .int .i64 s.v.pn, .int .i64 s.v.ar, .int .i64 s.v.an, .bool false, .int .i64 s.v.ce, .slice a7 m7 c7] 32)) := by show _ = _; rw [hy9, hy8]
            have FX : Hid (∀ u, Below y9.heap.size y9 u → ((u.cell? ⟨kb, 0, none⟩ = some (.int .i64 s.ke) ∧ u.cell? ⟨kb, 1, none⟩ = some (.slice ka km kc)) ∧ (u.cell? ⟨kb + 1, 0, none⟩ = some (.int .i64 s.v.pr) ∧ u.cell? ⟨kb + 1, 1, none⟩ = some (.int .i64 s.v.pn) ∧ u.cell? ⟨kb + 1, 2, none⟩ = some (.int .i64 s.v.ar) ∧ u.cell? ⟨kb + 1, 3, none⟩ = some (.int .i64 s.v.an) ∧ u.cell? ⟨kb + 1, 4, none⟩ = some (.bool false) ∧ u.cell? ⟨kb + 1, 5, none⟩ = some (.int .i64 s.v.ce) ∧ u.cell? ⟨kb + 1, 6, none⟩ = some (.slice va vm vc))) ∧ (u.cell? ⟨w7.heap.size, 0, none⟩ = some (.int .i64 s.ke) ∧ u.cell? ⟨w7.heap.size, 1, none⟩ = some (.slice a6 m6 c6)) ∧ (u.cell? ⟨w7.heap.size + 1, 0, none⟩ = some (.int .i64 s.v.pr) ∧ u.cell? ⟨w7.heap.size + 1, 1, none⟩ = some (.int .i64 s.v.pn) ∧ u.cell? ⟨w7.heap.size + 1, 2, none⟩ = some (.int .i64 s.v.ar) ∧ u.cell? ⟨w7.heap.size + 1, 3, none⟩ = some (.int .i64 s.v.an) ∧ u.cell? ⟨w7.heap.size + 1, 4, none⟩ = some (.bool false) ∧ u.cell? ⟨w7.heap.size + 1, 5, none⟩ = some (.int .i64 s.v.ce) ∧ u.cell? ⟨w7.heap.size + 1, 6, none⟩ = some (.slice a7 m7 c7))) := fun u hu => by
              have q1 := (CK.out.keep hu CK.out.lt).cells
              have q2 := (VK.out.keep hu VK.out.lt).cells
              have q3 := (C9.out.keep hu C9.out.lt).cells
              have q4 := (V9.out.keep hu V9.out.lt).cells
              rw [HOH.out] at q2
              exact ⟨⟨⟨q1.1, q1.2.1⟩, q2⟩, ⟨q3.1, q3.2.1⟩, q4⟩
            have HSC : Hid (∀ u, Below y9.heap.size y9 u → Calls Try.prog 13 #[.agg #[.int .i64 s.ke, (.slice ka km kc)], .agg #[.int .i64 s.ke, .slice a6 m6 c6]] u fun e w' => e = .returned (.bool true) ∧ Below u.heap.size u w') := fun u hu => (refsame_any s.ke s.ke _ _ s.K s.K u.heap.size u (RK9.out.on hu).ints (RM.out.on hu).ints (Nat.le_refl _) (by have := HLEN.out; omega)).mono fun _ _ ⟨q1, q2⟩ => ⟨by simpa using q1, q2⟩
            have HSV : Hid (∀ u, Below y9.heap.size y9 u → Calls Try.prog 20 #[.agg #[.int .i64 s.v.pr, .int .i64 s.v.pn, .int .i64 s.v.ar, .int .i64 s.v.an, .bool false, .int .i64 s.v.ce, (.slice va vm vc)], .agg #[.int .i64 s.v.pr, .int .i64 s.v.pn, .int .i64 s.v.ar, .int .i64 s.v.an, .bool false, .int .i64 s.v.ce, .slice a7 m7 c7]] u fun e w' => e = .returned (.bool true) ∧ Below u.heap.size u w') := fun u hu => rsamevote_r (⟨s.v.pr, s.v.pn, s.v.ar, s.v.an, false, s.v.ce, s.v.C⟩ : VoteV) (.slice va vm vc) (.slice a7 m7 c7) u.heap.size u (RC9.out.on hu).ints (RW.out.on hu).ints (Nat.le_refl _) (by have := HLEN.out; show s.v.C.length ≤ _; omega)
            obtain ⟨D, hD⟩ : ∃ D, cmpV (s.v.pr) (s.v.pn) s.v.pr s.v.pn = D := ⟨_, rfl⟩
            have hDn : ¬ D < 0 := by rw [← hD]; rw [cmpV_same]; omega
            have hDb : decide (D < 0) = false := decide_eq_false hDn
            have HC1 : Hid (∀ u, Below y9.heap.size y9 u → Calls Try.prog 25 #[.agg #[.int .i64 s.v.pr, .int .i64 s.v.pn], .agg #[.int .i64 s.v.pr, .int .i64 s.v.pn]] u fun e w' => e = .returned (.int .i64 D) ∧ Below u.heap.size u w') := fun u _ => rvcmp_r _ _ _ _ u hD
            clear hD hDn
            have BB := Lib.hid (Below.refl y9.heap.size y9)
            obtain ⟨⟨⟨x0, x1⟩, x2, x3, x4, x5, x6, x7, x8⟩, ⟨z0, z1⟩, z2, z3, z4, z5, z6, z7, z8⟩ := FX.out _ BB.out
            rw [HY9.out] at x0 x1 x2 x3 x4 x5 x6 x7 x8 z0 z1 z2 z3 z4 z5 z6 z7 z8
            clear e8 e9 e57 c8 v9 hy8 hy9 hs8 HKN HVT CK VK C9 V9
            go_wp2_with fail
            rw [← HY9.out]
            refine (HSC.out _ BB.out).mono ?_
            rintro e u0 ⟨rfl, bu0⟩
            have BB2 := Lib.hid (BB.out.trans (bu0.mono BB.out.size))
            clear BB bu0
            have BB := BB2
            clear BB2
            clear x0 x1 x2 x3 x4 x5 x6 x7 x8 z0 z1 z2 z3 z4 z5 z6 z7 z8
            obtain ⟨⟨⟨x0, x1⟩, x2, x3, x4, x5, x6, x7, x8⟩, ⟨z0, z1⟩, z2, z3, z4, z5, z6, z7, z8⟩ := FX.out _ BB.out
            go_wp2_with fail
            refine (HSV.out _ BB.out).mono ?_
            rintro e u1 ⟨rfl, bu1⟩
            have BB2 := Lib.hid (BB.out.trans (bu1.mono BB.out.size))
            clear BB bu1
            have BB := BB2
            clear BB2
            clear x0 x1 x2 x3 x4 x5 x6 x7 x8 z0 z1 z2 z3 z4 z5 z6 z7 z8
            obtain ⟨⟨⟨x0, x1⟩, x2, x3, x4, x5, x6, x7, x8⟩, ⟨z0, z1⟩, z2, z3, z4, z5, z6, z7, z8⟩ := FX.out _ BB.out
            go_wp2_with fail
            refine (HC1.out _ BB.out).mono ?_
            rintro e u2 ⟨rfl, bu2⟩
            have BB2 := Lib.hid (BB.out.trans (bu2.mono BB.out.size))
            clear BB bu2
            have BB := BB2
            clear BB2
            clear x0 x1 x2 x3 x4 x5 x6 x7 x8 z0 z1 z2 z3 z4 z5 z6 z7 z8
            obtain ⟨⟨⟨x0, x1⟩, x2, x3, x4, x5, x6, x7, x8⟩, ⟨z0, z1⟩, z2, z3, z4, z5, z6, z7, z8⟩ := FX.out _ BB.out
            go_wp2_with fail
            go_roundw
            case rel => exact ⟨i + 1, (⟨s.n, s.ke, s.K, ⟨s.v.pr, s.v.pn, s.v.ar, s.v.an, false, s.v.ce, s.v.C⟩⟩ : AccV), by omega, by omega, by go_num, A9.out.on BB.out, HN4.out⟩
            case measure => simp [intOf]; omega
      · have hb0 : (kd == 0) = false := beq_eq_false_iff_ne.2 hk0
        have hb1 : (kd == 1) = false := beq_eq_false_iff_ne.2 hk1
        clear hk0 hk1
        by_cases h0 : lrnE s ec Lo = 0
        · have HZ := Lib.hid (lrnE_zero h0)
          have HP : Hid (∀ u, AO n w p s u → Calls Try.prog 11 #[.pointer (some ⟨p, 0, none⟩), .agg #[.int .i64 ec, .slice oa lo oc]] u fun e w' => e = .returned (.int .i64 0) ∧ Hid (AO n w p (⟨s.n, ec, Lo, ⟨0, 0, 0, 0, false, 0, []⟩⟩ : AccV) w' ∧ KC u w')) := fun u hu => (ao_lrn hu ec _ Lo n (HF.out.2.keep hu.bel) hu.size (by have := HF.out.1; omega) (s' := (⟨s.n, ec, Lo, ⟨0, 0, 0, 0, false, 0, []⟩⟩ : AccV)) (by rw [lrnS, if_pos h0]; rfl) (by exact h0)).mono fun _ _ ⟨he, hh⟩ => ⟨he, hh.out.1, kc_of hh.out.2⟩
          clear h0
          obtain ⟨g0, g1, g2, g3, g4, g5, g6⟩ := OZ.out.cells
          dsimp only at g0 g1 g2 g3 g4 g5 g6
          rw [HY4.out] at g0 g1 g2 g3 g4 g5 g6
          go_wp2_with fail
          rw [← HKB.out, ← HY4.out]
          refine (HP.out _ AZ.out).mono ?_
          rintro e w5 ⟨rfl, H5⟩
          clear g0 g1 g2 g3 g4 g5 g6
          have C5 := Lib.hid (H5.out.2.ch CZ.out)
          have V5 := Lib.hid (H5.out.2.vot VZ.out)
          have RK5 := Lib.hid (H5.out.2.row RKZ.out)
          have RC5 := Lib.hid (H5.out.2.row RCZ.out)
          clear HP
          have HKN : Hid (∀ u, AO n w p (⟨s.n, ec, Lo, ⟨0, 0, 0, 0, false, 0, []⟩⟩ : AccV) u → Calls Try.prog 14 #[.pointer (some ⟨p, 0, none⟩)] u fun e w' => ∃ a m c, e = .returned (.agg #[.int .i64 ec, .slice a m c]) ∧ Hid (RowI w' (.slice a m c) Lo ∧ AO n w p (⟨s.n, ec, Lo, ⟨0, 0, 0, 0, false, 0, []⟩⟩ : AccV) w' ∧ Below u.heap.size u w')) := fun u hu => ao_known hu
          have HVT : Hid (∀ u, AO n w p (⟨s.n, ec, Lo, ⟨0, 0, 0, 0, false, 0, []⟩⟩ : AccV) u → Calls Try.prog 12 #[.pointer (some ⟨p, 0, none⟩)] u fun e w' => ∃ a m c, e = .returned (.agg #[.int .i64 0, .int .i64 0, .int .i64 0, .int .i64 0, .bool false, .int .i64 0, .slice a m c]) ∧ Hid (RowI w' (.slice a m c) [] ∧ AO n w p (⟨s.n, ec, Lo, ⟨0, 0, 0, 0, false, 0, []⟩⟩ : AccV) w' ∧ Below u.heap.size u w')) := fun u hu => ao_vote hu
          go_wp2_with fail
          refine (HKN.out _ H5.out.1).mono ?_
          rintro e w6 ⟨a6, m6, c6, rfl, H6⟩
          go_wp2_with fail
          refine (HVT.out _ H6.out.2.1).mono ?_
          rintro e w7 ⟨a7, m7, c7, rfl, H7⟩
          obtain ⟨y8, hy8⟩ : ∃ y, y = w7.alloc (.cells #[.int .i64 ec, .slice a6 m6 c6] 28) := ⟨_, rfl⟩
          obtain ⟨y9, hy9⟩ : ∃ y, y = y8.alloc (.cells #[.int .i64 0, .int .i64 0, .int .i64 0, .int .i64 0, .bool false, .int .i64 0, .slice a7 m7 c7] 32) := ⟨_, rfl⟩
          have e8 : Below w7.heap.size w7 y8 := by rw [hy8]; exact (Below.refl _ _).alloc (Nat.le_refl _) _
          have e9 : Below y8.heap.size y8 y9 := by rw [hy9]; exact (Below.refl _ _).alloc (Nat.le_refl _) _
          have e57 : Below w5.heap.size w5 y9 := H6.out.2.2.trans (((H7.out.2.2.trans ((e8.trans (e9.mono e8.size)).mono H7.out.2.2.size))).mono H6.out.2.2.size)
          have hs8 : y8.heap.size = w7.heap.size + 1 := by rw [hy8]; simp
          have c8 : ChT y8 w7.heap.size ec (.slice a6 m6 c6) := by rw [hy8]; exact ChT.fresh w7 _ _
          have v9 : VotB y9 (w7.heap.size + 1) (⟨0, 0, 0, 0, false, 0, []⟩ : VoteV) (.slice a7 m7 c7) := by rw [hy9, ← hs8]; exact VotB.fresh y8 (⟨0, 0, 0, 0, false, 0, []⟩ : VoteV) _
          have C9 := Lib.hid (c8.keep e9 c8.lt)
          have V9 := Lib.hid v9
          have A9 := Lib.hid ((H7.out.2.1.on e8).on e9)
          have RM := Lib.hid (((H6.out.1.on H7.out.2.2).on e8).on e9)
          have RW := Lib.hid ((H7.out.1.on e8).on e9)
          have CK := Lib.hid (C5.out.keep e57 C5.out.lt)
          have VK := Lib.hid (V5.out.keep e57 V5.out.lt)
          have RK9 := Lib.hid (RK5.out.on e57)
          have RC9 := Lib.hid (RC5.out.on e57)
          have HY9 : Hid (y9 = (w7.alloc (.cells #[.int .i64 ec, .slice a6 m6 c6] 28)).alloc (.cells #[.int .i64 0, .int .i64 0, .int .i64 0, .int .i64 0, .bool false, .int .i64 0, .slice a7 m7 c7] 32)) := by show _ = _; rw [hy9, hy8]
          have FX : Hid (∀ u, Below y9.heap.size y9 u → ((u.cell? ⟨kb, 0, none⟩ = some (.int .i64 s.ke) ∧ u.cell? ⟨kb, 1, none⟩ = some (.slice ka km kc)) ∧ (u.cell? ⟨kb + 1, 0, none⟩ = some (.int .i64 s.v.pr) ∧ u.cell? ⟨kb + 1, 1, none⟩ = some (.int .i64 s.v.pn) ∧ u.cell? ⟨kb + 1, 2, none⟩ = some (.int .i64 s.v.ar) ∧ u.cell? ⟨kb + 1, 3, none⟩ = some (.int .i64 s.v.an) ∧ u.cell? ⟨kb + 1, 4, none⟩ = some (.bool s.v.has) ∧ u.cell? ⟨kb + 1, 5, none⟩ = some (.int .i64 s.v.ce) ∧ u.cell? ⟨kb + 1, 6, none⟩ = some (.slice va vm vc))) ∧ (u.cell? ⟨w7.heap.size, 0, none⟩ = some (.int .i64 ec) ∧ u.cell? ⟨w7.heap.size, 1, none⟩ = some (.slice a6 m6 c6)) ∧ (u.cell? ⟨w7.heap.size + 1, 0, none⟩ = some (.int .i64 0) ∧ u.cell? ⟨w7.heap.size + 1, 1, none⟩ = some (.int .i64 0) ∧ u.cell? ⟨w7.heap.size + 1, 2, none⟩ = some (.int .i64 0) ∧ u.cell? ⟨w7.heap.size + 1, 3, none⟩ = some (.int .i64 0) ∧ u.cell? ⟨w7.heap.size + 1, 4, none⟩ = some (.bool false) ∧ u.cell? ⟨w7.heap.size + 1, 5, none⟩ = some (.int .i64 0) ∧ u.cell? ⟨w7.heap.size + 1, 6, none⟩ = some (.slice a7 m7 c7))) := fun u hu => by
            have q1 := (CK.out.keep hu CK.out.lt).cells
            have q2 := (VK.out.keep hu VK.out.lt).cells
            have q3 := (C9.out.keep hu C9.out.lt).cells
            have q4 := (V9.out.keep hu V9.out.lt).cells
            exact ⟨⟨⟨q1.1, q1.2.1⟩, q2⟩, ⟨q3.1, q3.2.1⟩, q4⟩
          have hke : (ec == s.ke) = false := by simp; have := HZ.out.2.2; omega
          have hkl : decide (ec < s.ke) = false := decide_eq_false (by have := HZ.out.2.2; omega)
          have hkl2 : ¬ ec < s.ke := by have := HZ.out.2.2; omega
          have BB := Lib.hid (Below.refl y9.heap.size y9)
          obtain ⟨⟨⟨x0, x1⟩, x2, x3, x4, x5, x6, x7, x8⟩, ⟨z0, z1⟩, z2, z3, z4, z5, z6, z7, z8⟩ := FX.out _ BB.out
          rw [HY9.out] at x0 x1 x2 x3 x4 x5 x6 x7 x8 z0 z1 z2 z3 z4 z5 z6 z7 z8
          clear e8 e9 e57 c8 v9 hy8 hy9 hs8 HKN HVT CK VK C9 V9
          go_wp2_with fail
          go_roundw
          case rel => exact ⟨i + 1, (⟨s.n, ec, Lo, ⟨0, 0, 0, 0, false, 0, []⟩⟩ : AccV), by omega, by omega, by go_num, by rw [← HY9.out]; exact A9.out, HN4.out⟩
          case measure => simp [intOf]; omega
        · obtain ⟨err, herr⟩ : ∃ e, lrnE s ec Lo = e := ⟨_, rfl⟩
          rw [herr] at h0
          have hb : (err != 0) = true := by simp [h0]
          have hb2 : (err == 0) = false := beq_eq_false_iff_ne.2 h0
          obtain ⟨ohas, hoh⟩ : ∃ b, s.v.has = b := ⟨_, rfl⟩
          have HOH := Lib.hid hoh
          cases ohas with
          | true =>
            have HP : Hid (∀ u, AO n w p s u → Calls Try.prog 11 #[.pointer (some ⟨p, 0, none⟩), .agg #[.int .i64 ec, .slice oa lo oc]] u fun e w' => e = .returned (.int .i64 err) ∧ Hid (AO n w p (⟨s.n, s.ke, s.K, ⟨s.v.pr, s.v.pn, s.v.ar, s.v.an, true, s.v.ce, s.v.C⟩⟩ : AccV) w' ∧ KC u w')) := fun u hu => (ao_lrn hu ec _ Lo n (HF.out.2.keep hu.bel) hu.size (by have := HF.out.1; omega) (s' := (⟨s.n, s.ke, s.K, ⟨s.v.pr, s.v.pn, s.v.ar, s.v.an, true, s.v.ce, s.v.C⟩⟩ : AccV)) (by rw [lrnS, if_neg (by rw [herr]; exact h0), ← hoh]) (by exact herr)).mono fun _ _ ⟨he, hh⟩ => ⟨he, hh.out.1, kc_of hh.out.2⟩
            clear herr h0 hoh
            obtain ⟨g0, g1, g2, g3, g4, g5, g6⟩ := OZ.out.cells
            dsimp only at g0 g1 g2 g3 g4 g5 g6
            rw [HY4.out] at g0 g1 g2 g3 g4 g5 g6
            go_wp2_with fail
            rw [← HKB.out, ← HY4.out]
            refine (HP.out _ AZ.out).mono ?_
            rintro e w5 ⟨rfl, H5⟩
            clear g0 g1 g2 g3 g4 g5 g6
            have C5 := Lib.hid (H5.out.2.ch CZ.out)
            have V5 := Lib.hid (H5.out.2.vot VZ.out)
            have RK5 := Lib.hid (H5.out.2.row RKZ.out)
            have RC5 := Lib.hid (H5.out.2.row RCZ.out)
            clear HP
            have HKN : Hid (∀ u, AO n w p (⟨s.n, s.ke, s.K, ⟨s.v.pr, s.v.pn, s.v.ar, s.v.an, true, s.v.ce, s.v.C⟩⟩ : AccV) u → Calls Try.prog 14 #[.pointer (some ⟨p, 0, none⟩)] u fun e w' => ∃ a m c, e = .returned (.agg #[.int .i64 s.ke, .slice a m c]) ∧ Hid (RowI w' (.slice a m c) s.K ∧ AO n w p (⟨s.n, s.ke, s.K, ⟨s.v.pr, s.v.pn, s.v.ar, s.v.an, true, s.v.ce, s.v.C⟩⟩ : AccV) w' ∧ Below u.heap.size u w')) := fun u hu => ao_known hu
            have HVT : Hid (∀ u, AO n w p (⟨s.n, s.ke, s.K, ⟨s.v.pr, s.v.pn, s.v.ar, s.v.an, true, s.v.ce, s.v.C⟩⟩ : AccV) u → Calls Try.prog 12 #[.pointer (some ⟨p, 0, none⟩)] u fun e w' => ∃ a m c, e = .returned (.agg #[.int .i64 s.v.pr, .int .i64 s.v.pn, .int .i64 s.v.ar, .int .i64 s.v.an, .bool true, .int .i64 s.v.ce, .slice a m c]) ∧ Hid (RowI w' (.slice a m c) s.v.C ∧ AO n w p (⟨s.n, s.ke, s.K, ⟨s.v.pr, s.v.pn, s.v.ar, s.v.an, true, s.v.ce, s.v.C⟩⟩ : AccV) w' ∧ Below u.heap.size u w')) := fun u hu => ao_vote hu
            go_wp2_with fail
            refine (HKN.out _ H5.out.1).mono ?_
            rintro e w6 ⟨a6, m6, c6, rfl, H6⟩
            go_wp2_with fail
            refine (HVT.out _ H6.out.2.1).mono ?_
            rintro e w7 ⟨a7, m7, c7, rfl, H7⟩
            obtain ⟨y8, hy8⟩ : ∃ y, y = w7.alloc (.cells #[.int .i64 s.ke, .slice a6 m6 c6] 28) := ⟨_, rfl⟩
            obtain ⟨y9, hy9⟩ : ∃ y, y = y8.alloc (.cells #[.int .i64 s.v.pr, .int .i64 s.v.pn, .int .i64 s.v.ar, .int .i64 s.v.an, .bool true, .int .i64 s.v.ce, .slice a7 m7 c7] 32) := ⟨_, rfl⟩
            have e8 : Below w7.heap.size w7 y8 := by rw [hy8]; exact (Below.refl _ _).alloc (Nat.le_refl _) _
            have e9 : Below y8.heap.size y8 y9 := by rw [hy9]; exact (Below.refl _ _).alloc (Nat.le_refl _) _
            have e57 : Below w5.heap.size w5 y9 := H6.out.2.2.trans (((H7.out.2.2.trans ((e8.trans (e9.mono e8.size)).mono H7.out.2.2.size))).mono H6.out.2.2.size)
            have hs8 : y8.heap.size = w7.heap.size + 1 := by rw [hy8]; simp
            have c8 : ChT y8 w7.heap.size s.ke (.slice a6 m6 c6) := by rw [hy8]; exact ChT.fresh w7 _ _
            have v9 : VotB y9 (w7.heap.size + 1) (⟨s.v.pr, s.v.pn, s.v.ar, s.v.an, true, s.v.ce, s.v.C⟩ : VoteV) (.slice a7 m7 c7) := by rw [hy9, ← hs8]; exact VotB.fresh y8 (⟨s.v.pr, s.v.pn, s.v.ar, s.v.an, true, s.v.ce, s.v.C⟩ : VoteV) _
            have C9 := Lib.hid (c8.keep e9 c8.lt)
            have V9 := Lib.hid v9
            have A9 := Lib.hid ((H7.out.2.1.on e8).on e9)
            have RM := Lib.hid (((H6.out.1.on H7.out.2.2).on e8).on e9)
            have RW := Lib.hid ((H7.out.1.on e8).on e9)
            have CK := Lib.hid (C5.out.keep e57 C5.out.lt)
            have VK := Lib.hid (V5.out.keep e57 V5.out.lt)
            have RK9 := Lib.hid (RK5.out.on e57)
            have RC9 := Lib.hid (RC5.out.on e57)
            have HY9 : Hid (y9 = (w7.alloc (.cells #[.int .i64 s.ke, .slice a6 m6 c6] 28)).alloc (.cells #[.int .i64 s.v.pr, .int .i64 s.v.pn, .int .i64 s.v.ar, .int .i64 s.v.an, .bool true, .int .i64 s.v.ce, .slice a7 m7 c7] 32)) := by show _ = _; rw [hy9, hy8]
            have FX : Hid (∀ u, Below y9.heap.size y9 u → ((u.cell? ⟨kb, 0, none⟩ = some (.int .i64 s.ke) ∧ u.cell? ⟨kb, 1, none⟩ = some (.slice ka km kc)) ∧ (u.cell? ⟨kb + 1, 0, none⟩ = some (.int .i64 s.v.pr) ∧ u.cell? ⟨kb + 1, 1, none⟩ = some (.int .i64 s.v.pn) ∧ u.cell? ⟨kb + 1, 2, none⟩ = some (.int .i64 s.v.ar) ∧ u.cell? ⟨kb + 1, 3, none⟩ = some (.int .i64 s.v.an) ∧ u.cell? ⟨kb + 1, 4, none⟩ = some (.bool true) ∧ u.cell? ⟨kb + 1, 5, none⟩ = some (.int .i64 s.v.ce) ∧ u.cell? ⟨kb + 1, 6, none⟩ = some (.slice va vm vc))) ∧ (u.cell? ⟨w7.heap.size, 0, none⟩ = some (.int .i64 s.ke) ∧ u.cell? ⟨w7.heap.size, 1, none⟩ = some (.slice a6 m6 c6)) ∧ (u.cell? ⟨w7.heap.size + 1, 0, none⟩ = some (.int .i64 s.v.pr) ∧ u.cell? ⟨w7.heap.size + 1, 1, none⟩ = some (.int .i64 s.v.pn) ∧ u.cell? ⟨w7.heap.size + 1, 2, none⟩ = some (.int .i64 s.v.ar) ∧ u.cell? ⟨w7.heap.size + 1, 3, none⟩ = some (.int .i64 s.v.an) ∧ u.cell? ⟨w7.heap.size + 1, 4, none⟩ = some (.bool true) ∧ u.cell? ⟨w7.heap.size + 1, 5, none⟩ = some (.int .i64 s.v.ce) ∧ u.cell? ⟨w7.heap.size + 1, 6, none⟩ = some (.slice a7 m7 c7))) := fun u hu => by
              have q1 := (CK.out.keep hu CK.out.lt).cells
              have q2 := (VK.out.keep hu VK.out.lt).cells
              have q3 := (C9.out.keep hu C9.out.lt).cells
              have q4 := (V9.out.keep hu V9.out.lt).cells
              rw [HOH.out] at q2
              exact ⟨⟨⟨q1.1, q1.2.1⟩, q2⟩, ⟨q3.1, q3.2.1⟩, q4⟩
            have HSC : Hid (∀ u, Below y9.heap.size y9 u → Calls Try.prog 13 #[.agg #[.int .i64 s.ke, (.slice ka km kc)], .agg #[.int .i64 s.ke, .slice a6 m6 c6]] u fun e w' => e = .returned (.bool true) ∧ Below u.heap.size u w') := fun u hu => (refsame_any s.ke s.ke _ _ s.K s.K u.heap.size u (RK9.out.on hu).ints (RM.out.on hu).ints (Nat.le_refl _) (by have := HLEN.out; omega)).mono fun _ _ ⟨q1, q2⟩ => ⟨by simpa using q1, q2⟩
            have HSV : Hid (∀ u, Below y9.heap.size y9 u → Calls Try.prog 20 #[.agg #[.int .i64 s.v.pr, .int .i64 s.v.pn, .int .i64 s.v.ar, .int .i64 s.v.an, .bool true, .int .i64 s.v.ce, (.slice va vm vc)], .agg #[.int .i64 s.v.pr, .int .i64 s.v.pn, .int .i64 s.v.ar, .int .i64 s.v.an, .bool true, .int .i64 s.v.ce, .slice a7 m7 c7]] u fun e w' => e = .returned (.bool true) ∧ Below u.heap.size u w') := fun u hu => rsamevote_r (⟨s.v.pr, s.v.pn, s.v.ar, s.v.an, true, s.v.ce, s.v.C⟩ : VoteV) (.slice va vm vc) (.slice a7 m7 c7) u.heap.size u (RC9.out.on hu).ints (RW.out.on hu).ints (Nat.le_refl _) (by have := HLEN.out; show s.v.C.length ≤ _; omega)
            obtain ⟨D, hD⟩ : ∃ D, cmpV (s.v.pr) (s.v.pn) s.v.pr s.v.pn = D := ⟨_, rfl⟩
            have hDn : ¬ D < 0 := by rw [← hD]; rw [cmpV_same]; omega
            have hDb : decide (D < 0) = false := decide_eq_false hDn
            have HC1 : Hid (∀ u, Below y9.heap.size y9 u → Calls Try.prog 25 #[.agg #[.int .i64 s.v.pr, .int .i64 s.v.pn], .agg #[.int .i64 s.v.pr, .int .i64 s.v.pn]] u fun e w' => e = .returned (.int .i64 D) ∧ Below u.heap.size u w') := fun u _ => rvcmp_r _ _ _ _ u hD
            clear hD hDn
            obtain ⟨D2, hD2⟩ : ∃ D, cmpV (s.v.ar) (s.v.an) (s.v.pr) (s.v.pn) = D := ⟨_, rfl⟩
            have hD2n : ¬ 0 < D2 := by rw [← hD2]; have := A9.out.ok.le; dsimp only at this; omega
            have hD2b : decide (0 < D2) = false := decide_eq_false hD2n
            have HC2 : Hid (∀ u, Below y9.heap.size y9 u → Calls Try.prog 25 #[.agg #[.int .i64 s.v.ar, .int .i64 s.v.an], .agg #[.int .i64 s.v.pr, .int .i64 s.v.pn]] u fun e w' => e = .returned (.int .i64 D2) ∧ Below u.heap.size u w') := fun u _ => rvcmp_r _ _ _ _ u hD2
            have HFO : Hid (∀ u, Below y9.heap.size y9 u → Calls Try.prog 26 #[.agg #[.int .i64 s.ke, .slice a6 m6 c6], .agg #[.int .i64 s.v.ce, .slice a7 m7 c7], .int .i64 4] u fun e w' => e = .returned (.bool true) ∧ Below u.heap.size u w') := fun u hu =>
              rhfollows_r s.ke _ s.K s.v.ce _ s.v.C 4 u.heap.size u (RM.out.on hu).ints (RW.out.on hu).ints (Nat.le_refl _) (by have := A9.out.ok.len; dsimp only at this; omega) (by have := A9.out.ok.len; dsimp only at this; omega) (decide_eq_true (by have := A9.out.ok.yes rfl; dsimp only at this; rw [HN4.out] at this; exact this))
            clear hD2 hD2n
            have BB := Lib.hid (Below.refl y9.heap.size y9)
            obtain ⟨⟨⟨x0, x1⟩, x2, x3, x4, x5, x6, x7, x8⟩, ⟨z0, z1⟩, z2, z3, z4, z5, z6, z7, z8⟩ := FX.out _ BB.out
            rw [HY9.out] at x0 x1 x2 x3 x4 x5 x6 x7 x8 z0 z1 z2 z3 z4 z5 z6 z7 z8
            clear e8 e9 e57 c8 v9 hy8 hy9 hs8 HKN HVT CK VK C9 V9
            go_wp2_with fail
            rw [← HY9.out]
            refine (HSC.out _ BB.out).mono ?_
            rintro e u0 ⟨rfl, bu0⟩
            have BB2 := Lib.hid (BB.out.trans (bu0.mono BB.out.size))
            clear BB bu0
            have BB := BB2
            clear BB2
            clear x0 x1 x2 x3 x4 x5 x6 x7 x8 z0 z1 z2 z3 z4 z5 z6 z7 z8
            obtain ⟨⟨⟨x0, x1⟩, x2, x3, x4, x5, x6, x7, x8⟩, ⟨z0, z1⟩, z2, z3, z4, z5, z6, z7, z8⟩ := FX.out _ BB.out
            go_wp2_with fail
            refine (HSV.out _ BB.out).mono ?_
            rintro e u1 ⟨rfl, bu1⟩
            have BB2 := Lib.hid (BB.out.trans (bu1.mono BB.out.size))
            clear BB bu1
            have BB := BB2
            clear BB2
            clear x0 x1 x2 x3 x4 x5 x6 x7 x8 z0 z1 z2 z3 z4 z5 z6 z7 z8
            obtain ⟨⟨⟨x0, x1⟩, x2, x3, x4, x5, x6, x7, x8⟩, ⟨z0, z1⟩, z2, z3, z4, z5, z6, z7, z8⟩ := FX.out _ BB.out
            go_wp2_with fail
            refine (HC1.out _ BB.out).mono ?_
            rintro e u2 ⟨rfl, bu2⟩
            have BB2 := Lib.hid (BB.out.trans (bu2.mono BB.out.size))
            clear BB bu2
            have BB := BB2
            clear BB2
            clear x0 x1 x2 x3 x4 x5 x6 x7 x8 z0 z1 z2 z3 z4 z5 z6 z7 z8
            obtain ⟨⟨⟨x0, x1⟩, x2, x3, x4, x5, x6, x7, x8⟩, ⟨z0, z1⟩, z2, z3, z4, z5, z6, z7, z8⟩ := FX.out _ BB.out
            go_wp2_with fail
            refine (HC2.out _ BB.out).mono ?_
            rintro e u3 ⟨rfl, bu3⟩
            have BB2 := Lib.hid (BB.out.trans (bu3.mono BB.out.size))
            clear BB bu3
            have BB := BB2
            clear BB2
            clear x0 x1 x2 x3 x4 x5 x6 x7 x8 z0 z1 z2 z3 z4 z5 z6 z7 z8
            obtain ⟨⟨⟨x0, x1⟩, x2, x3, x4, x5, x6, x7, x8⟩, ⟨z0, z1⟩, z2, z3, z4, z5, z6, z7, z8⟩ := FX.out _ BB.out
            go_wp2_with fail
            refine (HFO.out _ BB.out).mono ?_
            rintro e u4 ⟨rfl, bu4⟩
            have BB2 := Lib.hid (BB.out.trans (bu4.mono BB.out.size))
            clear BB bu4
            have BB := BB2
            clear BB2
            clear x0 x1 x2 x3 x4 x5 x6 x7 x8 z0 z1 z2 z3 z4 z5 z6 z7 z8
            obtain ⟨⟨⟨x0, x1⟩, x2, x3, x4, x5, x6, x7, x8⟩, ⟨z0, z1⟩, z2, z3, z4, z5, z6, z7, z8⟩ := FX.out _ BB.out
            go_wp2_with fail
            go_roundw
            case rel => exact ⟨i + 1, (⟨s.n, s.ke, s.K, ⟨s.v.pr, s.v.pn, s.v.ar, s.v.an, true, s.v.ce, s.v.C⟩⟩ : AccV), by omega, by omega, by go_num, A9.out.on BB.out, HN4.out⟩
            case measure => simp [intOf]; omega
          | false =>
            have HP : Hid (∀ u, AO n w p s u → Calls Try.prog 11 #[.pointer (some ⟨p, 0, none⟩), .agg #[.int .i64 ec, .slice oa lo oc]] u fun e w' => e = .returned (.int .i64 err) ∧ Hid (AO n w p (⟨s.n, s.ke, s.K, ⟨s.v.pr, s.v.pn, s.v.ar, s.v.an, false, s.v.ce, s.v.C⟩⟩ : AccV) w' ∧ KC u w')) := fun u hu => (ao_lrn hu ec _ Lo n (HF.out.2.keep hu.bel) hu.size (by have := HF.out.1; omega) (s' := (⟨s.n, s.ke, s.K, ⟨s.v.pr, s.v.pn, s.v.ar, s.v.an, false, s.v.ce, s.v.C⟩⟩ : AccV)) (by rw [lrnS, if_neg (by rw [herr]; exact h0), ← hoh]) (by exact herr)).mono fun _ _ ⟨he, hh⟩ => ⟨he, hh.out.1, kc_of hh.out.2⟩
            clear herr h0 hoh
            obtain ⟨g0, g1, g2, g3, g4, g5, g6⟩ := OZ.out.cells
            dsimp only at g0 g1 g2 g3 g4 g5 g6
            rw [HY4.out] at g0 g1 g2 g3 g4 g5 g6
            go_wp2_with fail
            rw [← HKB.out, ← HY4.out]
            refine (HP.out _ AZ.out).mono ?_
            rintro e w5 ⟨rfl, H5⟩
            clear g0 g1 g2 g3 g4 g5 g6
            have C5 := Lib.hid (H5.out.2.ch CZ.out)
            have V5 := Lib.hid (H5.out.2.vot VZ.out)
            have RK5 := Lib.hid (H5.out.2.row RKZ.out)
            have RC5 := Lib.hid (H5.out.2.row RCZ.out)
            clear HP
            have HKN : Hid (∀ u, AO n w p (⟨s.n, s.ke, s.K, ⟨s.v.pr, s.v.pn, s.v.ar, s.v.an, false, s.v.ce, s.v.C⟩⟩ : AccV) u → Calls Try.prog 14 #[.pointer (some ⟨p, 0, none⟩)] u fun e w' => ∃ a m c, e = .returned (.agg #[.int .i64 s.ke, .slice a m c]) ∧ Hid (RowI w' (.slice a m c) s.K ∧ AO n w p (⟨s.n, s.ke, s.K, ⟨s.v.pr, s.v.pn, s.v.ar, s.v.an, false, s.v.ce, s.v.C⟩⟩ : AccV) w' ∧ Below u.heap.size u w')) := fun u hu => ao_known hu
            have HVT : Hid (∀ u, AO n w p (⟨s.n, s.ke, s.K, ⟨s.v.pr, s.v.pn, s.v.ar, s.v.an, false, s.v.ce, s.v.C⟩⟩ : AccV) u → Calls Try.prog 12 #[.pointer (some ⟨p, 0, none⟩)] u fun e w' => ∃ a m c, e = .returned (.agg #[.int .i64 s.v.pr, .int .i64 s.v.pn, .int .i64 s.v.ar, .int .i64 s.v.an, .bool false, .int .i64 s.v.ce, .slice a m c]) ∧ Hid (RowI w' (.slice a m c) s.v.C ∧ AO n w p (⟨s.n, s.ke, s.K, ⟨s.v.pr, s.v.pn, s.v.ar, s.v.an, false, s.v.ce, s.v.C⟩⟩ : AccV) w' ∧ Below u.heap.size u w')) := fun u hu => ao_vote hu
            go_wp2_with fail
            refine (HKN.out _ H5.out.1).mono ?_
            rintro e w6 ⟨a6, m6, c6, rfl, H6⟩
            go_wp2_with fail
            refine (HVT.out _ H6.out.2.1).mono ?_
            rintro e w7 ⟨a7, m7, c7, rfl, H7⟩
            obtain ⟨y8, hy8⟩ : ∃ y, y = w7.alloc (.cells #[.int .i64 s.ke, .slice a6 m6 c6] 28) := ⟨_, rfl⟩
            obtain ⟨y9, hy9⟩ : ∃ y, y = y8.alloc (.cells #[.int .i64 s.v.pr, .int .i64 s.v.pn, .int .i64 s.v.ar, .int .i64 s.v.an, .bool false, .int .i64 s.v.ce, .slice a7 m7 c7] 32) := ⟨_, rfl⟩
            have e8 : Below w7.heap.size w7 y8 := by rw [hy8]; exact (Below.refl _ _).alloc (Nat.le_refl _) _
            have e9 : Below y8.heap.size y8 y9 := by rw [hy9]; exact (Below.refl _ _).alloc (Nat.le_refl _) _
            have e57 : Below w5.heap.size w5 y9 := H6.out.2.2.trans (((H7.out.2.2.trans ((e8.trans (e9.mono e8.size)).mono H7.out.2.2.size))).mono H6.out.2.2.size)
            have hs8 : y8.heap.size = w7.heap.size + 1 := by rw [hy8]; simp
            have c8 : ChT y8 w7.heap.size s.ke (.slice a6 m6 c6) := by rw [hy8]; exact ChT.fresh w7 _ _
            have v9 : VotB y9 (w7.heap.size + 1) (⟨s.v.pr, s.v.pn, s.v.ar, s.v.an, false, s.v.ce, s.v.C⟩ : VoteV) (.slice a7 m7 c7) := by rw [hy9, ← hs8]; exact VotB.fresh y8 (⟨s.v.pr, s.v.pn, s.v.ar, s.v.an, false, s.v.ce, s.v.C⟩ : VoteV) _
            have C9 := Lib.hid (c8.keep e9 c8.lt)
            have V9 := Lib.hid v9
            have A9 := Lib.hid ((H7.out.2.1.on e8).on e9)
            have RM := Lib.hid (((H6.out.1.on H7.out.2.2).on e8).on e9)
            have RW := Lib.hid ((H7.out.1.on e8).on e9)
            have CK := Lib.hid (C5.out.keep e57 C5.out.lt)
            have VK := Lib.hid (V5.out.keep e57 V5.out.lt)
            have RK9 := Lib.hid (RK5.out.on e57)
            have RC9 := Lib.hid (RC5.out.on e57)
            have HY9 : Hid (y9 = (w7.alloc (.cells #[.int .i64 s.ke, .slice a6 m6 c6] 28)).alloc (.cells #[.int .i64 s.v.pr, .int .i64 s.v.pn, .int .i64 s.v.ar, .int .i64 s.v.an, .bool false, .int .i64 s.v.ce, .slice a7 m7 c7] 32)) := by show _ = _; rw [hy9, hy8]
            have FX : Hid (∀ u, Below y9.heap.size y9 u → ((u.cell? ⟨kb, 0, none⟩ = some (.int .i64 s.ke) ∧ u.cell? ⟨kb, 1, none⟩ = some (.slice ka km kc)) ∧ (u.cell? ⟨kb + 1, 0, none⟩ = some (.int .i64 s.v.pr) ∧ u.cell? ⟨kb + 1, 1, none⟩ = some (.int .i64 s.v.pn) ∧ u.cell? ⟨kb + 1, 2, none⟩ = some (.int .i64 s.v.ar) ∧ u.cell? ⟨kb + 1, 3, none⟩ = some (.int .i64 s.v.an) ∧ u.cell? ⟨kb + 1, 4, none⟩ = some (.bool false) ∧ u.cell? ⟨kb + 1, 5, none⟩ = some (.int .i64 s.v.ce) ∧ u.cell? ⟨kb + 1, 6, none⟩ = some (.slice va vm vc))) ∧ (u.cell? ⟨w7.heap.size, 0, none⟩ = some (.int .i64 s.ke) ∧ u.cell? ⟨w7.heap.size, 1, none⟩ = some (.slice a6 m6 c6)) ∧ (u.cell? ⟨w7.heap.size + 1, 0, none⟩ = some (.int .i64 s.v.pr) ∧ u.cell? ⟨w7.heap.size + 1, 1, none⟩ = some (.int .i64 s.v.pn) ∧ u.cell? ⟨w7.heap.size + 1, 2, none⟩ = some (.int .i64 s.v.ar) ∧ u.cell? ⟨w7.heap.size + 1, 3, none⟩ = some (.int .i64 s.v.an) ∧ u.cell? ⟨w7.heap.size + 1, 4, none⟩ = some (.bool false) ∧ u.cell? ⟨w7.heap.size + 1, 5, none⟩ = some (.int .i64 s.v.ce) ∧ u.cell? ⟨w7.heap.size + 1, 6, none⟩ = some (.slice a7 m7 c7))) := fun u hu => by
              have q1 := (CK.out.keep hu CK.out.lt).cells
              have q2 := (VK.out.keep hu VK.out.lt).cells
              have q3 := (C9.out.keep hu C9.out.lt).cells
              have q4 := (V9.out.keep hu V9.out.lt).cells
              rw [HOH.out] at q2
              exact ⟨⟨⟨q1.1, q1.2.1⟩, q2⟩, ⟨q3.1, q3.2.1⟩, q4⟩
            have HSC : Hid (∀ u, Below y9.heap.size y9 u → Calls Try.prog 13 #[.agg #[.int .i64 s.ke, (.slice ka km kc)], .agg #[.int .i64 s.ke, .slice a6 m6 c6]] u fun e w' => e = .returned (.bool true) ∧ Below u.heap.size u w') := fun u hu => (refsame_any s.ke s.ke _ _ s.K s.K u.heap.size u (RK9.out.on hu).ints (RM.out.on hu).ints (Nat.le_refl _) (by have := HLEN.out; omega)).mono fun _ _ ⟨q1, q2⟩ => ⟨by simpa using q1, q2⟩
            have HSV : Hid (∀ u, Below y9.heap.size y9 u → Calls Try.prog 20 #[.agg #[.int .i64 s.v.pr, .int .i64 s.v.pn, .int .i64 s.v.ar, .int .i64 s.v.an, .bool false, .int .i64 s.v.ce, (.slice va vm vc)], .agg #[.int .i64 s.v.pr, .int .i64 s.v.pn, .int .i64 s.v.ar, .int .i64 s.v.an, .bool false, .int .i64 s.v.ce, .slice a7 m7 c7]] u fun e w' => e = .returned (.bool true) ∧ Below u.heap.size u w') := fun u hu => rsamevote_r (⟨s.v.pr, s.v.pn, s.v.ar, s.v.an, false, s.v.ce, s.v.C⟩ : VoteV) (.slice va vm vc) (.slice a7 m7 c7) u.heap.size u (RC9.out.on hu).ints (RW.out.on hu).ints (Nat.le_refl _) (by have := HLEN.out; show s.v.C.length ≤ _; omega)
            obtain ⟨D, hD⟩ : ∃ D, cmpV (s.v.pr) (s.v.pn) s.v.pr s.v.pn = D := ⟨_, rfl⟩
            have hDn : ¬ D < 0 := by rw [← hD]; rw [cmpV_same]; omega
            have hDb : decide (D < 0) = false := decide_eq_false hDn
            have HC1 : Hid (∀ u, Below y9.heap.size y9 u → Calls Try.prog 25 #[.agg #[.int .i64 s.v.pr, .int .i64 s.v.pn], .agg #[.int .i64 s.v.pr, .int .i64 s.v.pn]] u fun e w' => e = .returned (.int .i64 D) ∧ Below u.heap.size u w') := fun u _ => rvcmp_r _ _ _ _ u hD
            clear hD hDn
            have BB := Lib.hid (Below.refl y9.heap.size y9)
            obtain ⟨⟨⟨x0, x1⟩, x2, x3, x4, x5, x6, x7, x8⟩, ⟨z0, z1⟩, z2, z3, z4, z5, z6, z7, z8⟩ := FX.out _ BB.out
            rw [HY9.out] at x0 x1 x2 x3 x4 x5 x6 x7 x8 z0 z1 z2 z3 z4 z5 z6 z7 z8
            clear e8 e9 e57 c8 v9 hy8 hy9 hs8 HKN HVT CK VK C9 V9
            go_wp2_with fail
            rw [← HY9.out]
            refine (HSC.out _ BB.out).mono ?_
            rintro e u0 ⟨rfl, bu0⟩
            have BB2 := Lib.hid (BB.out.trans (bu0.mono BB.out.size))
            clear BB bu0
            have BB := BB2
            clear BB2
            clear x0 x1 x2 x3 x4 x5 x6 x7 x8 z0 z1 z2 z3 z4 z5 z6 z7 z8
            obtain ⟨⟨⟨x0, x1⟩, x2, x3, x4, x5, x6, x7, x8⟩, ⟨z0, z1⟩, z2, z3, z4, z5, z6, z7, z8⟩ := FX.out _ BB.out
            go_wp2_with fail
            refine (HSV.out _ BB.out).mono ?_
            rintro e u1 ⟨rfl, bu1⟩
            have BB2 := Lib.hid (BB.out.trans (bu1.mono BB.out.size))
            clear BB bu1
            have BB := BB2
            clear BB2
            clear x0 x1 x2 x3 x4 x5 x6 x7 x8 z0 z1 z2 z3 z4 z5 z6 z7 z8
            obtain ⟨⟨⟨x0, x1⟩, x2, x3, x4, x5, x6, x7, x8⟩, ⟨z0, z1⟩, z2, z3, z4, z5, z6, z7, z8⟩ := FX.out _ BB.out
            go_wp2_with fail
            refine (HC1.out _ BB.out).mono ?_
            rintro e u2 ⟨rfl, bu2⟩
            have BB2 := Lib.hid (BB.out.trans (bu2.mono BB.out.size))
            clear BB bu2
            have BB := BB2
            clear BB2
            clear x0 x1 x2 x3 x4 x5 x6 x7 x8 z0 z1 z2 z3 z4 z5 z6 z7 z8
            obtain ⟨⟨⟨x0, x1⟩, x2, x3, x4, x5, x6, x7, x8⟩, ⟨z0, z1⟩, z2, z3, z4, z5, z6, z7, z8⟩ := FX.out _ BB.out
            go_wp2_with fail
            go_roundw
            case rel => exact ⟨i + 1, (⟨s.n, s.ke, s.K, ⟨s.v.pr, s.v.pn, s.v.ar, s.v.an, false, s.v.ce, s.v.C⟩⟩ : AccV), by omega, by omega, by go_num, A9.out.on BB.out, HN4.out⟩
            case measure => simp [intOf]; omega

set_option maxRecDepth 100000 in
theorem lifted (os : Os) (started : os.Started) (H : Type) (enc : TypeId × Value → H) :
    ReturnsInHanded {} Try.checked os 6 .any (Rows.acceptRisesSpec.pre6 enc Try.prog Try.f6 Rows.acceptRisesRow.domain false) (Rows.acceptRisesSpec.post enc Try.prog Try.f6 false true false false) := by
  refine returnsInHanded_of_change (C := Try.checked) own started (by kernel_rfl) Try.func6
    (ChangeSpec.witness6 (enc := enc) (C := Try.checked) false ⟨#[], #[.slice none 0 0], []⟩ 8 (by kernel_rfl) (by kernel_rfl) (by kernel_rfl) (by kernel_rfl)) ?_
  intro W base args ds gs before hval0 hW hcnd _
  have hval : ∀ (j : Nat) t v, Try.f6.params[j]? = some t → args[j]? = some v → Value.okWide Try.prog W .any base t v := hval0
  have hW' := hW
  obtain ⟨p, q, hA0, hV, rfl, hfz, hnd⟩ := hW
  have hA : DataW.TrodAll enc Try.prog W 0 (fun _ => true) true Try.f6.params.toList args.toList ds p := hA0
  rw [Try.params6] at hA hval
  obtain ⟨v0, vs0, d0, ds0, p0, q0, hargs, rfl, rfl, h0, r0⟩ := trodAll_cons hA
  obtain ⟨rfl, rfl, rfl⟩ := trodAll_nil r0
  obtain rfl : args = #[v0] := by cases args; simp_all
  obtain ⟨rfl, rfl⟩ := trodVars_none hV
  obtain ⟨a0, len0, cap0, rfl⟩ := okWide_slice Try.underlying45 (hval 0 45 v0 rfl rfl)
  have k0 := h0
  have lt0 : ∀ x ∈ p0, x.block < W.heap.size := by obtain ⟨m, hm⟩ := k0; exact DataW.trod_lt m _ _ _ hm
  obtain ⟨l0, w0⟩ := asteps_open h0
  clear hA0 hval0
  refine (walk (.slice a0 len0 cap0) l0 W w0).mono fun e W' ⟨he, bel⟩ => ?_
  subst he
  exact ⟨_, rfl, _, _, _, [], _, [], hW', trodAll_mk1 (shut_bool Try.underlying4 _), (trodAll_cons_mk (Below.trod laidOut (by kernel_rfl) (of_decide_eq_true (by kernel_rfl)) k0 bel lt0) trodAll_mk0), rfl, bel.frame _, fun h => by cases h⟩

theorem over : Rows.acceptRisesRow.holds Try.pinned (OpenSpec.ofChange Rows.acceptRisesSpec) :=
  OpenClaim.holds_of_wide 6 Try.f6 rfl rfl rfl rfl rfl rfl rfl ⟨rfl, rfl, rfl, rfl, rfl⟩ rfl rfl rfl rfl rfl (by kernel_rfl) Try.func6 (by kernel_rfl)
    (of_decide_eq_true (by kernel_rfl)) (by unfold Func.isWrapper; first | (rw [if_pos (by decide +kernel)]; kernel_rfl) | (rw [if_neg (by decide +kernel)]; exact ⟨rfl, rfl⟩))
    (fun os started H enc _ => lifted os started H enc)
end Go.Proofs.Ytaaffceanjpmbaa.AcceptRises

namespace Go.Proofs.Ytaaffceanjpmbaa
theorem acceptRises_holds : Rows.AcceptRisesSaid := AcceptRises.over
#print axioms acceptRises_holds
end Go.Proofs.Ytaaffceanjpmbaa
