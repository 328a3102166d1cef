/-
  Rounds, Bytes (program's, reference's), by contract; TOLD: what casebooklaw24.told asks holds. No condition.
-/
import Derived.Test.YtpcbpimlakehcaaBoV
namespace Go.Proofs.Ytpcbpimlakehcaa
open Go.RowKit

theorem may_a {a b c : Int} (h : mayK a b c = true) : a = 1 ∨ a = 2 ∨ a = 3 ∨ a = 4 ∨ a = 5 := by
  have := of_decide_eq_true h
  omega
/-- What the walk spells of the rounds. -/
theorem rnd_sum {a b c : Int} (n : Int) (h : mayK a b c = true) : IntKind.i64.wrap (IntKind.i64.wrap (1000 + IntKind.i64.wrap (600 * a)) + IntKind.i64.wrap (IntKind.i64.wrap (20 * a) * cntK n)) = rndK a b c n := by
  unfold rndK
  rw [if_pos h]
  obtain ⟨m0, m1⟩ := cntK_in n
  generalize cntK n = m at m0 m1 ⊢
  rcases may_a h with rfl | rfl | rfl | rfl | rfl <;> simp only [IntKind.wrap_i64] <;> omega

set_option maxRecDepth 100000 in
set_option maxHeartbeats 2000000 in
theorem borounds_r (a b c n : Int) (w : World) (R : Int) (hR : Hid (rndK a b c n = R)) :
    Calls Try.prog 46 #[.agg #[.int .i64 a, .int .i64 b, .int .i64 c], .int .i64 n] w fun e w' => e = .returned (.int .i64 R) ∧ Below w.heap.size w w' := by
  obtain ⟨M, hM⟩ : ∃ M, mayK a b c = M := ⟨_, rfl⟩
  have HM := Lib.hid (fun u => bomay_r a b c u M hM)
  have HX : Hid (ConB w.heap.size a b c (w.alloc (.cells #[.int .i64 a, .int .i64 b, .int .i64 c] 81))) := heap_alloc_new w _
  have HB : Hid (Below w.heap.size w (w.alloc (.cells #[.int .i64 a, .int .i64 b, .int .i64 c] 81))) := (Below.refl _ w).alloc (Nat.le_refl _) _
  have HC : Hid (∀ u, Calls Try.prog 72 #[.int .i64 n] u fun e w' => e = .returned (.int .i64 (cntK n)) ∧ Below u.heap.size u w') := fun u => (bocnt_r n u).mono fun _ _ ⟨he, hw⟩ => ⟨he, hw ▸ Below.refl _ u⟩
  obtain ⟨c0, c1, c2⟩ := HX.out.cells
  go_enter Try.func46, Try.ntmps46
  cases M
  · have HR : Hid ((0 : Int) = R) := by show _ = _; rw [← hR.out]; unfold rndK; rw [hM]; rfl
    clear hR hM
    go_wp2_with fail
    with_reducible refine (HM.out _).mono ?_
    rintro e w1 ⟨rfl, B1⟩
    have HB1 := Lib.hid (HB.out.trans (B1.mono HB.out.size))
    clear B1 c0 c1 c2
    go_wp2
    go_returns
    exact ⟨congrArg (fun z => Ending.returned (.int .i64 z)) HR.out, HB1.out⟩
  · have HR : Hid (IntKind.i64.wrap (IntKind.i64.wrap (1000 + IntKind.i64.wrap (600 * a)) + IntKind.i64.wrap (IntKind.i64.wrap (20 * a) * cntK n)) = R) := by show _ = _; rw [← hR.out]; exact rnd_sum n hM
    clear hR hM
    go_wp2_with fail
    with_reducible refine (HM.out _).mono ?_
    rintro e w1 ⟨rfl, B1⟩
    have HB1 := Lib.hid (HB.out.trans (B1.mono HB.out.size))
    have X1 := Lib.hid (HX.out.on (B1.mono (by simp)))
    clear B1 c0 c1 c2
    have FX : Hid (∀ u, Below w1.heap.size w1 u → u.cell? ⟨w.heap.size, 0, none⟩ = some (.int .i64 a) ∧ u.cell? ⟨w.heap.size, 1, none⟩ = some (.int .i64 b) ∧ u.cell? ⟨w.heap.size, 2, none⟩ = some (.int .i64 c)) := fun u hu => (X1.out.on hu).cells
    generalize cntK n = m at HC HR
    go_wp2_with fail
    refine region_quiet (fun v => Below w1.heap.size w1 v) (by kernel_rfl) (by kernel_rfl) (Below.refl _ _).drew ?_
    repeat (first
      | go_big_quiet_skip
      | (go_big_quiet_want
         (first
          | (refine quiet_run (v := ?_) ?_ ?_; rotate_left; (intro u hu; obtain ⟨c0, c1, c2⟩ := FX.out u hu; go_simp <;> with_reducible rfl); simp only [Act.put, List.setIfInBounds_toArray, List.set_cons_zero, List.set_cons_succ]; go_big_quiet_on)
          | (refine quiet_enter 72 _ ?_ (fun u hu => (HC.out u).mono fun e u' ⟨he, hb⟩ => ⟨he, hu.trans (hb.mono hu.size)⟩) ?_; (focus (intro u; first | (go_simp; done) | (go_simp; with_reducible rfl))); simp only [Act.put, List.setIfInBounds_toArray, List.set_cons_zero, List.set_cons_succ]; go_big_quiet_on))))
    refine wpQuiet_nil ?_
    intro w4 h4
    have C4 : Hid (Below w.heap.size w w4) := HB1.out.trans (h4.mono HB1.out.size)
    clear FX h4
    go_wp2
    go_returns
    exact ⟨congrArg (fun z => Ending.returned (.int .i64 z)) HR.out, C4.out⟩

set_option maxRecDepth 100000 in
set_option maxHeartbeats 2000000 in
theorem bobytes_r (a b c n : Int) (w : World) (R : Int) (hR : Hid (bytK a b c n = R)) :
    Calls Try.prog 48 #[.agg #[.int .i64 a, .int .i64 b, .int .i64 c], .int .i64 n] w fun e w' => e = .returned (.int .i64 R) ∧ Below w.heap.size w w' := by
  obtain ⟨M, hM⟩ : ∃ M, mayK a b c = M := ⟨_, rfl⟩
  have HM := Lib.hid (fun u => bomay_r a b c u M hM)
  have HX : Hid (ConB w.heap.size a b c (w.alloc (.cells #[.int .i64 a, .int .i64 b, .int .i64 c] 81))) := heap_alloc_new w _
  have HB : Hid (Below w.heap.size w (w.alloc (.cells #[.int .i64 a, .int .i64 b, .int .i64 c] 81))) := (Below.refl _ w).alloc (Nat.le_refl _) _
  have HC : Hid (∀ u, Calls Try.prog 72 #[.int .i64 n] u fun e w' => e = .returned (.int .i64 (cntK n)) ∧ Below u.heap.size u w') := fun u => (bocnt_r n u).mono fun _ _ ⟨he, hw⟩ => ⟨he, hw ▸ Below.refl _ u⟩
  obtain ⟨c0, c1, c2⟩ := HX.out.cells
  go_enter Try.func48, Try.ntmps48
  cases M
  · have HR : Hid ((0 : Int) = R) := by show _ = _; rw [← hR.out]; unfold bytK; rw [hM]; rfl
    clear hR hM
    go_wp2_with fail
    with_reducible refine (HM.out _).mono ?_
    rintro e w1 ⟨rfl, B1⟩
    have HB1 := Lib.hid (HB.out.trans (B1.mono HB.out.size))
    clear B1 c0 c1 c2
    go_wp2
    go_returns
    exact ⟨congrArg (fun z => Ending.returned (.int .i64 z)) HR.out, HB1.out⟩
  · obtain ⟨m0, m1⟩ := cntK_in n
    have HR : Hid (130 * cntK n = R) := by show _ = _; rw [← hR.out]; unfold bytK; rw [if_pos hM]
    clear hR hM
    go_wp2_with fail
    with_reducible refine (HM.out _).mono ?_
    rintro e w1 ⟨rfl, B1⟩
    have HB1 := Lib.hid (HB.out.trans (B1.mono HB.out.size))
    clear B1 c0 c1 c2
    generalize cntK n = m at m0 m1 HC HR
    go_wp2_with fail
    with_reducible refine (HC.out _).mono ?_
    rintro e w2 ⟨rfl, B2⟩
    have HB2 := Lib.hid (HB1.out.trans (B2.mono HB1.out.size))
    clear B2 HB1
    go_wp2
    go_returns
    exact ⟨congrArg (fun z => Ending.returned (.int .i64 z)) HR.out, HB2.out⟩

set_option maxRecDepth 100000 in
set_option maxHeartbeats 2000000 in
theorem qbomay_r (a b c : Int) (w : World) (R : Bool) (hR : Hid (mayK a b c = R)) :
    Calls Try.prog 45 #[.agg #[.int .i64 a, .int .i64 b, .int .i64 c]] w fun e w' => e = .returned (.bool R) ∧ Below w.heap.size w w' := by
  have HX : Hid (ConB w.heap.size a b c (w.alloc (.cells #[.int .i64 a, .int .i64 b, .int .i64 c] 81))) := heap_alloc_new w _
  have HB : Hid (Below w.heap.size w (w.alloc (.cells #[.int .i64 a, .int .i64 b, .int .i64 c] 81))) := (Below.refl _ w).alloc (Nat.le_refl _) _
  obtain ⟨c0, c1, c2⟩ := HX.out.cells
  go_enter Try.func45, Try.ntmps45
  by_cases h1 : 1 ≤ a
  · by_cases h2 : a ≤ 5
    · by_cases h3 : 1 ≤ b
      · by_cases h4 : b ≤ 4
        · by_cases h5 : 1 ≤ c
          · by_cases h6 : c ≤ 100
            · have HF : Hid (R = true) := (hR.out).symm.trans (decide_eq_true (by omega))
              clear hR
              go_wp2
              go_returns
              exact ⟨ret_bool HF.out.symm, HB.out⟩
            · have HF : Hid (R = false) := (hR.out).symm.trans (decide_eq_false (by omega))
              clear hR
              go_wp2
              go_returns
              exact ⟨ret_bool HF.out.symm, HB.out⟩
          · have HF : Hid (R = false) := (hR.out).symm.trans (decide_eq_false (by omega))
            clear hR
            go_wp2
            go_returns
            exact ⟨ret_bool HF.out.symm, HB.out⟩
        · have HF : Hid (R = false) := (hR.out).symm.trans (decide_eq_false (by omega))
          clear hR
          go_wp2
          go_returns
          exact ⟨ret_bool HF.out.symm, HB.out⟩
      · have HF : Hid (R = false) := (hR.out).symm.trans (decide_eq_false (by omega))
        clear hR
        go_wp2
        go_returns
        exact ⟨ret_bool HF.out.symm, HB.out⟩
    · have HF : Hid (R = false) := (hR.out).symm.trans (decide_eq_false (by omega))
      clear hR
      go_wp2
      go_returns
      exact ⟨ret_bool HF.out.symm, HB.out⟩
  · have HF : Hid (R = false) := (hR.out).symm.trans (decide_eq_false (by omega))
    clear hR
    go_wp2
    go_returns
    exact ⟨ret_bool HF.out.symm, HB.out⟩

set_option maxRecDepth 100000 in
set_option maxHeartbeats 2000000 in
theorem qborounds_r (a b c n : Int) (w : World) (R : Int) (hR : Hid (rndK a b c n = R)) :
    Calls Try.prog 47 #[.agg #[.int .i64 a, .int .i64 b, .int .i64 c], .int .i64 n] w fun e w' => e = .returned (.int .i64 R) ∧ Below w.heap.size w w' := by
  obtain ⟨M, hM⟩ : ∃ M, mayK a b c = M := ⟨_, rfl⟩
  have HM := Lib.hid (fun u => qbomay_r a b c u M hM)
  have HX : Hid (ConB w.heap.size a b c (w.alloc (.cells #[.int .i64 a, .int .i64 b, .int .i64 c] 81))) := heap_alloc_new w _
  have HB : Hid (Below w.heap.size w (w.alloc (.cells #[.int .i64 a, .int .i64 b, .int .i64 c] 81))) := (Below.refl _ w).alloc (Nat.le_refl _) _
  obtain ⟨c0, c1, c2⟩ := HX.out.cells
  go_enter Try.func47, Try.ntmps47
  cases M
  · have HR : Hid ((0 : Int) = R) := by show _ = _; rw [← hR.out]; unfold rndK; rw [hM]; rfl
    clear hR hM
    go_wp2_with fail
    with_reducible refine (HM.out _).mono ?_
    rintro e w1 ⟨rfl, B1⟩
    have HB1 := Lib.hid (HB.out.trans (B1.mono HB.out.size))
    clear B1 c0 c1 c2
    go_wp2
    go_returns
    exact ⟨congrArg (fun z => Ending.returned (.int .i64 z)) HR.out, HB1.out⟩
  · have HR : Hid (IntKind.i64.wrap (IntKind.i64.wrap (1000 + IntKind.i64.wrap (600 * a)) + IntKind.i64.wrap (IntKind.i64.wrap (20 * a) * cntK n)) = R) := by show _ = _; rw [← hR.out]; exact rnd_sum n hM
    have ha := may_a hM
    clear hR hM
    go_wp2_with fail
    with_reducible refine (HM.out _).mono ?_
    rintro e w1 ⟨rfl, B1⟩
    have HB1 := Lib.hid (HB.out.trans (B1.mono HB.out.size))
    obtain ⟨x0, x1, x2⟩ := (HX.out.on (B1.mono (by simp))).cells
    clear B1 c0 c1 c2 x1 x2
    rcases (show n < 0 ∨ (100000 < n ∧ ¬ n < 0) ∨ (0 ≤ n ∧ n ≤ 100000) by omega) with h | h | h
    · rw [(show cntK n = 0 by unfold cntK; rw [if_pos h])] at HR
      rcases ha with rfl | rfl | rfl | rfl | rfl
      all_goals
        go_wp2
        go_returns
        refine ⟨congrArg (fun z => Ending.returned (.int .i64 z)) ?_, HB1.out⟩
        rw [← HR.out]
        simp only [IntKind.wrap_i64]
        omega
    · rw [(show cntK n = 100000 by unfold cntK; rw [if_neg h.2, if_pos h.1])] at HR
      obtain ⟨h1, h2⟩ := h
      rcases ha with rfl | rfl | rfl | rfl | rfl
      all_goals
        go_wp2
        go_returns
        refine ⟨congrArg (fun z => Ending.returned (.int .i64 z)) ?_, HB1.out⟩
        rw [← HR.out]
        simp only [IntKind.wrap_i64]
        omega
    · rw [(show cntK n = n by unfold cntK; rw [if_neg (by omega), if_neg (by omega)])] at HR
      obtain ⟨h1, h2⟩ := h
      rcases ha with rfl | rfl | rfl | rfl | rfl
      all_goals
        go_wp2
        go_returns
        refine ⟨congrArg (fun z => Ending.returned (.int .i64 z)) ?_, HB1.out⟩
        rw [← HR.out]
        simp only [IntKind.wrap_i64]
        omega

set_option maxRecDepth 100000 in
set_option maxHeartbeats 2000000 in
theorem qbobytes_r (a b c n : Int) (w : World) (R : Int) (hR : Hid (bytK a b c n = R)) :
    Calls Try.prog 49 #[.agg #[.int .i64 a, .int .i64 b, .int .i64 c], .int .i64 n] w fun e w' => e = .returned (.int .i64 R) ∧ Below w.heap.size w w' := by
  obtain ⟨M, hM⟩ : ∃ M, mayK a b c = M := ⟨_, rfl⟩
  have HM := Lib.hid (fun u => qbomay_r a b c u M hM)
  have HX : Hid (ConB w.heap.size a b c (w.alloc (.cells #[.int .i64 a, .int .i64 b, .int .i64 c] 81))) := heap_alloc_new w _
  have HB : Hid (Below w.heap.size w (w.alloc (.cells #[.int .i64 a, .int .i64 b, .int .i64 c] 81))) := (Below.refl _ w).alloc (Nat.le_refl _) _
  obtain ⟨c0, c1, c2⟩ := HX.out.cells
  go_enter Try.func49, Try.ntmps49
  cases M
  · have HR : Hid ((0 : Int) = R) := by show _ = _; rw [← hR.out]; unfold bytK; rw [hM]; rfl
    clear hR hM
    go_wp2_with fail
    with_reducible refine (HM.out _).mono ?_
    rintro e w1 ⟨rfl, B1⟩
    have HB1 := Lib.hid (HB.out.trans (B1.mono HB.out.size))
    clear B1 c0 c1 c2
    go_wp2
    go_returns
    exact ⟨congrArg (fun z => Ending.returned (.int .i64 z)) HR.out, HB1.out⟩
  · have HR : Hid (130 * cntK n = R) := by show _ = _; rw [← hR.out]; unfold bytK; rw [if_pos hM]
    clear hR hM
    go_wp2_with fail
    with_reducible refine (HM.out _).mono ?_
    rintro e w1 ⟨rfl, B1⟩
    have HB1 := Lib.hid (HB.out.trans (B1.mono HB.out.size))
    obtain ⟨x0, x1, x2⟩ := (HX.out.on (B1.mono (by simp))).cells
    clear B1 c0 c1 c2 x1 x2
    rcases (show n < 0 ∨ (100000 < n ∧ ¬ n < 0) ∨ (0 ≤ n ∧ n ≤ 100000) by omega) with h | h | h
    · rw [(show cntK n = 0 by unfold cntK; rw [if_pos h])] at HR
      go_wp2
      go_returns
      refine ⟨congrArg (fun z => Ending.returned (.int .i64 z)) ?_, HB1.out⟩
      (rw [← HR.out]) <;> omega
    · rw [(show cntK n = 100000 by unfold cntK; rw [if_neg h.2, if_pos h.1])] at HR
      obtain ⟨h1, h2⟩ := h
      go_wp2
      go_returns
      refine ⟨congrArg (fun z => Ending.returned (.int .i64 z)) ?_, HB1.out⟩
      (rw [← HR.out]) <;> omega
    · rw [(show cntK n = n by unfold cntK; rw [if_neg (by omega), if_neg (by omega)])] at HR
      obtain ⟨h1, h2⟩ := h
      go_wp2
      go_returns
      refine ⟨congrArg (fun z => Ending.returned (.int .i64 z)) ?_, HB1.out⟩
      (rw [← HR.out]) <;> omega

theorem bo_ok : mayK 3 1 5 = true := by decide
theorem bo_no : mayK 0 0 0 = false := by decide
set_option maxRecDepth 100000 in
set_option maxHeartbeats 4000000 in
theorem told24_any (w : World) : Calls Try.prog 43 #[] w fun e w' => e = .returned (.bool true) ∧ Below w.heap.size w w' := by
  have H1 := Lib.hid (fun u => bomay_r 3 1 5 u true bo_ok)
  have H2 := Lib.hid (fun u => borounds_r 3 1 5 10 u 3400 (show rndK 3 1 5 10 = 3400 by decide))
  have H3 := Lib.hid (fun u => bobytes_r 3 1 5 2 u 260 (show bytK 3 1 5 2 = 260 by decide))
  have H4 := Lib.hid (fun u => bomay_r 0 0 0 u false bo_no)
  have H5 := Lib.hid (fun u => borounds_r 0 0 0 5 u 0 (show rndK 0 0 0 5 = 0 by decide))
  have HX : Hid (ConB w.heap.size 3 1 5 (w.alloc (.cells #[.int .i64 3, .int .i64 1, .int .i64 5] 81))) := heap_alloc_new w _
  have HB : Hid (Below w.heap.size w (w.alloc (.cells #[.int .i64 3, .int .i64 1, .int .i64 5] 81))) := (Below.refl _ w).alloc (Nat.le_refl _) _
  go_enter Try.func43, Try.ntmps43
  go_wp2_with fail
  with_reducible refine (H1.out _).mono ?_
  rintro e w1 ⟨rfl, B1⟩
  have HB1 := Lib.hid (HB.out.trans (B1.mono HB.out.size))
  have X1 := Lib.hid (HX.out.on (B1.mono (by simp)))
  obtain ⟨c0, c1, c2⟩ := X1.out.cells
  clear B1 HX
  go_wp2_with fail
  with_reducible refine (H2.out _).mono ?_
  rintro e w2 ⟨rfl, B2⟩
  have HB2 := Lib.hid (HB1.out.trans (B2.mono HB1.out.size))
  have X2 := Lib.hid (X1.out.on B2)
  obtain ⟨d0, d1, d2⟩ := X2.out.cells
  clear B2 HB1 X1 c0 c1 c2
  go_wp2_with fail
  with_reducible refine (H3.out _).mono ?_
  rintro e w3 ⟨rfl, B3⟩
  have HB3 := Lib.hid (HB2.out.trans (B3.mono HB2.out.size))
  clear B3 HB2 d0 d1 d2
  go_wp2_with fail
  with_reducible refine (H4.out _).mono ?_
  rintro e w4 ⟨rfl, B4⟩
  have HB4 := Lib.hid (HB3.out.trans (B4.mono HB3.out.size))
  clear B4 HB3
  go_wp2_with fail
  with_reducible refine (H5.out _).mono ?_
  rintro e w5 ⟨rfl, B5⟩
  have HB5 := Lib.hid (HB4.out.trans (B5.mono HB4.out.size))
  clear B5 HB4
  go_wp2
  go_returns
  exact ⟨by first | rfl | (simp; done), HB5.out⟩
end Go.Proofs.Ytpcbpimlakehcaa
