/-
  PROVED: casebooklaw24.BoundGrows answers true and leaves its arguments as they were, for any configuration, any two numbers: the row's own reading and nothing else is assumed.
-/
import Derived.Test.YtpcbpimlakehcaaBoArgs
import Derived.Deep.DeepCutAuto
namespace Go.Proofs.Ytpcbpimlakehcaa.BoundGrows
open Go.ChangeShapes Go.WideShapes Go.ChangeAt Go.RowKit

theorem rnd_le {a b c : Int} (h : mayK a b c = true) {x y : Int} (hx : x ≤ y) : rndK a b c x ≤ rndK a b c y := by
  unfold rndK
  rw [if_pos h, if_pos h]
  have hc : cntK x ≤ cntK y := by unfold cntK; (repeat' split) <;> omega
  rcases may_a h with rfl | rfl | rfl | rfl | rfl <;> omega
theorem byt_le {a b c : Int} (h : mayK a b c = true) {x y : Int} (hx : x ≤ y) : bytK a b c x ≤ bytK a b c y := by
  unfold bytK
  rw [if_pos h, if_pos h]
  have hc : cntK x ≤ cntK y := by unfold cntK; (repeat' split) <;> omega
  omega
theorem may_one {a b c : Int} (h : mayK a b c = true) : mayK 1 b c = true := by
  have := of_decide_eq_true h
  exact decide_eq_true (by omega)
theorem rnd_one {a b c : Int} (h : mayK a b c = true) (x : Int) : rndK 1 b c x ≤ rndK a b c x := by
  unfold rndK
  rw [if_pos h, if_pos (may_one h)]
  have hc := (cntK_in x).1
  rcases may_a h with rfl | rfl | rfl | rfl | rfl <;> omega
theorem rnd_least {a b c : Int} (h : mayK a b c = true) : 1600 ≤ rndK a b c 0 := by
  unfold rndK
  rw [if_pos h, show cntK 0 = 0 by decide]
  rcases may_a h with rfl | rfl | rfl | rfl | rfl <;> omega
theorem rnd_neg (a b c : Int) : rndK a b c (-5) = rndK a b c 0 := by
  unfold rndK
  rw [show cntK 0 = 0 by decide, show cntK (-5) = 0 by decide]
theorem left_cnt (z : Int) : ∃ t : Nat, t ≤ 100000 ∧ wrap64 ((IntKind.u64.wrap z).tmod 100001) = (t : Int) := by
  have h0 : 0 ≤ IntKind.u64.wrap z := by rw [IntKind.wrap_u64]; omega
  have h1 := Int.tmod_nonneg (100001 : Int) h0
  have h2 := Int.tmod_lt_of_pos (IntKind.u64.wrap z) (show (0 : Int) < 100001 by omega)
  refine ⟨((IntKind.u64.wrap z).tmod 100001).toNat, by omega, ?_⟩
  rw [IntWalk.wrap64_in _ (by omega)]
  omega

set_option maxRecDepth 100000 in
set_option maxHeartbeats 4000000 in
theorem walk (a b c n m : Int) (w : World) (_ : (Lit.int .i64 a).wf = true) (_ : (Lit.int .i64 b).wf = true) (_ : (Lit.int .i64 c).wf = true) (_ : (Lit.int .i64 n).wf = true) (_ : (Lit.int .i64 m).wf = true) :
    Calls Try.prog 13 #[.agg #[.int .i64 a, .int .i64 b, .int .i64 c], .int .i64 n, .int .i64 m] w fun e w' => e = .returned (.bool true) ∧ Below w.heap.size w w' := by
  obtain ⟨M, hM⟩ : ∃ M, mayK a b c = M := ⟨_, rfl⟩
  have HT := Lib.hid (fun u => told24_any u)
  have H1 := Lib.hid (fun u => bomay_r a b c u M hM)
  have HX : Hid (ConB w.heap.size a b c (w.alloc (.cells #[.int .i64 a, .int .i64 b, .int .i64 c] 81))) := heap_alloc_new w _
  have HB : Hid (Below w.heap.size w (w.alloc (.cells #[.int .i64 a, .int .i64 b, .int .i64 c] 81))) := (Below.refl _ w).alloc (Nat.le_refl _) _
  obtain ⟨W1, hW1⟩ : ∃ W1, W1 = w.alloc (.cells #[.int .i64 a, .int .i64 b, .int .i64 c] 81) := ⟨_, rfl⟩
  rw [← hW1] at HX HB
  obtain ⟨c0, c1, c2⟩ := HX.out.cells
  go_enter Try.func13, Try.ntmps13
  cases M
  · have H2 := Lib.hid (fun u => borounds_r a b c n u 0 (by show rndK a b c n = 0; unfold rndK; rw [hM]; rfl))
    have H3 := Lib.hid (fun u => bobytes_r a b c n u 0 (by show bytK a b c n = 0; unfold bytK; rw [hM]; rfl))
    clear hM
    go_wp2_with fail
    rw [← hW1]
    with_reducible refine (H1.out _).mono ?_
    rintro e w1 ⟨rfl, B1⟩
    have HB1 := Lib.hid (HB.out.trans (B1.mono HB.out.size))
    have X1 := Lib.hid (HX.out.on B1)
    clear B1 HX c0 c1 c2 hW1
    go_wp2_with fail
    with_reducible refine (HT.out _).mono ?_
    rintro e w2 ⟨rfl, B2⟩
    have HB2 := Lib.hid (HB1.out.trans (B2.mono HB1.out.size))
    have X2 := Lib.hid (X1.out.on B2)
    obtain ⟨c0, c1, c2⟩ := X2.out.cells
    clear B2 X1 HB1
    go_wp2_with fail
    with_reducible refine (H2.out _).mono ?_
    rintro e w3 ⟨rfl, B3⟩
    have HB3 := Lib.hid (HB2.out.trans (B3.mono HB2.out.size))
    have X3 := Lib.hid (X2.out.on B3)
    clear B3 X2 HB2 c0 c1 c2
    obtain ⟨c0, c1, c2⟩ := X3.out.cells
    go_wp2_with fail
    with_reducible refine (H3.out _).mono ?_
    rintro e w4 ⟨rfl, B4⟩
    have HB4 := Lib.hid (HB3.out.trans (B4.mono HB3.out.size))
    clear B4 X3 HB3 c0 c1 c2
    go_wp2
    go_returns
    exact ⟨by first | rfl | (simp; done), HB4.out⟩
  · obtain ⟨x, hx, ex⟩ := left_cnt n
    obtain ⟨y, hy, ey⟩ := left_cnt m
    have EX := Lib.hid ex
    have EY := Lib.hid ey
    clear ex ey
    go_wp2_with fail
    rw [← hW1]
    with_reducible refine (H1.out _).mono ?_
    rintro e w1 ⟨rfl, B1⟩
    have HB1 := Lib.hid (HB.out.trans (B1.mono HB.out.size))
    have X1 := Lib.hid (HX.out.on B1)
    clear B1 HX c0 c1 c2 hW1 HB W1 H1
    obtain ⟨c0, c1, c2⟩ := X1.out.cells
    by_cases hlt0 : y < x
    · have HL : Hid ((y : Int) ≤ (x : Int)) := (by show _ ≤ _; omega)
      obtain ⟨r1, e1⟩ : ∃ r, rndK a b c (y : Int) = r := ⟨_, rfl⟩
      obtain ⟨r2, e2⟩ : ∃ r, rndK a b c (x : Int) = r := ⟨_, rfl⟩
      obtain ⟨y1, e3⟩ : ∃ r, bytK a b c (y : Int) = r := ⟨_, rfl⟩
      obtain ⟨y2, e4⟩ : ∃ r, bytK a b c (x : Int) = r := ⟨_, rfl⟩
      obtain ⟨r3, e5⟩ : ∃ r, rndK 1 b c (y : Int) = r := ⟨_, rfl⟩
      obtain ⟨r4, e6⟩ : ∃ r, rndK a b c 0 = r := ⟨_, rfl⟩
      have G1 := Lib.hid (fun u => borounds_r a b c (y : Int) u r1 e1)
      have G2 := Lib.hid (fun u => borounds_r a b c (x : Int) u r2 e2)
      have G3 := Lib.hid (fun u => bobytes_r a b c (y : Int) u y1 e3)
      have G4 := Lib.hid (fun u => bobytes_r a b c (x : Int) u y2 e4)
      have G5 := Lib.hid (fun u => borounds_r 1 b c (y : Int) u r3 e5)
      have G6 := Lib.hid (fun u => borounds_r a b c 0 u r4 e6)
      have G7 := Lib.hid (fun u => borounds_r a b c (-5) u r4 ((rnd_neg a b c).trans e6))
      have f1 : r1 ≤ r2 := by rw [← e1, ← e2]; exact rnd_le hM (by have := HL.out; omega)
      have f2 : y1 ≤ y2 := by rw [← e3, ← e4]; exact byt_le hM (by have := HL.out; omega)
      have f3 : r3 ≤ r1 := by rw [← e5, ← e1]; exact rnd_one hM _
      have f4 : 1600 ≤ r4 := by rw [← e6]; exact rnd_least hM
      clear e1 e2 e3 e4 e5 e6 hM
      have hlt : wrap64 ((IntKind.u64.wrap m).tmod 100001) < wrap64 ((IntKind.u64.wrap n).tmod 100001) := by rw [EX.out, EY.out]; omega
      go_wp2_with fail
      rw [EX.out, EY.out]
      clear EX EY hlt c0 c1 c2
      have HW2 : Hid (Below w.heap.size w (w1.alloc (.cells #[.int .i64 1, .int .i64 b, .int .i64 c] 81))) := HB1.out.alloc HB1.out.size _
      have X2 : Hid (ConB w.heap.size a b c (w1.alloc (.cells #[.int .i64 1, .int .i64 b, .int .i64 c] 81))) := X1.out.on ((Below.refl _ _).alloc (Nat.le_refl _) _)
      have D2 : Hid (ConB w1.heap.size 1 b c (w1.alloc (.cells #[.int .i64 1, .int .i64 b, .int .i64 c] 81))) := heap_alloc_new w1 _
      obtain ⟨W1, hW1⟩ : ∃ W1, W1 = w1.alloc (.cells #[.int .i64 1, .int .i64 b, .int .i64 c] 81) := ⟨_, rfl⟩
      rw [← hW1] at HW2 X2 D2 ⊢
      clear hW1 X1 HB1
      have FX : Hid (∀ u, Below W1.heap.size W1 u → (u.cell? ⟨w.heap.size, 0, none⟩ = some (.int .i64 a) ∧ u.cell? ⟨w.heap.size, 1, none⟩ = some (.int .i64 b) ∧ u.cell? ⟨w.heap.size, 2, none⟩ = some (.int .i64 c)) ∧ u.cell? ⟨w1.heap.size, 0, none⟩ = some (.int .i64 1) ∧ u.cell? ⟨w1.heap.size, 1, none⟩ = some (.int .i64 b) ∧ u.cell? ⟨w1.heap.size, 2, none⟩ = some (.int .i64 c)) := fun u hu => ⟨(X2.out.on hu).cells, (D2.out.on hu).cells⟩
      refine region_quiet (fun v => Below W1.heap.size W1 v) (by kernel_rfl) (by kernel_rfl) (Below.refl _ _).drew ?_
      repeat (first
        | go_big_quiet_skip
        | (go_big_quiet_want
           (first
            | (refine quiet_run (v := ?_) ?_ ?_; rotate_left; (intro u hu; obtain ⟨⟨c0, c1, c2⟩, d0, d1, d2⟩ := FX.out u hu; go_simp <;> with_reducible rfl); simp only [Act.put, List.setIfInBounds_toArray, List.set_cons_zero, List.set_cons_succ]; go_big_quiet_on)
            | (refine quiet_enter 43 _ ?_ (fun u hu => (HT.out u).mono fun e u' ⟨he, hb⟩ => ⟨he, hu.trans (hb.mono hu.size)⟩) ?_; (focus (intro u; first | (go_simp; done) | (go_simp; with_reducible rfl))); simp only [Act.put, List.setIfInBounds_toArray, List.set_cons_zero, List.set_cons_succ]; go_big_quiet_on)
            | (refine quiet_enter 46 _ ?_ (fun u hu => (G1.out u).mono fun e u' ⟨he, hb⟩ => ⟨he, hu.trans (hb.mono hu.size)⟩) ?_; (focus (intro u; first | (go_simp; done) | (go_simp; with_reducible rfl))); simp only [Act.put, List.setIfInBounds_toArray, List.set_cons_zero, List.set_cons_succ]; go_big_quiet_on)
            | (refine quiet_enter 46 _ ?_ (fun u hu => (G2.out u).mono fun e u' ⟨he, hb⟩ => ⟨he, hu.trans (hb.mono hu.size)⟩) ?_; (focus (intro u; first | (go_simp; done) | (go_simp; with_reducible rfl))); simp only [Act.put, List.setIfInBounds_toArray, List.set_cons_zero, List.set_cons_succ]; go_big_quiet_on)
            | (refine quiet_enter 48 _ ?_ (fun u hu => (G3.out u).mono fun e u' ⟨he, hb⟩ => ⟨he, hu.trans (hb.mono hu.size)⟩) ?_; (focus (intro u; first | (go_simp; done) | (go_simp; with_reducible rfl))); simp only [Act.put, List.setIfInBounds_toArray, List.set_cons_zero, List.set_cons_succ]; go_big_quiet_on)
            | (refine quiet_enter 48 _ ?_ (fun u hu => (G4.out u).mono fun e u' ⟨he, hb⟩ => ⟨he, hu.trans (hb.mono hu.size)⟩) ?_; (focus (intro u; first | (go_simp; done) | (go_simp; with_reducible rfl))); simp only [Act.put, List.setIfInBounds_toArray, List.set_cons_zero, List.set_cons_succ]; go_big_quiet_on)
            | (refine quiet_enter 46 _ ?_ (fun u hu => (G5.out u).mono fun e u' ⟨he, hb⟩ => ⟨he, hu.trans (hb.mono hu.size)⟩) ?_; (focus (intro u; first | (go_simp; done) | (go_simp; with_reducible rfl))); simp only [Act.put, List.setIfInBounds_toArray, List.set_cons_zero, List.set_cons_succ]; go_big_quiet_on)
            | (refine quiet_enter 46 _ ?_ (fun u hu => (G6.out u).mono fun e u' ⟨he, hb⟩ => ⟨he, hu.trans (hb.mono hu.size)⟩) ?_; (focus (intro u; first | (go_simp; done) | (go_simp; with_reducible rfl))); simp only [Act.put, List.setIfInBounds_toArray, List.set_cons_zero, List.set_cons_succ]; go_big_quiet_on)
            | (refine quiet_enter 46 _ ?_ (fun u hu => (G7.out u).mono fun e u' ⟨he, hb⟩ => ⟨he, hu.trans (hb.mono hu.size)⟩) ?_; (focus (intro u; first | (go_simp; done) | (go_simp; with_reducible rfl))); simp only [Act.put, List.setIfInBounds_toArray, List.set_cons_zero, List.set_cons_succ]; go_big_quiet_on))))
      refine wpQuiet_nil ?_
      intro w4 h4
      have C4 : Hid (Below w.heap.size w w4) := HW2.out.trans (h4.mono HW2.out.size)
      clear FX h4
      go_wp2
      go_returns
      exact ⟨ret_bool (by first | (simp; done) | (simp; omega)), C4.out⟩
    · have HL : Hid ((x : Int) ≤ (y : Int)) := (by show _ ≤ _; omega)
      obtain ⟨r1, e1⟩ : ∃ r, rndK a b c (x : Int) = r := ⟨_, rfl⟩
      obtain ⟨r2, e2⟩ : ∃ r, rndK a b c (y : Int) = r := ⟨_, rfl⟩
      obtain ⟨y1, e3⟩ : ∃ r, bytK a b c (x : Int) = r := ⟨_, rfl⟩
      obtain ⟨y2, e4⟩ : ∃ r, bytK a b c (y : Int) = r := ⟨_, rfl⟩
      obtain ⟨r3, e5⟩ : ∃ r, rndK 1 b c (x : Int) = r := ⟨_, rfl⟩
      obtain ⟨r4, e6⟩ : ∃ r, rndK a b c 0 = r := ⟨_, rfl⟩
      have G1 := Lib.hid (fun u => borounds_r a b c (x : Int) u r1 e1)
      have G2 := Lib.hid (fun u => borounds_r a b c (y : Int) u r2 e2)
      have G3 := Lib.hid (fun u => bobytes_r a b c (x : Int) u y1 e3)
      have G4 := Lib.hid (fun u => bobytes_r a b c (y : Int) u y2 e4)
      have G5 := Lib.hid (fun u => borounds_r 1 b c (x : Int) u r3 e5)
      have G6 := Lib.hid (fun u => borounds_r a b c 0 u r4 e6)
      have G7 := Lib.hid (fun u => borounds_r a b c (-5) u r4 ((rnd_neg a b c).trans e6))
      have f1 : r1 ≤ r2 := by rw [← e1, ← e2]; exact rnd_le hM (by have := HL.out; omega)
      have f2 : y1 ≤ y2 := by rw [← e3, ← e4]; exact byt_le hM (by have := HL.out; omega)
      have f3 : r3 ≤ r1 := by rw [← e5, ← e1]; exact rnd_one hM _
      have f4 : 1600 ≤ r4 := by rw [← e6]; exact rnd_least hM
      clear e1 e2 e3 e4 e5 e6 hM
      have hlt : ¬ wrap64 ((IntKind.u64.wrap m).tmod 100001) < wrap64 ((IntKind.u64.wrap n).tmod 100001) := by rw [EX.out, EY.out]; omega
      go_wp2_with fail
      rw [EX.out, EY.out]
      clear EX EY hlt c0 c1 c2
      have HW2 : Hid (Below w.heap.size w (w1.alloc (.cells #[.int .i64 1, .int .i64 b, .int .i64 c] 81))) := HB1.out.alloc HB1.out.size _
      have X2 : Hid (ConB w.heap.size a b c (w1.alloc (.cells #[.int .i64 1, .int .i64 b, .int .i64 c] 81))) := X1.out.on ((Below.refl _ _).alloc (Nat.le_refl _) _)
      have D2 : Hid (ConB w1.heap.size 1 b c (w1.alloc (.cells #[.int .i64 1, .int .i64 b, .int .i64 c] 81))) := heap_alloc_new w1 _
      obtain ⟨W1, hW1⟩ : ∃ W1, W1 = w1.alloc (.cells #[.int .i64 1, .int .i64 b, .int .i64 c] 81) := ⟨_, rfl⟩
      rw [← hW1] at HW2 X2 D2 ⊢
      clear hW1 X1 HB1
      have FX : Hid (∀ u, Below W1.heap.size W1 u → (u.cell? ⟨w.heap.size, 0, none⟩ = some (.int .i64 a) ∧ u.cell? ⟨w.heap.size, 1, none⟩ = some (.int .i64 b) ∧ u.cell? ⟨w.heap.size, 2, none⟩ = some (.int .i64 c)) ∧ u.cell? ⟨w1.heap.size, 0, none⟩ = some (.int .i64 1) ∧ u.cell? ⟨w1.heap.size, 1, none⟩ = some (.int .i64 b) ∧ u.cell? ⟨w1.heap.size, 2, none⟩ = some (.int .i64 c)) := fun u hu => ⟨(X2.out.on hu).cells, (D2.out.on hu).cells⟩
      refine region_quiet (fun v => Below W1.heap.size W1 v) (by kernel_rfl) (by kernel_rfl) (Below.refl _ _).drew ?_
      repeat (first
        | go_big_quiet_skip
        | (go_big_quiet_want
           (first
            | (refine quiet_run (v := ?_) ?_ ?_; rotate_left; (intro u hu; obtain ⟨⟨c0, c1, c2⟩, d0, d1, d2⟩ := FX.out u hu; go_simp <;> with_reducible rfl); simp only [Act.put, List.setIfInBounds_toArray, List.set_cons_zero, List.set_cons_succ]; go_big_quiet_on)
            | (refine quiet_enter 43 _ ?_ (fun u hu => (HT.out u).mono fun e u' ⟨he, hb⟩ => ⟨he, hu.trans (hb.mono hu.size)⟩) ?_; (focus (intro u; first | (go_simp; done) | (go_simp; with_reducible rfl))); simp only [Act.put, List.setIfInBounds_toArray, List.set_cons_zero, List.set_cons_succ]; go_big_quiet_on)
            | (refine quiet_enter 46 _ ?_ (fun u hu => (G1.out u).mono fun e u' ⟨he, hb⟩ => ⟨he, hu.trans (hb.mono hu.size)⟩) ?_; (focus (intro u; first | (go_simp; done) | (go_simp; with_reducible rfl))); simp only [Act.put, List.setIfInBounds_toArray, List.set_cons_zero, List.set_cons_succ]; go_big_quiet_on)
            | (refine quiet_enter 46 _ ?_ (fun u hu => (G2.out u).mono fun e u' ⟨he, hb⟩ => ⟨he, hu.trans (hb.mono hu.size)⟩) ?_; (focus (intro u; first | (go_simp; done) | (go_simp; with_reducible rfl))); simp only [Act.put, List.setIfInBounds_toArray, List.set_cons_zero, List.set_cons_succ]; go_big_quiet_on)
            | (refine quiet_enter 48 _ ?_ (fun u hu => (G3.out u).mono fun e u' ⟨he, hb⟩ => ⟨he, hu.trans (hb.mono hu.size)⟩) ?_; (focus (intro u; first | (go_simp; done) | (go_simp; with_reducible rfl))); simp only [Act.put, List.setIfInBounds_toArray, List.set_cons_zero, List.set_cons_succ]; go_big_quiet_on)
            | (refine quiet_enter 48 _ ?_ (fun u hu => (G4.out u).mono fun e u' ⟨he, hb⟩ => ⟨he, hu.trans (hb.mono hu.size)⟩) ?_; (focus (intro u; first | (go_simp; done) | (go_simp; with_reducible rfl))); simp only [Act.put, List.setIfInBounds_toArray, List.set_cons_zero, List.set_cons_succ]; go_big_quiet_on)
            | (refine quiet_enter 46 _ ?_ (fun u hu => (G5.out u).mono fun e u' ⟨he, hb⟩ => ⟨he, hu.trans (hb.mono hu.size)⟩) ?_; (focus (intro u; first | (go_simp; done) | (go_simp; with_reducible rfl))); simp only [Act.put, List.setIfInBounds_toArray, List.set_cons_zero, List.set_cons_succ]; go_big_quiet_on)
            | (refine quiet_enter 46 _ ?_ (fun u hu => (G6.out u).mono fun e u' ⟨he, hb⟩ => ⟨he, hu.trans (hb.mono hu.size)⟩) ?_; (focus (intro u; first | (go_simp; done) | (go_simp; with_reducible rfl))); simp only [Act.put, List.setIfInBounds_toArray, List.set_cons_zero, List.set_cons_succ]; go_big_quiet_on)
            | (refine quiet_enter 46 _ ?_ (fun u hu => (G7.out u).mono fun e u' ⟨he, hb⟩ => ⟨he, hu.trans (hb.mono hu.size)⟩) ?_; (focus (intro u; first | (go_simp; done) | (go_simp; with_reducible rfl))); simp only [Act.put, List.setIfInBounds_toArray, List.set_cons_zero, List.set_cons_succ]; go_big_quiet_on))))
      refine wpQuiet_nil ?_
      intro w4 h4
      have C4 : Hid (Below w.heap.size w w4) := HW2.out.trans (h4.mono HW2.out.size)
      clear FX h4
      go_wp2
      go_returns
      exact ⟨ret_bool (by first | (simp; done) | (simp; omega)), C4.out⟩

set_option maxRecDepth 100000 in
theorem lifted (os : Os) (started : os.Started) (H : Type) (enc : TypeId × Value → H) :
    ReturnsInHanded {} Try.checked os 13 .any (Rows.boundGrowsSpec.pre6 enc Try.prog Try.f13 Rows.boundGrowsRow.domain false) (Rows.boundGrowsSpec.post enc Try.prog Try.f13 false true false false) := by
  refine returnsInHanded_of_change (C := Try.checked) own started (by kernel_rfl) Try.func13
    (ChangeSpec.witness6 (enc := enc) (C := Try.checked) false ⟨#[], #[.agg #[.int .i64 0, .int .i64 0, .int .i64 0], .int .i64 0, .int .i64 0], []⟩ 8 (by kernel_rfl) (by kernel_rfl) (by kernel_rfl) (by kernel_rfl)) ?_
  intro W base args ds gs before hval0 hW hcnd _
  have hval : ∀ (j : Nat) t v, Try.f13.params[j]? = some t → args[j]? = some v → Value.okWide Try.prog W .any base t v := hval0
  have hW' := hW
  obtain ⟨p, q, hA0, hV, rfl, hfz, hnd⟩ := hW
  have hA : DataW.TrodAll enc Try.prog W 0 (fun _ => true) true Try.f13.params.toList args.toList ds p := hA0
  rw [Try.params13] at hA hval
  obtain ⟨v0, vs0, d0, ds0, p0, q0, hargs, rfl, rfl, h0, r0⟩ := trodAll_cons hA
  obtain ⟨v1, vs1, d1, ds1, p1, q1, rfl, rfl, rfl, h1, r1⟩ := trodAll_cons r0
  obtain ⟨v2, vs2, d2, ds2, p2, q2, rfl, rfl, rfl, h2, r2⟩ := trodAll_cons r1
  obtain ⟨rfl, rfl, rfl⟩ := trodAll_nil r2
  obtain rfl : args = #[v0, v1, v2] := by cases args; simp_all
  obtain ⟨rfl, rfl⟩ := trodVars_none hV
  have k0 := h0
  have lt0 : ∀ x ∈ p0, x.block < W.heap.size := by obtain ⟨m, hm⟩ := k0; exact DataW.trod_lt m _ _ _ hm
  obtain ⟨xa0, xb0, xc0, rfl, wa0, wb0, wc0⟩ := conf_open (hval 0 81 v0 rfl rfl) h0
  obtain ⟨a1, rfl, rfl, rfl, w1⟩ := open_int Try.underlying3 (hval 1 3 v1 rfl rfl) h1
  obtain ⟨a2, rfl, rfl, rfl, w2⟩ := open_int Try.underlying3 (hval 2 3 v2 rfl rfl) h2
  clear hA0 hval0
  refine (walk xa0 xb0 xc0 a1 a2 W wa0 wb0 wc0 w1 w2).mono fun e W' ⟨he, bel⟩ => ?_
  subst he
  exact ⟨_, rfl, _, _, _, [], _, [], hW', trodAll_mk1 (shut_bool Try.underlying4 _), (trodAll_cons_mk (Below.trod laidOut (by kernel_rfl) (of_decide_eq_true (by kernel_rfl)) k0 bel lt0) (trodAll_cons_mk (shut_int Try.underlying3 w1) (trodAll_cons_mk (shut_int Try.underlying3 w2) trodAll_mk0))), rfl, bel.frame _, fun h => by cases h⟩

theorem over : Rows.boundGrowsRow.holds Try.pinned (OpenSpec.ofChange Rows.boundGrowsSpec) :=
  OpenClaim.holds_of_wide 13 Try.f13 rfl rfl rfl rfl rfl rfl rfl ⟨rfl, rfl, rfl, rfl, rfl⟩ rfl rfl rfl rfl rfl (by kernel_rfl) Try.func13 (by kernel_rfl)
    (of_decide_eq_true (by kernel_rfl)) (by unfold Func.isWrapper; first | (rw [if_pos (by decide +kernel)]; kernel_rfl) | (rw [if_neg (by decide +kernel)]; exact ⟨rfl, rfl⟩))
    (fun os started H enc _ => lifted os started H enc)
end Go.Proofs.Ytpcbpimlakehcaa.BoundGrows

namespace Go.Proofs.Ytpcbpimlakehcaa
theorem boundGrows_holds : Rows.BoundGrowsSaid := BoundGrows.over
#print axioms boundGrows_holds
end Go.Proofs.Ytpcbpimlakehcaa
