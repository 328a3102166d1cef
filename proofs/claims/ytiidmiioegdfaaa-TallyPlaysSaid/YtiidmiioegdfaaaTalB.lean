/-
  THE PROGRAM's COUNT: mayCount, New, Promise, Yes. For counts as they may be; chains of at most a million nodes.
-/
import Derived.Test.YtiidmiioegdfaaaTalA
import Derived.Test.YtiidmiioegdfaaaPackBase
namespace Go.Proofs.Ytiidmiioegdfaaa
open Go.RowKit Go.Maps

set_option maxRecDepth 100000 in
set_option maxHeartbeats 4000000 in
theorem tycount_r {w : World} {p pm ym : Nat} {cv : Value} {s : TalV} (hT : TalB w p pm ym cv s) (v : VoteV) (vv : Value) (B : Nat) (hI : Ints w B vv v.C) (hB : B ≤ w.heap.size) (he0 : -9223372036854775808 ≤ v.ce) (he1 : v.ce ≤ 9223372036854775807) {R : Bool} (hR : s.fits v = R) :
    Calls Try.prog 31 #[.pointer (some ⟨p, 0, none⟩), .agg #[.int .i64 v.pr, .int .i64 v.pn, .int .i64 v.ar, .int .i64 v.an, .bool v.has, .int .i64 v.ce, vv]] w fun e w' => e = .returned (.bool R) ∧ Below w.heap.size w w' := by
  obtain ⟨pr, pn, ar, an, has, ce, C⟩ := v
  simp only at hI he0 he1 ⊢
  obtain ⟨a0, c0, rfl⟩ : ∃ a c, vv = .slice a C.length c := by obtain ⟨a, c, h, _⟩ := hI; exact ⟨a, c, h⟩
  obtain ⟨m, hm⟩ : ∃ m, m = C.length := ⟨_, rfl⟩
  obtain ⟨N, hN⟩ : ∃ N, N = !decide (pr = s.r ∧ pn = s.k) := ⟨_, rfl⟩
  obtain ⟨M, hM⟩ : ∃ M, M = mayV ar an := ⟨_, rfl⟩
  obtain ⟨Y, hY⟩ : ∃ Y, Y = decide (ChainV.may ⟨ce, C⟩) := ⟨_, rfl⟩
  obtain ⟨E, hE⟩ : ∃ E, E = decide (ce = s.ce) := ⟨_, rfl⟩
  have hRR : R = (!N && (!has || (M && (Y && E)))) := by
    rw [← hR, hN, hM, hY, hE]
    unfold TalV.fits
    cases has <;> cases mayV ar an <;> simp [Bool.decide_and]
  obtain ⟨W, hW⟩ : ∃ W, W = w.alloc (.cells #[.int .i64 pr, .int .i64 pn, .int .i64 ar, .int .i64 an, .bool has, .int .i64 ce, .slice a0 m c0] 40) := ⟨_, rfl⟩
  have hB0 : Below w.heap.size w W := by rw [hW]; exact (Below.refl _ w).alloc (Nat.le_refl _) _
  have hvW : VotB W w.heap.size ⟨pr, pn, ar, an, has, ce, C⟩ (.slice a0 m c0) := by rw [hW]; exact VotB.fresh w ⟨pr, pn, ar, an, has, ce, C⟩ _
  have HNE : Hid (∀ u : World, (binOp .neq 23 (.agg #[.int .i64 pr, .int .i64 pn]) (.agg #[.int .i64 s.r, .int .i64 s.k])).run Try.prog u = .ok (.bool N) u) := fun u => by rw [hN]; exact run_ne_bal pr pn s.r s.k u
  have HM : Hid (∀ u, Calls Try.prog 27 #[.agg #[.int .i64 ar, .int .i64 an]] u fun e w' => e = .returned (.bool M) ∧ Below u.heap.size u w') := fun u => vmay_r ar an u hM.symm
  have HY : Hid (∀ u, Below W.heap.size W u → Calls Try.prog 28 #[.agg #[.int .i64 ce, .slice a0 m c0]] u fun e w' => e = .returned (.bool Y) ∧ Below u.heap.size u w') := fun u hu => by
    rw [hm]; exact tymay_r ce _ C B u (hI.keep ((hB0.trans (hu.mono hB0.size)).mono hB)) (Nat.le_trans hB (Nat.le_trans hB0.size hu.size)) he0 he1 hY.symm
  have FX : Hid (∀ u, Below W.heap.size W u → (u.cell? ⟨w.heap.size, 0, none⟩ = some (.int .i64 pr) ∧ u.cell? ⟨w.heap.size, 1, none⟩ = some (.int .i64 pn) ∧ u.cell? ⟨w.heap.size, 2, none⟩ = some (.int .i64 ar) ∧ u.cell? ⟨w.heap.size, 3, none⟩ = some (.int .i64 an) ∧ u.cell? ⟨w.heap.size, 4, none⟩ = some (.bool has) ∧ u.cell? ⟨w.heap.size, 5, none⟩ = some (.int .i64 ce) ∧ u.cell? ⟨w.heap.size, 6, none⟩ = some (.slice a0 m c0)) ∧
      u.cell? ⟨p, 1, none⟩ = some (.int .i64 s.r) ∧ u.cell? ⟨p, 2, none⟩ = some (.int .i64 s.k) ∧ u.cell? ⟨p, 5, none⟩ = some (.int .i64 s.ce)) := fun u hu => by
    have ha := (hT.on hB0).on hu
    exact ⟨(hvW.keep hu hvW.lt).cells, ha.cells.2.1, ha.cells.2.2.1, ha.cells.2.2.2.2.2.1⟩
  have P0 : Hid (Below W.heap.size W W.drew) := (Below.refl _ _).drew
  have HB := Lib.hid hB0
  have HE : Hid ((ce == s.ce) = E) := by show _ = _; rw [hE]; by_cases h : ce = s.ce <;> simp [h]
  have HR := Lib.hid hRR
  rw [← hm]
  clear hT hI hR hN hM hY hE hRR hvW hB0 hB he0 he1 hm
  cases N with
  | true =>
    obtain rfl : R = false := by rw [HR.out]; rfl
    clear HR HM HY HE
    go_enter Try.func31, Try.ntmps31
    go_wp2_with fail
    rw [← hW]
    clear hW
    refine region_quiet (fun v => Below W.heap.size W v) (by kernel_rfl) (by kernel_rfl) P0.out ?_
    repeat (first
      | go_big_quiet_skip
      | (go_big_quiet_want
         (first
          | (refine quiet_run (v := ?_) ?_ ?_; rotate_left; (intro u hu; obtain ⟨⟨b0, b1, b2, b3, b4, b5, b6⟩, d0, d1, d2⟩ := FX.out u hu; go_simp <;> with_reducible rfl); simp only [Act.put, List.setIfInBounds_toArray, List.set_cons_zero, List.set_cons_succ]; go_big_quiet_on)
          | (refine quiet_run (v := .bool _) (fun u _ => exec_neq_agg _ _ (by kernel_rfl) rfl rfl rfl (HNE.out u)) ?_; simp only [Act.put, List.setIfInBounds_toArray, List.set_cons_zero, List.set_cons_succ]; go_big_quiet_on))))
    refine wpQuiet_nil ?_
    intro w4 h4
    clear P0
    go_wp2
    go_returns
    exact ⟨by first | rfl | trivial, HB.out.trans (h4.mono HB.out.size)⟩
  | false =>
    cases has with
    | false =>
      obtain rfl : R = true := by rw [HR.out]; rfl
      clear HR HM HY HE
      go_enter Try.func31, Try.ntmps31
      go_wp2_with fail
      rw [← hW]
      clear hW
      refine region_quiet (fun v => Below W.heap.size W v) (by kernel_rfl) (by kernel_rfl) P0.out ?_
      repeat (first
        | go_big_quiet_skip
        | (go_big_quiet_want
           (first
            | (refine quiet_run (v := ?_) ?_ ?_; rotate_left; (intro u hu; obtain ⟨⟨b0, b1, b2, b3, b4, b5, b6⟩, d0, d1, d2⟩ := FX.out u hu; go_simp <;> with_reducible rfl); simp only [Act.put, List.setIfInBounds_toArray, List.set_cons_zero, List.set_cons_succ]; go_big_quiet_on)
            | (refine quiet_run (v := .bool _) (fun u _ => exec_neq_agg _ _ (by kernel_rfl) rfl rfl rfl (HNE.out u)) ?_; simp only [Act.put, List.setIfInBounds_toArray, List.set_cons_zero, List.set_cons_succ]; go_big_quiet_on))))
      refine wpQuiet_nil ?_
      intro w4 h4
      clear P0
      go_wp2_with fail
      refine region_quiet (fun v => Below W.heap.size W v) (by kernel_rfl) (by kernel_rfl) h4.drew ?_
      repeat (first
        | go_big_quiet_skip
        | (go_big_quiet_want
           (first
            | (refine quiet_run (v := ?_) ?_ ?_; rotate_left; (intro u hu; obtain ⟨⟨b0, b1, b2, b3, b4, b5, b6⟩, d0, d1, d2⟩ := FX.out u hu; go_simp <;> with_reducible rfl); simp only [Act.put, List.setIfInBounds_toArray, List.set_cons_zero, List.set_cons_succ]; go_big_quiet_on)
      )))
      refine wpQuiet_nil ?_
      intro w5 h5
      go_wp2
      go_returns
      exact ⟨by first | rfl | trivial, HB.out.trans (h5.mono HB.out.size)⟩
    | true =>
      cases M with
      | false =>
        obtain rfl : R = false := by rw [HR.out]; rfl
        clear HR HY HE
        go_enter Try.func31, Try.ntmps31
        go_wp2_with fail
        rw [← hW]
        clear hW
        refine region_quiet (fun v => Below W.heap.size W v) (by kernel_rfl) (by kernel_rfl) P0.out ?_
        repeat (first
          | go_big_quiet_skip
          | (go_big_quiet_want
             (first
              | (refine quiet_run (v := ?_) ?_ ?_; rotate_left; (intro u hu; obtain ⟨⟨b0, b1, b2, b3, b4, b5, b6⟩, d0, d1, d2⟩ := FX.out u hu; go_simp <;> with_reducible rfl); simp only [Act.put, List.setIfInBounds_toArray, List.set_cons_zero, List.set_cons_succ]; go_big_quiet_on)
              | (refine quiet_run (v := .bool _) (fun u _ => exec_neq_agg _ _ (by kernel_rfl) rfl rfl rfl (HNE.out u)) ?_; simp only [Act.put, List.setIfInBounds_toArray, List.set_cons_zero, List.set_cons_succ]; go_big_quiet_on))))
        refine wpQuiet_nil ?_
        intro w4 h4
        clear P0
        go_wp2_with fail
        refine region_quiet (fun v => Below W.heap.size W v) (by kernel_rfl) (by kernel_rfl) h4.drew ?_
        repeat (first
          | go_big_quiet_skip
          | (go_big_quiet_want
             (first
              | (refine quiet_run (v := ?_) ?_ ?_; rotate_left; (intro u hu; obtain ⟨⟨b0, b1, b2, b3, b4, b5, b6⟩, d0, d1, d2⟩ := FX.out u hu; go_simp <;> with_reducible rfl); simp only [Act.put, List.setIfInBounds_toArray, List.set_cons_zero, List.set_cons_succ]; go_big_quiet_on)
              | (refine quiet_enter 27 _ ?_ (fun u hu => (HM.out u).mono fun e u' ⟨he, hb⟩ => ⟨he, hu.trans (hb.mono hu.size)⟩) ?_; (focus (intro u; first | (go_simp; done) | (go_simp; with_reducible rfl))); simp only [Act.put, List.setIfInBounds_toArray, List.set_cons_zero, List.set_cons_succ]; go_big_quiet_on))))
        refine wpQuiet_nil ?_
        intro w5 h5
        go_wp2
        go_returns
        exact ⟨by first | rfl | trivial, HB.out.trans (h5.mono HB.out.size)⟩
      | true =>
        cases Y with
        | false =>
          obtain rfl : R = false := by rw [HR.out]; rfl
          clear HR HE
          go_enter Try.func31, Try.ntmps31
          go_wp2_with fail
          rw [← hW]
          clear hW
          refine region_quiet (fun v => Below W.heap.size W v) (by kernel_rfl) (by kernel_rfl) P0.out ?_
          repeat (first
            | go_big_quiet_skip
            | (go_big_quiet_want
               (first
                | (refine quiet_run (v := ?_) ?_ ?_; rotate_left; (intro u hu; obtain ⟨⟨b0, b1, b2, b3, b4, b5, b6⟩, d0, d1, d2⟩ := FX.out u hu; go_simp <;> with_reducible rfl); simp only [Act.put, List.setIfInBounds_toArray, List.set_cons_zero, List.set_cons_succ]; go_big_quiet_on)
                | (refine quiet_run (v := .bool _) (fun u _ => exec_neq_agg _ _ (by kernel_rfl) rfl rfl rfl (HNE.out u)) ?_; simp only [Act.put, List.setIfInBounds_toArray, List.set_cons_zero, List.set_cons_succ]; go_big_quiet_on))))
          refine wpQuiet_nil ?_
          intro w4 h4
          clear P0
          go_wp2_with fail
          refine region_quiet (fun v => Below W.heap.size W v) (by kernel_rfl) (by kernel_rfl) h4.drew ?_
          repeat (first
            | go_big_quiet_skip
            | (go_big_quiet_want
               (first
                | (refine quiet_run (v := ?_) ?_ ?_; rotate_left; (intro u hu; obtain ⟨⟨b0, b1, b2, b3, b4, b5, b6⟩, d0, d1, d2⟩ := FX.out u hu; go_simp <;> with_reducible rfl); simp only [Act.put, List.setIfInBounds_toArray, List.set_cons_zero, List.set_cons_succ]; go_big_quiet_on)
                | (refine quiet_enter 27 _ ?_ (fun u hu => (HM.out u).mono fun e u' ⟨he, hb⟩ => ⟨he, hu.trans (hb.mono hu.size)⟩) ?_; (focus (intro u; first | (go_simp; done) | (go_simp; with_reducible rfl))); simp only [Act.put, List.setIfInBounds_toArray, List.set_cons_zero, List.set_cons_succ]; go_big_quiet_on)
                | (refine quiet_enter 28 _ ?_ (fun u hu => (HY.out u hu).mono fun e u' ⟨he, hb⟩ => ⟨he, hu.trans (hb.mono hu.size)⟩) ?_; (focus (intro u; first | (go_simp; done) | (go_simp; with_reducible rfl))); simp only [Act.put, List.setIfInBounds_toArray, List.set_cons_zero, List.set_cons_succ]; go_big_quiet_on))))
          refine wpQuiet_nil ?_
          intro w5 h5
          go_wp2
          go_returns
          exact ⟨by first | rfl | trivial, HB.out.trans (h5.mono HB.out.size)⟩
        | true =>
          obtain rfl : R = E := by rw [HR.out]; rfl
          clear HR
          go_enter Try.func31, Try.ntmps31
          go_wp2_with fail
          rw [← hW]
          clear hW
          refine region_quiet (fun v => Below W.heap.size W v) (by kernel_rfl) (by kernel_rfl) P0.out ?_
          repeat (first
            | go_big_quiet_skip
            | (go_big_quiet_want
               (first
                | (refine quiet_run (v := ?_) ?_ ?_; rotate_left; (intro u hu; obtain ⟨⟨b0, b1, b2, b3, b4, b5, b6⟩, d0, d1, d2⟩ := FX.out u hu; go_simp <;> with_reducible rfl); simp only [Act.put, List.setIfInBounds_toArray, List.set_cons_zero, List.set_cons_succ]; go_big_quiet_on)
                | (refine quiet_run (v := .bool _) (fun u _ => exec_neq_agg _ _ (by kernel_rfl) rfl rfl rfl (HNE.out u)) ?_; simp only [Act.put, List.setIfInBounds_toArray, List.set_cons_zero, List.set_cons_succ]; go_big_quiet_on))))
          refine wpQuiet_nil ?_
          intro w4 h4
          clear P0
          go_wp2_with fail
          refine region_quiet (fun v => Below W.heap.size W v) (by kernel_rfl) (by kernel_rfl) h4.drew ?_
          repeat (first
            | go_big_quiet_skip
            | (go_big_quiet_want
               (first
                | (refine quiet_run (v := ?_) ?_ ?_; rotate_left; (intro u hu; obtain ⟨⟨b0, b1, b2, b3, b4, b5, b6⟩, d0, d1, d2⟩ := FX.out u hu; go_simp <;> with_reducible rfl); simp only [Act.put, List.setIfInBounds_toArray, List.set_cons_zero, List.set_cons_succ]; go_big_quiet_on)
                | (refine quiet_enter 27 _ ?_ (fun u hu => (HM.out u).mono fun e u' ⟨he, hb⟩ => ⟨he, hu.trans (hb.mono hu.size)⟩) ?_; (focus (intro u; first | (go_simp; done) | (go_simp; with_reducible rfl))); simp only [Act.put, List.setIfInBounds_toArray, List.set_cons_zero, List.set_cons_succ]; go_big_quiet_on)
                | (refine quiet_enter 28 _ ?_ (fun u hu => (HY.out u hu).mono fun e u' ⟨he, hb⟩ => ⟨he, hu.trans (hb.mono hu.size)⟩) ?_; (focus (intro u; first | (go_simp; done) | (go_simp; with_reducible rfl))); simp only [Act.put, List.setIfInBounds_toArray, List.set_cons_zero, List.set_cons_succ]; go_big_quiet_on))))
          refine wpQuiet_nil ?_
          intro w5 h5
          go_wp2
          go_returns
          exact ⟨ret_bool HE.out, HB.out.trans (h5.mono HB.out.size)⟩

set_option maxRecDepth 100000 in
set_option maxHeartbeats 4000000 in
theorem tynew_r (n : Nat) (h1 : 1 ≤ n) (h5 : n ≤ 5) (r k : Int) (hm : mayV r k = true) (ce : Int) (v : Value) (L : List Int) (B : Nat) (w : World) (hI : Ints w B v L) (hB : B ≤ w.heap.size) (hmay : ChainV.may ⟨ce, L⟩) :
    Calls Try.prog 9 #[.int .i64 n, .agg #[.int .i64 r, .int .i64 k], .agg #[.int .i64 ce, v]] w fun e w' => ∃ p, e = .returned (.tuple #[.pointer (some ⟨p, 0, none⟩), .int .i64 0]) ∧ Hid ((∃ pm ym cv, TalR w' p pm ym cv (TalV.first n r k ce L) ∧ w.heap.size ≤ p ∧ w.heap.size ≤ pm ∧ w.heap.size ≤ ym ∧ Fresh w.heap.size cv) ∧ Below w.heap.size w w') := by
  obtain ⟨a0, c0, rfl⟩ : ∃ a c, v = .slice a L.length c := by obtain ⟨a, c, h, _⟩ := hI; exact ⟨a, c, h⟩
  have hlen : L.length ≤ 5 := hmay.2.2.2.1
  have hc0 : 0 ≤ ce := hmay.1
  have hc1 : ce ≤ 1073741824 := hmay.2.1
  obtain ⟨m, hml⟩ : ∃ m, m = L.length := ⟨_, rfl⟩
  obtain ⟨W, hW⟩ : ∃ W, W = (w.alloc (.cells #[.int .i64 r, .int .i64 k] 23)).alloc (.cells #[.int .i64 ce, .slice a0 m c0] 26) := ⟨_, rfl⟩
  have hBW : Below w.heap.size w W := by rw [hW]; exact ((Below.refl _ w).alloc (Nat.le_refl _) _).alloc (by simp) _
  have qW : BalB W w.heap.size r k := by rw [hW]; exact (BalB.fresh w r k).keep ((Below.refl _ _).alloc (Nat.le_refl _) _) (by simp)
  have cW : ChT W (w.heap.size + 1) ce (.slice a0 m c0) := by
    rw [hW]
    have h := ChT.fresh (w.alloc (.cells #[.int .i64 r, .int .i64 k] 23)) ce (.slice a0 m c0)
    rwa [World.size_alloc] at h
  have HM : Hid (∀ u, Calls Try.prog 27 #[.agg #[.int .i64 r, .int .i64 k]] u fun e w' => e = .returned (.bool true) ∧ Below u.heap.size u w') := fun u => vmay_r r k u hm
  have HY : Hid (∀ u, Below W.heap.size W u → Calls Try.prog 28 #[.agg #[.int .i64 ce, .slice a0 m c0]] u fun e w' => e = .returned (.bool true) ∧ Below u.heap.size u w') := fun u hu => by
    rw [hml]; exact tymay_r ce _ L B u (hI.keep ((hBW.trans (hu.mono hBW.size)).mono hB)) (Nat.le_trans hB (Nat.le_trans hBW.size hu.size)) (by omega) (by omega) (decide_eq_true hmay)
  have HC : Hid (∀ u, Below W.heap.size W u → Calls Try.prog 29 #[.agg #[.int .i64 ce, .slice a0 m c0]] u fun e w' => ∃ a c, e = .returned (.agg #[.int .i64 ce, .slice a m c]) ∧ Hid ((RowI w' (.slice a m c) L ∧ Fresh w.heap.size (.slice a m c)) ∧ Below u.heap.size u w')) := fun u hu => by
    rw [hml]
    exact (tycopy_r ce _ L B u (hI.keep ((hBW.trans (hu.mono hBW.size)).mono hB)) (Nat.le_trans hB (Nat.le_trans hBW.size hu.size)) (by omega)).mono fun e w' ⟨a, c, he, h⟩ => ⟨a, c, he, ⟨h.out.1.1, h.out.1.2.mono (Nat.le_trans hBW.size hu.size)⟩, h.out.2⟩
  have HS : Hid (∀ u, Below W.heap.size W u → (fun u => (u.cell? ⟨w.heap.size, 0, none⟩ = some (.int .i64 r) ∧ u.cell? ⟨w.heap.size, 1, none⟩ = some (.int .i64 k)) ∧ u.cell? ⟨w.heap.size + 1, 0, none⟩ = some (.int .i64 ce) ∧ u.cell? ⟨w.heap.size + 1, 1, none⟩ = some (.slice a0 m c0)) u) := fun u hu => ⟨⟨(qW.keep hu qW.lt).cells.1, (qW.keep hu qW.lt).cells.2.1⟩, (cW.keep hu cW.lt).cells.1, (cW.keep hu cW.lt).cells.2.1⟩
  have HBW := Lib.hid hBW
  have n1 : ¬ ((n : Int) < 1) := by omega
  have n5 : ¬ (5 < (n : Int)) := by omega
  obtain ⟨⟨g0, g1⟩, g2, g3⟩ := HS.out _ (Below.refl _ W)
  rw [hW] at g0 g1 g2 g3
  have hmm := @run_makeMap Try.prog
  rw [← hml]
  clear hI hB hmay hm hlen hc0 hc1 hml hBW qW cW h1 h5
  go_enter Try.func9, Try.ntmps9
  go_wp2_with fail
  rw [← hW]
  clear g0 g1 g2 g3 hW
  refine (HM.out _).mono ?_
  rintro e w1 ⟨rfl, B1⟩
  have C1 := Lib.hid B1
  obtain ⟨⟨g0, g1⟩, g2, g3⟩ := HS.out _ C1.out
  clear B1
  go_wp2_with fail
  refine (HY.out _ C1.out).mono ?_
  rintro e w2 ⟨rfl, B2⟩
  have C2 := Lib.hid (C1.out.trans (B2.mono C1.out.size))
  clear B2 C1 g0 g1 g2 g3
  go_wp2_with fail
  refine wp_region_held_drew (S := (fun u => (u.cell? ⟨w.heap.size, 0, none⟩ = some (.int .i64 r) ∧ u.cell? ⟨w.heap.size, 1, none⟩ = some (.int .i64 k)) ∧ u.cell? ⟨w.heap.size + 1, 0, none⟩ = some (.int .i64 ce) ∧ u.cell? ⟨w.heap.size + 1, 1, none⟩ = some (.slice a0 m c0))) (by kernel_rfl) (HS.out _ C2.out.drew) (fun hHeld => ?_)
  first
    | (refine held_take 0 24 (v := ?_) rfl rfl (by kernel_rfl) (by kernel_rfl) (by kernel_rfl) (fun _ _ _ h => h) (by assumption) (by rfl) ?_ ?_; rotate_left; (focus (intro w hSw; obtain ⟨⟨hS0, hS1⟩, hS2, hS3⟩ := hSw; go_simp <;> with_reducible rfl)))
    | refine held_pass 0 24 rfl rfl (by kernel_rfl) (by kernel_rfl) (by kernel_rfl) (fun _ _ _ h => h) (by assumption) (by rfl) ?_
  simp only [Act.put, List.setIfInBounds_toArray, List.set_cons_zero, List.set_cons_succ]
  first
    | (refine held_take 1 25 (v := ?_) rfl rfl (by kernel_rfl) (by kernel_rfl) (by kernel_rfl) (fun _ _ _ h => h) (by assumption) (by rfl) ?_ ?_; rotate_left; (focus (intro w hSw; obtain ⟨⟨hS0, hS1⟩, hS2, hS3⟩ := hSw; go_simp <;> with_reducible rfl)))
    | refine held_pass 1 25 rfl rfl (by kernel_rfl) (by kernel_rfl) (by kernel_rfl) (fun _ _ _ h => h) (by assumption) (by rfl) ?_
  simp only [Act.put, List.setIfInBounds_toArray, List.set_cons_zero, List.set_cons_succ]
  first
    | (refine held_take 2 26 (v := ?_) rfl rfl (by kernel_rfl) (by kernel_rfl) (by kernel_rfl) (fun _ _ _ h => h) (by assumption) (by rfl) ?_ ?_; rotate_left; (focus (intro w hSw; obtain ⟨⟨hS0, hS1⟩, hS2, hS3⟩ := hSw; go_simp <;> with_reducible rfl)))
    | refine held_pass 2 26 rfl rfl (by kernel_rfl) (by kernel_rfl) (by kernel_rfl) (fun _ _ _ h => h) (by assumption) (by rfl) ?_
  simp only [Act.put, List.setIfInBounds_toArray, List.set_cons_zero, List.set_cons_succ]
  obtain ⟨u0, hu0⟩ : ∃ u, u = w2.drew := ⟨_, rfl⟩
  rw [← hu0] at hHeld ⊢
  have Bu0 : Hid (Below W.heap.size W u0) := by rw [hu0]; exact C2.out.drew
  clear hu0 C2 HM HY
  refine wpAnyH_ready (rs := [3, 4, 5]) (by kernel_rfl) (by simp) (AllReadyH.cons rfl (fun K hK => ?_) (AllReadyH.cons rfl (fun K hK => ?_) (AllReadyH.cons rfl (fun K hK => ?_) AllReadyH.nil)))
  · try simp only [Go.wp_at_succ, Go.wp_at_zero]
    go_simp
    refine (HC.out _ Bu0.out).mono ?_
    rintro e u1 ⟨a1, c1, rfl, Hu1⟩
    have Bu1 := Lib.hid (Bu0.out.trans (Hu1.out.2.mono Bu0.out.size))
    have Ru1 := Lib.hid Hu1.out.1.1
    have FR := Lib.hid Hu1.out.1.2
    have BBu1 := Lib.hid Hu1.out.2
    clear Hu1
    refine hK.out _ _ (HS.out _ Bu1.out) (fun hHeld => ?_)
    clear hK K
    try simp only [Act.put, List.setIfInBounds_toArray, List.set_cons_zero, List.set_cons_succ]
    refine wpAnyH_ready (rs := [4, 5]) (by kernel_rfl) (by simp) (AllReadyH.cons rfl (fun K hK => ?_) (AllReadyH.cons rfl (fun K hK => ?_) AllReadyH.nil))
    · try simp only [Go.wp_at_succ, Go.wp_at_zero]
      go_simp
      refine hK.out _ _ (HS.out _ (Bu1.out.alloc Bu1.out.size _)) (fun hHeld => ?_)
      clear hK K
      try simp only [Act.put, List.setIfInBounds_toArray, List.set_cons_zero, List.set_cons_succ]
      obtain ⟨u2, hN⟩ : ∃ u, u = u1.alloc (.map #[] 0) := ⟨_, rfl⟩
      rw [← hN] at hHeld ⊢
      have BBu2 : Hid (Below u1.heap.size u1 u2) := by rw [hN]; exact (Below.refl _ _).alloc (Nat.le_refl _) _
      have Bu2 := Lib.hid (Bu1.out.trans (BBu2.out.mono Bu1.out.size))
      have Mu2 : Hid (SetB u2 u1.heap.size []) := by rw [hN]; exact SetB.made u1
      clear hN
      have Ru2 := Lib.hid (Ru1.out.on BBu2.out)
      refine wpAnyH_ready (rs := [5]) (by kernel_rfl) (by simp) (AllReadyH.cons rfl (fun K hK => ?_) AllReadyH.nil)
      try simp only [Go.wp_at_succ, Go.wp_at_zero]
      go_simp
      refine hK.out _ _ (HS.out _ (Bu2.out.alloc Bu2.out.size _)) (fun hHeld => ?_)
      clear hK K
      try simp only [Act.put, List.setIfInBounds_toArray, List.set_cons_zero, List.set_cons_succ]
      obtain ⟨u3, hN⟩ : ∃ u, u = u2.alloc (.map #[] 0) := ⟨_, rfl⟩
      rw [← hN] at hHeld ⊢
      have BBu3 : Hid (Below u2.heap.size u2 u3) := by rw [hN]; exact (Below.refl _ _).alloc (Nat.le_refl _) _
      have Bu3 := Lib.hid (Bu2.out.trans (BBu3.out.mono Bu2.out.size))
      have Yu3 : Hid (SetB u3 u2.heap.size []) := by rw [hN]; exact SetB.made u2
      clear hN
      have Mu3 := Lib.hid (Mu2.out.on BBu3.out)
      have Ru3 := Lib.hid (Ru2.out.on BBu3.out)
      have NE : Hid (u1.heap.size ≠ u2.heap.size) := by have := Mu2.out.lt; show _ ≠ _; omega
      first
        | (refine held_take 6 30 (v := ?_) rfl rfl (by kernel_rfl) (by kernel_rfl) (by kernel_rfl) (fun _ _ _ h => h) (by assumption) (by rfl) ?_ ?_; rotate_left; (focus (intro w hSw; obtain ⟨⟨hS0, hS1⟩, hS2, hS3⟩ := hSw; go_simp <;> with_reducible rfl)))
        | refine held_pass 6 30 rfl rfl (by kernel_rfl) (by kernel_rfl) (by kernel_rfl) (fun _ _ _ h => h) (by assumption) (by rfl) ?_
      simp only [Act.put, List.setIfInBounds_toArray, List.set_cons_zero, List.set_cons_succ]
      refine wpAnyH_ready (rs := [7]) (by kernel_rfl) (by simp) (AllReadyH.cons rfl (fun K hK => ?_) AllReadyH.nil)
      try simp only [Go.wp_at_succ, Go.wp_at_zero]
      go_simp
      refine hK.out _ _ (HS.out _ (Bu3.out.alloc Bu3.out.size _)) (fun hHeld => ?_)
      clear hK K
      try simp only [Act.put, List.setIfInBounds_toArray, List.set_cons_zero, List.set_cons_succ]
      first
        | (refine held_take 8 6 (v := ?_) rfl rfl (by kernel_rfl) (by kernel_rfl) (by kernel_rfl) (fun _ _ _ h => h) (by assumption) (by rfl) ?_ ?_; rotate_left; (focus (intro w hSw; obtain ⟨⟨hS0, hS1⟩, hS2, hS3⟩ := hSw; go_simp <;> with_reducible rfl)))
        | refine held_pass 8 6 rfl rfl (by kernel_rfl) (by kernel_rfl) (by kernel_rfl) (fun _ _ _ h => h) (by assumption) (by rfl) ?_
      simp only [Act.put, List.setIfInBounds_toArray, List.set_cons_zero, List.set_cons_succ]
      first
        | (refine held_take 9 7 (v := ?_) rfl rfl (by kernel_rfl) (by kernel_rfl) (by kernel_rfl) (fun _ _ _ h => h) (by assumption) (by rfl) ?_ ?_; rotate_left; (focus (intro w hSw; obtain ⟨⟨hS0, hS1⟩, hS2, hS3⟩ := hSw; go_simp <;> with_reducible rfl)))
        | refine held_pass 9 7 rfl rfl (by kernel_rfl) (by kernel_rfl) (by kernel_rfl) (fun _ _ _ h => h) (by assumption) (by rfl) ?_
      simp only [Act.put, List.setIfInBounds_toArray, List.set_cons_zero, List.set_cons_succ]
      refine wpAnyH_done (by kernel_rfl) ?_ _
      clear hHeld
      have b3 : Below u3.heap.size u3 (u3.alloc (.cells #[.int .i64 n, .int .i64 r, .int .i64 k, .map (some u1.heap.size), .map (some u2.heap.size), .int .i64 ce, .slice a1 m c1, .bool false, .int .i64 0, .int .i64 0] 68)) := (Below.refl _ _).alloc (Nat.le_refl _) _
      have B3 := Lib.hid b3
      clear b3
      go_wp2
      go_returns
      have l0 := HBW.out.size
      have lm := Bu1.out.size
      have ly := Bu2.out.size
      have lp := Bu3.out.size
      have ne := NE.out
      refine ⟨_, rfl, ⟨u1.heap.size, u2.heap.size, .slice a1 m c1, ⟨heap_alloc_new u3 _, Mu3.out.on B3.out, Yu3.out.on B3.out, Ru3.out.on B3.out, by omega⟩, by omega, by omega, by omega, FR.out⟩, HBW.out.trans ((Bu3.out.trans (B3.out.mono Bu3.out.size)).mono HBW.out.size)⟩
    · try simp only [Go.wp_at_succ, Go.wp_at_zero]
      go_simp
      refine hK.out _ _ (HS.out _ (Bu1.out.alloc Bu1.out.size _)) (fun hHeld => ?_)
      clear hK K
      try simp only [Act.put, List.setIfInBounds_toArray, List.set_cons_zero, List.set_cons_succ]
      obtain ⟨u2, hN⟩ : ∃ u, u = u1.alloc (.map #[] 0) := ⟨_, rfl⟩
      rw [← hN] at hHeld ⊢
      have BBu2 : Hid (Below u1.heap.size u1 u2) := by rw [hN]; exact (Below.refl _ _).alloc (Nat.le_refl _) _
      have Bu2 := Lib.hid (Bu1.out.trans (BBu2.out.mono Bu1.out.size))
      have Yu2 : Hid (SetB u2 u1.heap.size []) := by rw [hN]; exact SetB.made u1
      clear hN
      have Ru2 := Lib.hid (Ru1.out.on BBu2.out)
      refine wpAnyH_ready (rs := [4]) (by kernel_rfl) (by simp) (AllReadyH.cons rfl (fun K hK => ?_) AllReadyH.nil)
      try simp only [Go.wp_at_succ, Go.wp_at_zero]
      go_simp
      refine hK.out _ _ (HS.out _ (Bu2.out.alloc Bu2.out.size _)) (fun hHeld => ?_)
      clear hK K
      try simp only [Act.put, List.setIfInBounds_toArray, List.set_cons_zero, List.set_cons_succ]
      obtain ⟨u3, hN⟩ : ∃ u, u = u2.alloc (.map #[] 0) := ⟨_, rfl⟩
      rw [← hN] at hHeld ⊢
      have BBu3 : Hid (Below u2.heap.size u2 u3) := by rw [hN]; exact (Below.refl _ _).alloc (Nat.le_refl _) _
      have Bu3 := Lib.hid (Bu2.out.trans (BBu3.out.mono Bu2.out.size))
      have Mu3 : Hid (SetB u3 u2.heap.size []) := by rw [hN]; exact SetB.made u2
      clear hN
      have Yu3 := Lib.hid (Yu2.out.on BBu3.out)
      have Ru3 := Lib.hid (Ru2.out.on BBu3.out)
      have NE : Hid (u2.heap.size ≠ u1.heap.size) := by have := Yu2.out.lt; show _ ≠ _; omega
      first
        | (refine held_take 6 30 (v := ?_) rfl rfl (by kernel_rfl) (by kernel_rfl) (by kernel_rfl) (fun _ _ _ h => h) (by assumption) (by rfl) ?_ ?_; rotate_left; (focus (intro w hSw; obtain ⟨⟨hS0, hS1⟩, hS2, hS3⟩ := hSw; go_simp <;> with_reducible rfl)))
        | refine held_pass 6 30 rfl rfl (by kernel_rfl) (by kernel_rfl) (by kernel_rfl) (fun _ _ _ h => h) (by assumption) (by rfl) ?_
      simp only [Act.put, List.setIfInBounds_toArray, List.set_cons_zero, List.set_cons_succ]
      refine wpAnyH_ready (rs := [7]) (by kernel_rfl) (by simp) (AllReadyH.cons rfl (fun K hK => ?_) AllReadyH.nil)
      try simp only [Go.wp_at_succ, Go.wp_at_zero]
      go_simp
      refine hK.out _ _ (HS.out _ (Bu3.out.alloc Bu3.out.size _)) (fun hHeld => ?_)
      clear hK K
      try simp only [Act.put, List.setIfInBounds_toArray, List.set_cons_zero, List.set_cons_succ]
      first
        | (refine held_take 8 6 (v := ?_) rfl rfl (by kernel_rfl) (by kernel_rfl) (by kernel_rfl) (fun _ _ _ h => h) (by assumption) (by rfl) ?_ ?_; rotate_left; (focus (intro w hSw; obtain ⟨⟨hS0, hS1⟩, hS2, hS3⟩ := hSw; go_simp <;> with_reducible rfl)))
        | refine held_pass 8 6 rfl rfl (by kernel_rfl) (by kernel_rfl) (by kernel_rfl) (fun _ _ _ h => h) (by assumption) (by rfl) ?_
      simp only [Act.put, List.setIfInBounds_toArray, List.set_cons_zero, List.set_cons_succ]
      first
        | (refine held_take 9 7 (v := ?_) rfl rfl (by kernel_rfl) (by kernel_rfl) (by kernel_rfl) (fun _ _ _ h => h) (by assumption) (by rfl) ?_ ?_; rotate_left; (focus (intro w hSw; obtain ⟨⟨hS0, hS1⟩, hS2, hS3⟩ := hSw; go_simp <;> with_reducible rfl)))
        | refine held_pass 9 7 rfl rfl (by kernel_rfl) (by kernel_rfl) (by kernel_rfl) (fun _ _ _ h => h) (by assumption) (by rfl) ?_
      simp only [Act.put, List.setIfInBounds_toArray, List.set_cons_zero, List.set_cons_succ]
      refine wpAnyH_done (by kernel_rfl) ?_ _
      clear hHeld
      have b3 : Below u3.heap.size u3 (u3.alloc (.cells #[.int .i64 n, .int .i64 r, .int .i64 k, .map (some u2.heap.size), .map (some u1.heap.size), .int .i64 ce, .slice a1 m c1, .bool false, .int .i64 0, .int .i64 0] 68)) := (Below.refl _ _).alloc (Nat.le_refl _) _
      have B3 := Lib.hid b3
      clear b3
      go_wp2
      go_returns
      have l0 := HBW.out.size
      have lm := Bu2.out.size
      have ly := Bu1.out.size
      have lp := Bu3.out.size
      have ne := NE.out
      refine ⟨_, rfl, ⟨u2.heap.size, u1.heap.size, .slice a1 m c1, ⟨heap_alloc_new u3 _, Mu3.out.on B3.out, Yu3.out.on B3.out, Ru3.out.on B3.out, by omega⟩, by omega, by omega, by omega, FR.out⟩, HBW.out.trans ((Bu3.out.trans (B3.out.mono Bu3.out.size)).mono HBW.out.size)⟩
  · try simp only [Go.wp_at_succ, Go.wp_at_zero]
    go_simp
    refine hK.out _ _ (HS.out _ (Bu0.out.alloc Bu0.out.size _)) (fun hHeld => ?_)
    clear hK K
    try simp only [Act.put, List.setIfInBounds_toArray, List.set_cons_zero, List.set_cons_succ]
    obtain ⟨u1, hN⟩ : ∃ u, u = u0.alloc (.map #[] 0) := ⟨_, rfl⟩
    rw [← hN] at hHeld ⊢
    have BBu1 : Hid (Below u0.heap.size u0 u1) := by rw [hN]; exact (Below.refl _ _).alloc (Nat.le_refl _) _
    have Bu1 := Lib.hid (Bu0.out.trans (BBu1.out.mono Bu0.out.size))
    have Mu1 : Hid (SetB u1 u0.heap.size []) := by rw [hN]; exact SetB.made u0
    clear hN
    refine wpAnyH_ready (rs := [3, 5]) (by kernel_rfl) (by simp) (AllReadyH.cons rfl (fun K hK => ?_) (AllReadyH.cons rfl (fun K hK => ?_) AllReadyH.nil))
    · try simp only [Go.wp_at_succ, Go.wp_at_zero]
      go_simp
      refine (HC.out _ Bu1.out).mono ?_
      rintro e u2 ⟨a1, c1, rfl, Hu2⟩
      have Bu2 := Lib.hid (Bu1.out.trans (Hu2.out.2.mono Bu1.out.size))
      have Ru2 := Lib.hid Hu2.out.1.1
      have FR := Lib.hid Hu2.out.1.2
      have BBu2 := Lib.hid Hu2.out.2
      clear Hu2
      have Mu2 := Lib.hid (Mu1.out.on BBu2.out)
      refine hK.out _ _ (HS.out _ Bu2.out) (fun hHeld => ?_)
      clear hK K
      try simp only [Act.put, List.setIfInBounds_toArray, List.set_cons_zero, List.set_cons_succ]
      refine wpAnyH_ready (rs := [5]) (by kernel_rfl) (by simp) (AllReadyH.cons rfl (fun K hK => ?_) AllReadyH.nil)
      try simp only [Go.wp_at_succ, Go.wp_at_zero]
      go_simp
      refine hK.out _ _ (HS.out _ (Bu2.out.alloc Bu2.out.size _)) (fun hHeld => ?_)
      clear hK K
      try simp only [Act.put, List.setIfInBounds_toArray, List.set_cons_zero, List.set_cons_succ]
      obtain ⟨u3, hN⟩ : ∃ u, u = u2.alloc (.map #[] 0) := ⟨_, rfl⟩
      rw [← hN] at hHeld ⊢
      have BBu3 : Hid (Below u2.heap.size u2 u3) := by rw [hN]; exact (Below.refl _ _).alloc (Nat.le_refl _) _
      have Bu3 := Lib.hid (Bu2.out.trans (BBu3.out.mono Bu2.out.size))
      have Yu3 : Hid (SetB u3 u2.heap.size []) := by rw [hN]; exact SetB.made u2
      clear hN
      have Mu3 := Lib.hid (Mu2.out.on BBu3.out)
      have Ru3 := Lib.hid (Ru2.out.on BBu3.out)
      have NE : Hid (u0.heap.size ≠ u2.heap.size) := by have := Mu2.out.lt; show _ ≠ _; omega
      first
        | (refine held_take 6 30 (v := ?_) rfl rfl (by kernel_rfl) (by kernel_rfl) (by kernel_rfl) (fun _ _ _ h => h) (by assumption) (by rfl) ?_ ?_; rotate_left; (focus (intro w hSw; obtain ⟨⟨hS0, hS1⟩, hS2, hS3⟩ := hSw; go_simp <;> with_reducible rfl)))
        | refine held_pass 6 30 rfl rfl (by kernel_rfl) (by kernel_rfl) (by kernel_rfl) (fun _ _ _ h => h) (by assumption) (by rfl) ?_
      simp only [Act.put, List.setIfInBounds_toArray, List.set_cons_zero, List.set_cons_succ]
      refine wpAnyH_ready (rs := [7]) (by kernel_rfl) (by simp) (AllReadyH.cons rfl (fun K hK => ?_) AllReadyH.nil)
      try simp only [Go.wp_at_succ, Go.wp_at_zero]
      go_simp
      refine hK.out _ _ (HS.out _ (Bu3.out.alloc Bu3.out.size _)) (fun hHeld => ?_)
      clear hK K
      try simp only [Act.put, List.setIfInBounds_toArray, List.set_cons_zero, List.set_cons_succ]
      first
        | (refine held_take 8 6 (v := ?_) rfl rfl (by kernel_rfl) (by kernel_rfl) (by kernel_rfl) (fun _ _ _ h => h) (by assumption) (by rfl) ?_ ?_; rotate_left; (focus (intro w hSw; obtain ⟨⟨hS0, hS1⟩, hS2, hS3⟩ := hSw; go_simp <;> with_reducible rfl)))
        | refine held_pass 8 6 rfl rfl (by kernel_rfl) (by kernel_rfl) (by kernel_rfl) (fun _ _ _ h => h) (by assumption) (by rfl) ?_
      simp only [Act.put, List.setIfInBounds_toArray, List.set_cons_zero, List.set_cons_succ]
      first
        | (refine held_take 9 7 (v := ?_) rfl rfl (by kernel_rfl) (by kernel_rfl) (by kernel_rfl) (fun _ _ _ h => h) (by assumption) (by rfl) ?_ ?_; rotate_left; (focus (intro w hSw; obtain ⟨⟨hS0, hS1⟩, hS2, hS3⟩ := hSw; go_simp <;> with_reducible rfl)))
        | refine held_pass 9 7 rfl rfl (by kernel_rfl) (by kernel_rfl) (by kernel_rfl) (fun _ _ _ h => h) (by assumption) (by rfl) ?_
      simp only [Act.put, List.setIfInBounds_toArray, List.set_cons_zero, List.set_cons_succ]
      refine wpAnyH_done (by kernel_rfl) ?_ _
      clear hHeld
      have b3 : Below u3.heap.size u3 (u3.alloc (.cells #[.int .i64 n, .int .i64 r, .int .i64 k, .map (some u0.heap.size), .map (some u2.heap.size), .int .i64 ce, .slice a1 m c1, .bool false, .int .i64 0, .int .i64 0] 68)) := (Below.refl _ _).alloc (Nat.le_refl _) _
      have B3 := Lib.hid b3
      clear b3
      go_wp2
      go_returns
      have l0 := HBW.out.size
      have lm := Bu0.out.size
      have ly := Bu2.out.size
      have lp := Bu3.out.size
      have ne := NE.out
      refine ⟨_, rfl, ⟨u0.heap.size, u2.heap.size, .slice a1 m c1, ⟨heap_alloc_new u3 _, Mu3.out.on B3.out, Yu3.out.on B3.out, Ru3.out.on B3.out, by omega⟩, by omega, by omega, by omega, FR.out⟩, HBW.out.trans ((Bu3.out.trans (B3.out.mono Bu3.out.size)).mono HBW.out.size)⟩
    · try simp only [Go.wp_at_succ, Go.wp_at_zero]
      go_simp
      refine hK.out _ _ (HS.out _ (Bu1.out.alloc Bu1.out.size _)) (fun hHeld => ?_)
      clear hK K
      try simp only [Act.put, List.setIfInBounds_toArray, List.set_cons_zero, List.set_cons_succ]
      obtain ⟨u2, hN⟩ : ∃ u, u = u1.alloc (.map #[] 0) := ⟨_, rfl⟩
      rw [← hN] at hHeld ⊢
      have BBu2 : Hid (Below u1.heap.size u1 u2) := by rw [hN]; exact (Below.refl _ _).alloc (Nat.le_refl _) _
      have Bu2 := Lib.hid (Bu1.out.trans (BBu2.out.mono Bu1.out.size))
      have Yu2 : Hid (SetB u2 u1.heap.size []) := by rw [hN]; exact SetB.made u1
      clear hN
      have Mu2 := Lib.hid (Mu1.out.on BBu2.out)
      have NE : Hid (u0.heap.size ≠ u1.heap.size) := by have := Mu1.out.lt; show _ ≠ _; omega
      refine wpAnyH_ready (rs := [3]) (by kernel_rfl) (by simp) (AllReadyH.cons rfl (fun K hK => ?_) AllReadyH.nil)
      try simp only [Go.wp_at_succ, Go.wp_at_zero]
      go_simp
      refine (HC.out _ Bu2.out).mono ?_
      rintro e u3 ⟨a1, c1, rfl, Hu3⟩
      have Bu3 := Lib.hid (Bu2.out.trans (Hu3.out.2.mono Bu2.out.size))
      have Ru3 := Lib.hid Hu3.out.1.1
      have FR := Lib.hid Hu3.out.1.2
      have BBu3 := Lib.hid Hu3.out.2
      clear Hu3
      have Mu3 := Lib.hid (Mu2.out.on BBu3.out)
      have Yu3 := Lib.hid (Yu2.out.on BBu3.out)
      refine hK.out _ _ (HS.out _ Bu3.out) (fun hHeld => ?_)
      clear hK K
      try simp only [Act.put, List.setIfInBounds_toArray, List.set_cons_zero, List.set_cons_succ]
      first
        | (refine held_take 6 30 (v := ?_) rfl rfl (by kernel_rfl) (by kernel_rfl) (by kernel_rfl) (fun _ _ _ h => h) (by assumption) (by rfl) ?_ ?_; rotate_left; (focus (intro w hSw; obtain ⟨⟨hS0, hS1⟩, hS2, hS3⟩ := hSw; go_simp <;> with_reducible rfl)))
        | refine held_pass 6 30 rfl rfl (by kernel_rfl) (by kernel_rfl) (by kernel_rfl) (fun _ _ _ h => h) (by assumption) (by rfl) ?_
      simp only [Act.put, List.setIfInBounds_toArray, List.set_cons_zero, List.set_cons_succ]
      refine wpAnyH_ready (rs := [7]) (by kernel_rfl) (by simp) (AllReadyH.cons rfl (fun K hK => ?_) AllReadyH.nil)
      try simp only [Go.wp_at_succ, Go.wp_at_zero]
      go_simp
      refine hK.out _ _ (HS.out _ (Bu3.out.alloc Bu3.out.size _)) (fun hHeld => ?_)
      clear hK K
      try simp only [Act.put, List.setIfInBounds_toArray, List.set_cons_zero, List.set_cons_succ]
      first
        | (refine held_take 8 6 (v := ?_) rfl rfl (by kernel_rfl) (by kernel_rfl) (by kernel_rfl) (fun _ _ _ h => h) (by assumption) (by rfl) ?_ ?_; rotate_left; (focus (intro w hSw; obtain ⟨⟨hS0, hS1⟩, hS2, hS3⟩ := hSw; go_simp <;> with_reducible rfl)))
        | refine held_pass 8 6 rfl rfl (by kernel_rfl) (by kernel_rfl) (by kernel_rfl) (fun _ _ _ h => h) (by assumption) (by rfl) ?_
      simp only [Act.put, List.setIfInBounds_toArray, List.set_cons_zero, List.set_cons_succ]
      first
        | (refine held_take 9 7 (v := ?_) rfl rfl (by kernel_rfl) (by kernel_rfl) (by kernel_rfl) (fun _ _ _ h => h) (by assumption) (by rfl) ?_ ?_; rotate_left; (focus (intro w hSw; obtain ⟨⟨hS0, hS1⟩, hS2, hS3⟩ := hSw; go_simp <;> with_reducible rfl)))
        | refine held_pass 9 7 rfl rfl (by kernel_rfl) (by kernel_rfl) (by kernel_rfl) (fun _ _ _ h => h) (by assumption) (by rfl) ?_
      simp only [Act.put, List.setIfInBounds_toArray, List.set_cons_zero, List.set_cons_succ]
      refine wpAnyH_done (by kernel_rfl) ?_ _
      clear hHeld
      have b3 : Below u3.heap.size u3 (u3.alloc (.cells #[.int .i64 n, .int .i64 r, .int .i64 k, .map (some u0.heap.size), .map (some u1.heap.size), .int .i64 ce, .slice a1 m c1, .bool false, .int .i64 0, .int .i64 0] 68)) := (Below.refl _ _).alloc (Nat.le_refl _) _
      have B3 := Lib.hid b3
      clear b3
      go_wp2
      go_returns
      have l0 := HBW.out.size
      have lm := Bu0.out.size
      have ly := Bu1.out.size
      have lp := Bu3.out.size
      have ne := NE.out
      refine ⟨_, rfl, ⟨u0.heap.size, u1.heap.size, .slice a1 m c1, ⟨heap_alloc_new u3 _, Mu3.out.on B3.out, Yu3.out.on B3.out, Ru3.out.on B3.out, by omega⟩, by omega, by omega, by omega, FR.out⟩, HBW.out.trans ((Bu3.out.trans (B3.out.mono Bu3.out.size)).mono HBW.out.size)⟩
  · try simp only [Go.wp_at_succ, Go.wp_at_zero]
    go_simp
    refine hK.out _ _ (HS.out _ (Bu0.out.alloc Bu0.out.size _)) (fun hHeld => ?_)
    clear hK K
    try simp only [Act.put, List.setIfInBounds_toArray, List.set_cons_zero, List.set_cons_succ]
    obtain ⟨u1, hN⟩ : ∃ u, u = u0.alloc (.map #[] 0) := ⟨_, rfl⟩
    rw [← hN] at hHeld ⊢
    have BBu1 : Hid (Below u0.heap.size u0 u1) := by rw [hN]; exact (Below.refl _ _).alloc (Nat.le_refl _) _
    have Bu1 := Lib.hid (Bu0.out.trans (BBu1.out.mono Bu0.out.size))
    have Yu1 : Hid (SetB u1 u0.heap.size []) := by rw [hN]; exact SetB.made u0
    clear hN
    refine wpAnyH_ready (rs := [3, 4]) (by kernel_rfl) (by simp) (AllReadyH.cons rfl (fun K hK => ?_) (AllReadyH.cons rfl (fun K hK => ?_) AllReadyH.nil))
    · try simp only [Go.wp_at_succ, Go.wp_at_zero]
      go_simp
      refine (HC.out _ Bu1.out).mono ?_
      rintro e u2 ⟨a1, c1, rfl, Hu2⟩
      have Bu2 := Lib.hid (Bu1.out.trans (Hu2.out.2.mono Bu1.out.size))
      have Ru2 := Lib.hid Hu2.out.1.1
      have FR := Lib.hid Hu2.out.1.2
      have BBu2 := Lib.hid Hu2.out.2
      clear Hu2
      have Yu2 := Lib.hid (Yu1.out.on BBu2.out)
      refine hK.out _ _ (HS.out _ Bu2.out) (fun hHeld => ?_)
      clear hK K
      try simp only [Act.put, List.setIfInBounds_toArray, List.set_cons_zero, List.set_cons_succ]
      refine wpAnyH_ready (rs := [4]) (by kernel_rfl) (by simp) (AllReadyH.cons rfl (fun K hK => ?_) AllReadyH.nil)
      try simp only [Go.wp_at_succ, Go.wp_at_zero]
      go_simp
      refine hK.out _ _ (HS.out _ (Bu2.out.alloc Bu2.out.size _)) (fun hHeld => ?_)
      clear hK K
      try simp only [Act.put, List.setIfInBounds_toArray, List.set_cons_zero, List.set_cons_succ]
      obtain ⟨u3, hN⟩ : ∃ u, u = u2.alloc (.map #[] 0) := ⟨_, rfl⟩
      rw [← hN] at hHeld ⊢
      have BBu3 : Hid (Below u2.heap.size u2 u3) := by rw [hN]; exact (Below.refl _ _).alloc (Nat.le_refl _) _
      have Bu3 := Lib.hid (Bu2.out.trans (BBu3.out.mono Bu2.out.size))
      have Mu3 : Hid (SetB u3 u2.heap.size []) := by rw [hN]; exact SetB.made u2
      clear hN
      have Yu3 := Lib.hid (Yu2.out.on BBu3.out)
      have Ru3 := Lib.hid (Ru2.out.on BBu3.out)
      have NE : Hid (u2.heap.size ≠ u0.heap.size) := by have := Yu2.out.lt; show _ ≠ _; omega
      first
        | (refine held_take 6 30 (v := ?_) rfl rfl (by kernel_rfl) (by kernel_rfl) (by kernel_rfl) (fun _ _ _ h => h) (by assumption) (by rfl) ?_ ?_; rotate_left; (focus (intro w hSw; obtain ⟨⟨hS0, hS1⟩, hS2, hS3⟩ := hSw; go_simp <;> with_reducible rfl)))
        | refine held_pass 6 30 rfl rfl (by kernel_rfl) (by kernel_rfl) (by kernel_rfl) (fun _ _ _ h => h) (by assumption) (by rfl) ?_
      simp only [Act.put, List.setIfInBounds_toArray, List.set_cons_zero, List.set_cons_succ]
      refine wpAnyH_ready (rs := [7]) (by kernel_rfl) (by simp) (AllReadyH.cons rfl (fun K hK => ?_) AllReadyH.nil)
      try simp only [Go.wp_at_succ, Go.wp_at_zero]
      go_simp
      refine hK.out _ _ (HS.out _ (Bu3.out.alloc Bu3.out.size _)) (fun hHeld => ?_)
      clear hK K
      try simp only [Act.put, List.setIfInBounds_toArray, List.set_cons_zero, List.set_cons_succ]
      first
        | (refine held_take 8 6 (v := ?_) rfl rfl (by kernel_rfl) (by kernel_rfl) (by kernel_rfl) (fun _ _ _ h => h) (by assumption) (by rfl) ?_ ?_; rotate_left; (focus (intro w hSw; obtain ⟨⟨hS0, hS1⟩, hS2, hS3⟩ := hSw; go_simp <;> with_reducible rfl)))
        | refine held_pass 8 6 rfl rfl (by kernel_rfl) (by kernel_rfl) (by kernel_rfl) (fun _ _ _ h => h) (by assumption) (by rfl) ?_
      simp only [Act.put, List.setIfInBounds_toArray, List.set_cons_zero, List.set_cons_succ]
      first
        | (refine held_take 9 7 (v := ?_) rfl rfl (by kernel_rfl) (by kernel_rfl) (by kernel_rfl) (fun _ _ _ h => h) (by assumption) (by rfl) ?_ ?_; rotate_left; (focus (intro w hSw; obtain ⟨⟨hS0, hS1⟩, hS2, hS3⟩ := hSw; go_simp <;> with_reducible rfl)))
        | refine held_pass 9 7 rfl rfl (by kernel_rfl) (by kernel_rfl) (by kernel_rfl) (fun _ _ _ h => h) (by assumption) (by rfl) ?_
      simp only [Act.put, List.setIfInBounds_toArray, List.set_cons_zero, List.set_cons_succ]
      refine wpAnyH_done (by kernel_rfl) ?_ _
      clear hHeld
      have b3 : Below u3.heap.size u3 (u3.alloc (.cells #[.int .i64 n, .int .i64 r, .int .i64 k, .map (some u2.heap.size), .map (some u0.heap.size), .int .i64 ce, .slice a1 m c1, .bool false, .int .i64 0, .int .i64 0] 68)) := (Below.refl _ _).alloc (Nat.le_refl _) _
      have B3 := Lib.hid b3
      clear b3
      go_wp2
      go_returns
      have l0 := HBW.out.size
      have lm := Bu2.out.size
      have ly := Bu0.out.size
      have lp := Bu3.out.size
      have ne := NE.out
      refine ⟨_, rfl, ⟨u2.heap.size, u0.heap.size, .slice a1 m c1, ⟨heap_alloc_new u3 _, Mu3.out.on B3.out, Yu3.out.on B3.out, Ru3.out.on B3.out, by omega⟩, by omega, by omega, by omega, FR.out⟩, HBW.out.trans ((Bu3.out.trans (B3.out.mono Bu3.out.size)).mono HBW.out.size)⟩
    · try simp only [Go.wp_at_succ, Go.wp_at_zero]
      go_simp
      refine hK.out _ _ (HS.out _ (Bu1.out.alloc Bu1.out.size _)) (fun hHeld => ?_)
      clear hK K
      try simp only [Act.put, List.setIfInBounds_toArray, List.set_cons_zero, List.set_cons_succ]
      obtain ⟨u2, hN⟩ : ∃ u, u = u1.alloc (.map #[] 0) := ⟨_, rfl⟩
      rw [← hN] at hHeld ⊢
      have BBu2 : Hid (Below u1.heap.size u1 u2) := by rw [hN]; exact (Below.refl _ _).alloc (Nat.le_refl _) _
      have Bu2 := Lib.hid (Bu1.out.trans (BBu2.out.mono Bu1.out.size))
      have Mu2 : Hid (SetB u2 u1.heap.size []) := by rw [hN]; exact SetB.made u1
      clear hN
      have Yu2 := Lib.hid (Yu1.out.on BBu2.out)
      have NE : Hid (u1.heap.size ≠ u0.heap.size) := by have := Yu1.out.lt; show _ ≠ _; omega
      refine wpAnyH_ready (rs := [3]) (by kernel_rfl) (by simp) (AllReadyH.cons rfl (fun K hK => ?_) AllReadyH.nil)
      try simp only [Go.wp_at_succ, Go.wp_at_zero]
      go_simp
      refine (HC.out _ Bu2.out).mono ?_
      rintro e u3 ⟨a1, c1, rfl, Hu3⟩
      have Bu3 := Lib.hid (Bu2.out.trans (Hu3.out.2.mono Bu2.out.size))
      have Ru3 := Lib.hid Hu3.out.1.1
      have FR := Lib.hid Hu3.out.1.2
      have BBu3 := Lib.hid Hu3.out.2
      clear Hu3
      have Mu3 := Lib.hid (Mu2.out.on BBu3.out)
      have Yu3 := Lib.hid (Yu2.out.on BBu3.out)
      refine hK.out _ _ (HS.out _ Bu3.out) (fun hHeld => ?_)
      clear hK K
      try simp only [Act.put, List.setIfInBounds_toArray, List.set_cons_zero, List.set_cons_succ]
      first
        | (refine held_take 6 30 (v := ?_) rfl rfl (by kernel_rfl) (by kernel_rfl) (by kernel_rfl) (fun _ _ _ h => h) (by assumption) (by rfl) ?_ ?_; rotate_left; (focus (intro w hSw; obtain ⟨⟨hS0, hS1⟩, hS2, hS3⟩ := hSw; go_simp <;> with_reducible rfl)))
        | refine held_pass 6 30 rfl rfl (by kernel_rfl) (by kernel_rfl) (by kernel_rfl) (fun _ _ _ h => h) (by assumption) (by rfl) ?_
      simp only [Act.put, List.setIfInBounds_toArray, List.set_cons_zero, List.set_cons_succ]
      refine wpAnyH_ready (rs := [7]) (by kernel_rfl) (by simp) (AllReadyH.cons rfl (fun K hK => ?_) AllReadyH.nil)
      try simp only [Go.wp_at_succ, Go.wp_at_zero]
      go_simp
      refine hK.out _ _ (HS.out _ (Bu3.out.alloc Bu3.out.size _)) (fun hHeld => ?_)
      clear hK K
      try simp only [Act.put, List.setIfInBounds_toArray, List.set_cons_zero, List.set_cons_succ]
      first
        | (refine held_take 8 6 (v := ?_) rfl rfl (by kernel_rfl) (by kernel_rfl) (by kernel_rfl) (fun _ _ _ h => h) (by assumption) (by rfl) ?_ ?_; rotate_left; (focus (intro w hSw; obtain ⟨⟨hS0, hS1⟩, hS2, hS3⟩ := hSw; go_simp <;> with_reducible rfl)))
        | refine held_pass 8 6 rfl rfl (by kernel_rfl) (by kernel_rfl) (by kernel_rfl) (fun _ _ _ h => h) (by assumption) (by rfl) ?_
      simp only [Act.put, List.setIfInBounds_toArray, List.set_cons_zero, List.set_cons_succ]
      first
        | (refine held_take 9 7 (v := ?_) rfl rfl (by kernel_rfl) (by kernel_rfl) (by kernel_rfl) (fun _ _ _ h => h) (by assumption) (by rfl) ?_ ?_; rotate_left; (focus (intro w hSw; obtain ⟨⟨hS0, hS1⟩, hS2, hS3⟩ := hSw; go_simp <;> with_reducible rfl)))
        | refine held_pass 9 7 rfl rfl (by kernel_rfl) (by kernel_rfl) (by kernel_rfl) (fun _ _ _ h => h) (by assumption) (by rfl) ?_
      simp only [Act.put, List.setIfInBounds_toArray, List.set_cons_zero, List.set_cons_succ]
      refine wpAnyH_done (by kernel_rfl) ?_ _
      clear hHeld
      have b3 : Below u3.heap.size u3 (u3.alloc (.cells #[.int .i64 n, .int .i64 r, .int .i64 k, .map (some u1.heap.size), .map (some u0.heap.size), .int .i64 ce, .slice a1 m c1, .bool false, .int .i64 0, .int .i64 0] 68)) := (Below.refl _ _).alloc (Nat.le_refl _) _
      have B3 := Lib.hid b3
      clear b3
      go_wp2
      go_returns
      have l0 := HBW.out.size
      have lm := Bu1.out.size
      have ly := Bu0.out.size
      have lp := Bu3.out.size
      have ne := NE.out
      refine ⟨_, rfl, ⟨u1.heap.size, u0.heap.size, .slice a1 m c1, ⟨heap_alloc_new u3 _, Mu3.out.on B3.out, Yu3.out.on B3.out, Ru3.out.on B3.out, by omega⟩, by omega, by omega, by omega, FR.out⟩, HBW.out.trans ((Bu3.out.trans (B3.out.mono Bu3.out.size)).mono HBW.out.size)⟩

set_option maxRecDepth 100000 in
set_option maxHeartbeats 4000000 in
theorem tynew_no (n : Int) (r k : Int) (ce : Int) (v : Value) (L : List Int) (B : Nat) (w : World) (hI : Ints w B v L) (hB : B ≤ w.heap.size) (hc0 : -9223372036854775808 ≤ ce) (hc1 : ce ≤ 9223372036854775807) (h : ¬ (1 ≤ n ∧ n ≤ 5 ∧ mayV r k = true ∧ ChainV.may ⟨ce, L⟩)) :
    Calls Try.prog 9 #[.int .i64 n, .agg #[.int .i64 r, .int .i64 k], .agg #[.int .i64 ce, v]] w fun e w' => e = .returned (.tuple #[.pointer none, .int .i64 1]) ∧ Below w.heap.size w w' := by
  obtain ⟨a0, c0, rfl⟩ : ∃ a c, v = .slice a L.length c := by obtain ⟨a, c, h, _⟩ := hI; exact ⟨a, c, h⟩
  obtain ⟨m, hml⟩ : ∃ m, m = L.length := ⟨_, rfl⟩
  obtain ⟨W, hW⟩ : ∃ W, W = (w.alloc (.cells #[.int .i64 r, .int .i64 k] 23)).alloc (.cells #[.int .i64 ce, .slice a0 m c0] 26) := ⟨_, rfl⟩
  have hBW : Below w.heap.size w W := by rw [hW]; exact ((Below.refl _ w).alloc (Nat.le_refl _) _).alloc (by simp) _
  have qW : BalB W w.heap.size r k := by rw [hW]; exact (BalB.fresh w r k).keep ((Below.refl _ _).alloc (Nat.le_refl _) _) (by simp)
  have cW : ChT W (w.heap.size + 1) ce (.slice a0 m c0) := by
    rw [hW]
    have h := ChT.fresh (w.alloc (.cells #[.int .i64 r, .int .i64 k] 23)) ce (.slice a0 m c0)
    rwa [World.size_alloc] at h
  obtain ⟨M, hM⟩ : ∃ M, M = mayV r k := ⟨_, rfl⟩
  have HM : Hid (∀ u, Calls Try.prog 27 #[.agg #[.int .i64 r, .int .i64 k]] u fun e w' => e = .returned (.bool M) ∧ Below u.heap.size u w') := fun u => vmay_r r k u hM.symm
  have HY : Hid (∀ u, Below W.heap.size W u → Calls Try.prog 28 #[.agg #[.int .i64 ce, .slice a0 m c0]] u fun e w' => e = .returned (.bool (decide (ChainV.may ⟨ce, L⟩))) ∧ Below u.heap.size u w') := fun u hu => by
    rw [hml]; exact tymay_r ce _ L B u (hI.keep ((hBW.trans (hu.mono hBW.size)).mono hB)) (Nat.le_trans hB (Nat.le_trans hBW.size hu.size)) hc0 hc1 rfl
  have HS : Hid (∀ u, Below W.heap.size W u → (fun u => (u.cell? ⟨w.heap.size, 0, none⟩ = some (.int .i64 r) ∧ u.cell? ⟨w.heap.size, 1, none⟩ = some (.int .i64 k)) ∧ u.cell? ⟨w.heap.size + 1, 0, none⟩ = some (.int .i64 ce) ∧ u.cell? ⟨w.heap.size + 1, 1, none⟩ = some (.slice a0 m c0)) u) := fun u hu => ⟨⟨(qW.keep hu qW.lt).cells.1, (qW.keep hu qW.lt).cells.2.1⟩, (cW.keep hu cW.lt).cells.1, (cW.keep hu cW.lt).cells.2.1⟩
  have HBW := Lib.hid hBW
  obtain ⟨⟨g0, g1⟩, g2, g3⟩ := HS.out _ (Below.refl _ W)
  rw [hW] at g0 g1 g2 g3
  rw [← hml]
  by_cases n1 : n < 1
  · clear h hI hB hc0 hc1 hml hBW qW cW hM HM HY HS
    go_enter Try.func9, Try.ntmps9
    go_wp2
    go_returns
    rw [← hW]
    exact ⟨by first | rfl | trivial, HBW.out⟩
  by_cases n5 : 5 < n
  · clear h hI hB hc0 hc1 hml hBW qW cW hM HM HY HS
    go_enter Try.func9, Try.ntmps9
    go_wp2
    go_returns
    rw [← hW]
    exact ⟨by first | rfl | trivial, HBW.out⟩
  cases M with
  | false =>
    clear h hI hB hc0 hc1 hml hBW qW cW hM HY HS
    go_enter Try.func9, Try.ntmps9
    go_wp2_with fail
    rw [← hW]
    clear g0 g1 g2 g3 hW
    refine (HM.out _).mono ?_
    rintro e w1 ⟨rfl, B1⟩
    go_wp2
    go_returns
    exact ⟨by first | rfl | trivial, HBW.out.trans (B1.mono HBW.out.size)⟩
  | true =>
    have hN : ¬ ChainV.may ⟨ce, L⟩ := fun hh => h ⟨by omega, by omega, hM.symm, hh⟩
    rw [decide_eq_false hN] at HY
    clear hN h hI hB hc0 hc1 hml hBW qW cW hM
    go_enter Try.func9, Try.ntmps9
    go_wp2_with fail
    rw [← hW]
    clear g0 g1 g2 g3 hW
    refine (HM.out _).mono ?_
    rintro e w1 ⟨rfl, B1⟩
    have C1 := Lib.hid B1
    obtain ⟨⟨g0, g1⟩, g2, g3⟩ := HS.out _ C1.out
    clear B1
    go_wp2_with fail
    refine (HY.out _ C1.out).mono ?_
    rintro e w2 ⟨rfl, B2⟩
    have C2 := Lib.hid (C1.out.trans (B2.mono C1.out.size))
    clear B2 g0 g1 g2 g3
    go_wp2
    go_returns
    exact ⟨by first | rfl | trivial, HBW.out.trans (C2.out.mono HBW.out.size)⟩

theorem ints_map {w w' : World} {B b : Nat} {v : Value} {L P : List Int} (h : Ints w B v L) (hb : SetB w b P) (hB : B ≤ w.heap.size) (ho : Only (· = b) w w') : Ints w' B v L := by
  obtain ⟨ao, cap, rfl, h1, h2, h3, h4⟩ := h
  refine ⟨ao, cap, rfl, h1, h2, h3, fun hl => ?_⟩
  obtain ⟨c, off, rfl, hc, hcell⟩ := h4 hl
  have hne : c ≠ b := fun e => by
    subst e
    obtain ⟨es, clock, hm⟩ := hb.isMap
    have hp : 0 < L.length := List.length_pos_iff.2 hl
    have := hcell 0 hp
    simp [World.cell?, hm] at this
  exact ⟨c, off, rfl, hc, fun j hj => (ho.cell (p := ⟨c, off + j, none⟩) (Nat.lt_of_lt_of_le hc hB) hne).trans (hcell j hj)⟩
theorem KTal.only {w w' : World} {p pm ym : Nat} {cv : Value} {s : TalV} (h : TalR w p pm ym cv s) (ho : Only (fun b => b = p ∨ b = pm ∨ b = ym) w w') : KTal w w' := ⟨ho.size, fun b cs T hb hT => (ho.block b (lt_of_block hb) fun e => by
  rcases e with rfl | rfl | rfl
  · have hh : w.heap[b]? = _ := h.b
    rw [hb] at hh
    simp only [Option.some.injEq, Obj.cells.injEq] at hh
    exact hT hh.2.1
  · obtain ⟨es, clock, hm⟩ := h.p.isMap
    rw [hm] at hb
    cases hb
  · obtain ⟨es, clock, hm⟩ := h.y.isMap
    rw [hm] at hb
    cases hb).trans hb⟩

set_option maxRecDepth 100000 in
set_option maxHeartbeats 8000000 in
theorem typro_r {w : World} {p pm ym : Nat} {cv : Value} {s : TalV} (hA : TalR w p pm ym cv s) (hok : s.ok) (x : Int) (v : VoteV) (vv : Value) (B : Nat) (hI : Ints w B vv v.C) (hB : B ≤ w.heap.size) (he0 : -9223372036854775808 ≤ v.ce) (he1 : v.ce ≤ 9223372036854775807) (hlim : v.C.length ≤ 1000000) {s' : TalV} (hs : proS s x v = s') {R : Bool} (hR : proB s x v = R) :
    Calls Try.prog 14 #[.pointer (some ⟨p, 0, none⟩), .int .i64 x, .agg #[.int .i64 v.pr, .int .i64 v.pn, .int .i64 v.ar, .int .i64 v.an, .bool v.has, .int .i64 v.ce, vv]] w fun e w' => e = .returned (.bool R) ∧ Hid ((∃ cv', TalR w' p pm ym cv' s' ∧ (cv' = cv ∨ Fresh w.heap.size cv')) ∧ Only (fun b => b = p ∨ b = pm ∨ b = ym) w w') := by
  obtain ⟨a0, c0, rfl⟩ : ∃ a c, vv = .slice a v.C.length c := by obtain ⟨a, c, h, _⟩ := hI; exact ⟨a, c, h⟩
  obtain ⟨m, hml⟩ : ∃ m, m = v.C.length := ⟨_, rfl⟩
  obtain ⟨W, hW⟩ : ∃ W, W = w.alloc (.cells #[.int .i64 v.pr, .int .i64 v.pn, .int .i64 v.ar, .int .i64 v.an, .bool v.has, .int .i64 v.ce, .slice a0 m c0] 40) := ⟨_, rfl⟩
  have hBW : Below w.heap.size w W := by rw [hW]; exact (Below.refl _ w).alloc (Nat.le_refl _) _
  have hvW : VotB W w.heap.size v (.slice a0 m c0) := by rw [hW]; exact VotB.fresh w v _
  have AW := hA.on hBW
  have IW : Ints W B (.slice a0 m c0) v.C := by rw [hml]; exact hI.keep (hBW.mono hB)
  have hBW' : B ≤ W.heap.size := Nat.le_trans hB hBW.size
  obtain ⟨S, hS⟩ : ∃ S, S = s.seat x := ⟨_, rfl⟩
  obtain ⟨F, hF⟩ : ∃ F, F = s.fits v := ⟨_, rfl⟩
  obtain ⟨D, hD⟩ : ∃ D, D = s.fresh x := ⟨_, rfl⟩
  have hRR : R = (S && F && D) := by rw [← hR, hS, hF, hD]; rfl
  have HSEAT : Hid (Calls Try.prog 30 #[.pointer (some ⟨p, 0, none⟩), .int .i64 x] W fun e w' => e = .returned (.bool S) ∧ W = w') := tyhas_r AW.b x hS.symm
  have HF : Hid (Calls Try.prog 31 #[.pointer (some ⟨p, 0, none⟩), .agg #[.int .i64 v.pr, .int .i64 v.pn, .int .i64 v.ar, .int .i64 v.an, .bool v.has, .int .i64 v.ce, .slice a0 m c0]] W fun e w' => e = .returned (.bool F) ∧ Below W.heap.size W w') := tycount_r AW.b v _ B IW hBW' he0 he1 hF.symm
  have HW := Lib.hid hW
  have HBW := Lib.hid hBW
  have HV := Lib.hid hvW
  have HA := Lib.hid AW
  have HIN := Lib.hid IW
  have HB := Lib.hid hBW'
  have HRR := Lib.hid hRR
  have HSS := Lib.hid hs
  have HPB := Lib.hid hR
  have HML := Lib.hid hml
  have HLIM := Lib.hid hlim
  have HOK := Lib.hid hok
  have HDD := Lib.hid hD
  have HSE := Lib.hid hS
  have hpl := hA.b.lt
  obtain ⟨b0, b1, b2, b3, b4, b5, b6⟩ := hvW.cells
  rw [hW] at b0 b1 b2 b3 b4 b5 b6
  rw [← hml]
  have same (h : R = false) : s' = s := by rw [← hs, proS, if_neg (by rw [hR, h]; decide)]
  have HSAME := Lib.hid same
  clear hs hRR hR hS hF hD hvW AW IW hBW' hBW hA hI hB he0 he1 hlim hok hml same hW
  cases S with
  | false =>
    obtain rfl : R = false := by rw [HRR.out]; rfl
    obtain rfl : s' = s := HSAME.out rfl
    clear HF
    go_enter Try.func14, Try.ntmps14
    go_wp2_with fail
    rw [← HW.out]
    refine HSEAT.out.mono ?_
    rintro e w1 ⟨rfl, rfl⟩
    clear b0 b1 b2 b3 b4 b5 b6
    go_wp2
    go_returns
    exact ⟨by first | rfl | trivial, ⟨cv, HA.out, Or.inl rfl⟩, .of HBW.out⟩
  | true =>
    cases F with
    | false =>
      obtain rfl : R = false := by rw [HRR.out]; rfl
      obtain rfl : s' = s := HSAME.out rfl
      go_enter Try.func14, Try.ntmps14
      go_wp2_with fail
      rw [← HW.out]
      refine HSEAT.out.mono ?_
      rintro e w1 ⟨rfl, rfl⟩
      rw [← HW.out] at b0 b1 b2 b3 b4 b5 b6
      go_wp2_with fail
      refine HF.out.mono ?_
      rintro e w2 ⟨rfl, B2⟩
      clear b0 b1 b2 b3 b4 b5 b6
      go_wp2
      go_returns
      exact ⟨by first | rfl | trivial, ⟨cv, HA.out.on B2, Or.inl rfl⟩, .of (HBW.out.trans (B2.mono HBW.out.size))⟩
    | true =>
      have HADD : Hid (∀ u, SetB u pm s.P → Calls Try.prog 32 #[.map (some pm), .int .i64 x] u fun e w' => e = .returned (.bool D) ∧ Hid (SetB w' pm (addL s.P x) ∧ Only (· = pm) u w')) := fun u hu =>
        tyadd_r hu (by have h1 := TalV.seat_yes HSE.out.symm; have h2 := HOK.out.n; omega) (by have := HOK.out.few; omega) HDD.out.symm
      go_enter Try.func14, Try.ntmps14
      go_wp2_with fail
      rw [← HW.out]
      refine HSEAT.out.mono ?_
      rintro e w1 ⟨rfl, rfl⟩
      rw [← HW.out] at b0 b1 b2 b3 b4 b5 b6
      go_wp2_with fail
      refine HF.out.mono ?_
      rintro e w2 ⟨rfl, B2⟩
      have A2 := Lib.hid (HA.out.on B2)
      have V2 := Lib.hid (HV.out.keep B2 HV.out.lt)
      have I2 := Lib.hid (HIN.out.keep (B2.mono HB.out))
      have C2 := Lib.hid (HBW.out.trans (B2.mono HBW.out.size))
      have HB2 := Lib.hid (Nat.le_trans HB.out B2.size)
      clear b0 b1 b2 b3 b4 b5 b6 B2
      obtain ⟨_, _, _, t3, _⟩ := A2.out.b.cells
      go_wp2_with fail
      refine (HADD.out _ A2.out.p).mono ?_
      rintro e w3 ⟨rfl, H3⟩
      clear t3
      have O3 := Lib.hid ((Only.of (S := fun b => b = p ∨ b = pm ∨ b = ym) C2.out).then H3.out.2 (fun y _ hy => Or.inr (Or.inl hy)))
      have V3 : Hid (VotB w3 w.heap.size v (.slice a0 m c0)) := V2.out.map A2.out.p H3.out.2
      have I3 := Lib.hid (ints_map I2.out A2.out.p HB2.out H3.out.2)
      have HB3 := Lib.hid (Nat.le_trans HB2.out H3.out.2.size)
      have L3 := Lib.hid (Nat.le_trans C2.out.size H3.out.2.size)
      cases D with
      | false =>
        obtain rfl : R = false := by rw [HRR.out]; rfl
        obtain rfl : s' = s := HSAME.out rfl
        have hin : addL s'.P x = s'.P := if_pos (by have := HDD.out; simpa [TalV.fresh] using this.symm)
        have S3 := H3.out.1
        rw [hin] at S3
        have A3 := Lib.hid (A2.out.promised S3 H3.out.2)
        clear S3 hin
        go_wp2
        go_returns
        exact ⟨by first | rfl | trivial, ⟨cv, A3.out, Or.inl rfl⟩, O3.out⟩
      | true =>
        obtain rfl : R = true := by rw [HRR.out]; rfl
        have hin : addL s.P x = s.P ++ [x] := if_neg (by have := HDD.out; simpa [TalV.fresh] using this.symm)
        have S3 := H3.out.1
        rw [hin] at S3
        have A3 : Hid (TalR w3 p pm ym cv (s.said x)) := A2.out.promised S3 H3.out.2
        clear S3 hin
        obtain ⟨c, hc⟩ : ∃ c, c = cmpV v.ar v.an s.ar s.an := ⟨_, rfl⟩
        have HCMP : Hid (∀ u, Calls Try.prog 33 #[.agg #[.int .i64 v.ar, .int .i64 v.an], .agg #[.int .i64 s.ar, .int .i64 s.an]] u fun e w' => e = .returned (.int .i64 c) ∧ Below u.heap.size u w') := fun u => vcmp_r _ _ _ _ u hc.symm
        have HCC := Lib.hid hc
        clear hc
        have HB4 : Hid (s.better v = (v.has && (!s.has || decide (0 < c)))) := by show _ = _; rw [HCC.out]; rfl
        have FX : Hid (∀ u, Below w3.heap.size w3 u → (u.cell? ⟨w.heap.size, 2, none⟩ = some (.int .i64 v.ar) ∧ u.cell? ⟨w.heap.size, 3, none⟩ = some (.int .i64 v.an) ∧ u.cell? ⟨w.heap.size, 4, none⟩ = some (.bool v.has)) ∧ u.cell? ⟨p, 7, none⟩ = some (.bool s.has) ∧ u.cell? ⟨p, 8, none⟩ = some (.int .i64 s.ar) ∧ u.cell? ⟨p, 9, none⟩ = some (.int .i64 s.an)) := fun u hu => by
          have hv := (V3.out.keep hu V3.out.lt).cells
          have ht := (A3.out.b.on hu).cells
          exact ⟨⟨hv.2.2.1, hv.2.2.2.1, hv.2.2.2.2.1⟩, ht.2.2.2.2.2.2.2.1, ht.2.2.2.2.2.2.2.2.1, ht.2.2.2.2.2.2.2.2.2⟩
        have HCOPY : Hid (∀ u, Below w3.heap.size w3 u → Calls Try.prog 29 #[.agg #[.int .i64 v.ce, .slice a0 m c0]] u fun e w' => ∃ a c, e = .returned (.agg #[.int .i64 v.ce, .slice a m c]) ∧ Hid ((RowI w' (.slice a m c) v.C ∧ Fresh w.heap.size (.slice a m c)) ∧ Below u.heap.size u w')) := fun u hu => by
          have h := tycopy_r v.ce (.slice a0 m c0) v.C B u (I3.out.keep (hu.mono HB3.out)) (Nat.le_trans HB3.out hu.size) HLIM.out
          rw [← HML.out] at h
          exact h.mono fun e w' ⟨a, c, he, hh⟩ => ⟨a, c, he, ⟨hh.out.1.1, hh.out.1.2.mono (Nat.le_trans L3.out hu.size)⟩, hh.out.2⟩
        have HS1 : Hid (s' = if s.better v = true then (s.said x).take v else s.said x) := by show _ = _; rw [← HSS.out, proS, if_pos HPB.out]
        clear HSEAT HF HADD HSAME
        generalize hhas : v.has = vh at *
        generalize hsh : s.has = sh at *
        cases vh with
        | false =>
          obtain rfl : s' = s.said x := by rw [HS1.out, HB4.out]; rfl
          clear HS1 HB4 HCOPY hhas hsh
          go_wp2_with fail
          refine region_quiet (fun v => Below w3.heap.size w3 v) (by kernel_rfl) (by kernel_rfl) ((Below.refl _ _).drew) ?_
          repeat (first
            | go_big_quiet_skip
            | (go_big_quiet_want
               (first
                | (refine quiet_run (v := ?_) ?_ ?_; rotate_left; (intro u hu; obtain ⟨⟨b0, b1, b2⟩, d0, d1, d2⟩ := FX.out u hu; go_simp <;> with_reducible rfl); simp only [Act.put, List.setIfInBounds_toArray, List.set_cons_zero, List.set_cons_succ]; go_big_quiet_on)
          )))
          refine wpQuiet_nil ?_
          intro w4 h4
          go_wp2
          go_returns
          exact ⟨by first | rfl | trivial, ⟨cv, A3.out.on h4, Or.inl rfl⟩, O3.out.then (Only.of (S := fun _ => False) h4) (fun _ _ h => h.elim)⟩
        | true =>
          cases sh with
          | false =>
            obtain rfl : s' = (s.said x).take v := by rw [HS1.out, HB4.out]; rfl
            clear HS1 HB4 hhas hsh
            go_wp2_with fail
            refine region_quiet (fun v => Below w3.heap.size w3 v) (by kernel_rfl) (by kernel_rfl) ((Below.refl _ _).drew) ?_
            repeat (first
              | go_big_quiet_skip
              | (go_big_quiet_want
                 (first
                  | (refine quiet_run (v := ?_) ?_ ?_; rotate_left; (intro u hu; obtain ⟨⟨b0, b1, b2⟩, d0, d1, d2⟩ := FX.out u hu; go_simp <;> with_reducible rfl); simp only [Act.put, List.setIfInBounds_toArray, List.set_cons_zero, List.set_cons_succ]; go_big_quiet_on)
            )))
            refine wpQuiet_nil ?_
            intro w4 h4
            have C4 := Lib.hid h4
            clear FX HCMP h4
            go_wp2_with fail
            have HS : Hid (∀ u, Below w3.heap.size w3 u → (fun u => u.cell? ⟨w.heap.size, 2, none⟩ = some (.int .i64 v.ar) ∧ u.cell? ⟨w.heap.size, 3, none⟩ = some (.int .i64 v.an) ∧ u.cell? ⟨w.heap.size, 5, none⟩ = some (.int .i64 v.ce) ∧ u.cell? ⟨w.heap.size, 6, none⟩ = some (.slice a0 m c0)) u) := fun u hu => ⟨(V3.out.keep hu V3.out.lt).cells.2.2.1, (V3.out.keep hu V3.out.lt).cells.2.2.2.1, (V3.out.keep hu V3.out.lt).cells.2.2.2.2.2.1, (V3.out.keep hu V3.out.lt).cells.2.2.2.2.2.2⟩
            refine wp_region_held_drew (S := (fun u => u.cell? ⟨w.heap.size, 2, none⟩ = some (.int .i64 v.ar) ∧ u.cell? ⟨w.heap.size, 3, none⟩ = some (.int .i64 v.an) ∧ u.cell? ⟨w.heap.size, 5, none⟩ = some (.int .i64 v.ce) ∧ u.cell? ⟨w.heap.size, 6, none⟩ = some (.slice a0 m c0))) (by kernel_rfl) (HS.out _ C4.out.drew) (fun hHeld => ?_)
            first
              | (refine held_take 0 45 (v := ?_) rfl rfl (by kernel_rfl) (by kernel_rfl) (by kernel_rfl) (fun _ _ _ h => h) (by assumption) (by rfl) ?_ ?_; rotate_left; (focus (intro w hSw; obtain ⟨hS0, hS1, hS2, hS3⟩ := hSw; go_simp <;> with_reducible rfl)))
              | refine held_pass 0 45 rfl rfl (by kernel_rfl) (by kernel_rfl) (by kernel_rfl) (fun _ _ _ h => h) (by assumption) (by rfl) ?_
            simp only [Act.put, List.setIfInBounds_toArray, List.set_cons_zero, List.set_cons_succ]
            first
              | (refine held_take 1 46 (v := ?_) rfl rfl (by kernel_rfl) (by kernel_rfl) (by kernel_rfl) (fun _ _ _ h => h) (by assumption) (by rfl) ?_ ?_; rotate_left; (focus (intro w hSw; obtain ⟨hS0, hS1, hS2, hS3⟩ := hSw; go_simp <;> with_reducible rfl)))
              | refine held_pass 1 46 rfl rfl (by kernel_rfl) (by kernel_rfl) (by kernel_rfl) (fun _ _ _ h => h) (by assumption) (by rfl) ?_
            simp only [Act.put, List.setIfInBounds_toArray, List.set_cons_zero, List.set_cons_succ]
            first
              | (refine held_take 2 47 (v := ?_) rfl rfl (by kernel_rfl) (by kernel_rfl) (by kernel_rfl) (fun _ _ _ h => h) (by assumption) (by rfl) ?_ ?_; rotate_left; (focus (intro w hSw; obtain ⟨hS0, hS1, hS2, hS3⟩ := hSw; go_simp <;> with_reducible rfl)))
              | refine held_pass 2 47 rfl rfl (by kernel_rfl) (by kernel_rfl) (by kernel_rfl) (fun _ _ _ h => h) (by assumption) (by rfl) ?_
            simp only [Act.put, List.setIfInBounds_toArray, List.set_cons_zero, List.set_cons_succ]
            first
              | (refine held_take 3 48 (v := ?_) rfl rfl (by kernel_rfl) (by kernel_rfl) (by kernel_rfl) (fun _ _ _ h => h) (by assumption) (by rfl) ?_ ?_; rotate_left; (focus (intro w hSw; obtain ⟨hS0, hS1, hS2, hS3⟩ := hSw; go_simp <;> with_reducible rfl)))
              | refine held_pass 3 48 rfl rfl (by kernel_rfl) (by kernel_rfl) (by kernel_rfl) (fun _ _ _ h => h) (by assumption) (by rfl) ?_
            simp only [Act.put, List.setIfInBounds_toArray, List.set_cons_zero, List.set_cons_succ]
            first
              | (refine held_take 4 49 (v := ?_) rfl rfl (by kernel_rfl) (by kernel_rfl) (by kernel_rfl) (fun _ _ _ h => h) (by assumption) (by rfl) ?_ ?_; rotate_left; (focus (intro w hSw; obtain ⟨hS0, hS1, hS2, hS3⟩ := hSw; go_simp <;> with_reducible rfl)))
              | refine held_pass 4 49 rfl rfl (by kernel_rfl) (by kernel_rfl) (by kernel_rfl) (fun _ _ _ h => h) (by assumption) (by rfl) ?_
            simp only [Act.put, List.setIfInBounds_toArray, List.set_cons_zero, List.set_cons_succ]
            first
              | (refine held_take 6 51 (v := ?_) rfl rfl (by kernel_rfl) (by kernel_rfl) (by kernel_rfl) (fun _ _ _ h => h) (by assumption) (by rfl) ?_ ?_; rotate_left; (focus (intro w hSw; obtain ⟨hS0, hS1, hS2, hS3⟩ := hSw; go_simp <;> with_reducible rfl)))
              | refine held_pass 6 51 rfl rfl (by kernel_rfl) (by kernel_rfl) (by kernel_rfl) (fun _ _ _ h => h) (by assumption) (by rfl) ?_
            simp only [Act.put, List.setIfInBounds_toArray, List.set_cons_zero, List.set_cons_succ]
            first
              | (refine held_take 7 52 (v := ?_) rfl rfl (by kernel_rfl) (by kernel_rfl) (by kernel_rfl) (fun _ _ _ h => h) (by assumption) (by rfl) ?_ ?_; rotate_left; (focus (intro w hSw; obtain ⟨hS0, hS1, hS2, hS3⟩ := hSw; go_simp <;> with_reducible rfl)))
              | refine held_pass 7 52 rfl rfl (by kernel_rfl) (by kernel_rfl) (by kernel_rfl) (fun _ _ _ h => h) (by assumption) (by rfl) ?_
            simp only [Act.put, List.setIfInBounds_toArray, List.set_cons_zero, List.set_cons_succ]
            refine held_call 5 50 rfl rfl (by kernel_rfl) (by rfl) (fun K hK => ?_)
            simp only [Go.wp_at_succ, Go.wp_at_zero]
            go_simp
            refine (HCOPY.out _ C4.out.drew).mono ?_
            rintro e w5 ⟨a1, c1, rfl, H5⟩
            have C5 := Lib.hid (C4.out.drew.trans (H5.out.2.mono C4.out.drew.size))
            first | (with_reducible refine hK.out _ _ ?_ (fun hHeld => ?_)) | (go_wp2_with fail; refine hK.out _ _ ?_ (fun hHeld => ?_))
            · exact HS.out _ C5.out
            clear hK K
            try simp only [Act.put, List.setIfInBounds_toArray, List.set_cons_zero, List.set_cons_succ]
            have A5 := Lib.hid (A3.out.on C5.out)
            obtain ⟨y0, y1, y2, y3, y4, y5, y6, y7, y8, y9⟩ := A5.out.b.cells
            have z5 := A5.out.b.free 5
            have z6 := A5.out.b.free 6
            have z7 := A5.out.b.free 7
            have z8 := A5.out.b.free 8
            have z9 := A5.out.b.free 9
            obtain ⟨k1, k2⟩ := A5.out.taken (cv' := .slice a1 m c1) v H5.out.1.1
            have K1 := Lib.hid k1
            have K2 := Lib.hid k2
            clear k1 k2
            have hw5 := C5.out.size
            have hv3 := V3.out.lt
            have HO : Hid (∀ u, Only (· = p) w5 u → (fun u => u.cell? ⟨w.heap.size, 2, none⟩ = some (.int .i64 v.ar) ∧ u.cell? ⟨w.heap.size, 3, none⟩ = some (.int .i64 v.an) ∧ u.cell? ⟨w.heap.size, 5, none⟩ = some (.int .i64 v.ce) ∧ u.cell? ⟨w.heap.size, 6, none⟩ = some (.slice a0 m c0)) u) := fun u hu => by
              have hh := HS.out _ C5.out
              exact ⟨(hu.cell (p := ⟨w.heap.size, 2, none⟩) (by show w.heap.size < _; omega) (by show ¬ w.heap.size = p; omega)).trans hh.1, (hu.cell (p := ⟨w.heap.size, 3, none⟩) (by show w.heap.size < _; omega) (by show ¬ w.heap.size = p; omega)).trans hh.2.1, (hu.cell (p := ⟨w.heap.size, 5, none⟩) (by show w.heap.size < _; omega) (by show ¬ w.heap.size = p; omega)).trans hh.2.2.1, (hu.cell (p := ⟨w.heap.size, 6, none⟩) (by show w.heap.size < _; omega) (by show ¬ w.heap.size = p; omega)).trans hh.2.2.2⟩
            have o1 : Hid (Only (· = p) w5 ((w5.setCell ⟨p, 5, none⟩ (.int .i64 v.ce)).setCell ⟨p, 6, none⟩ (.slice a1 m c1))) := (Only.set p 5 w5 _).trans (Only.set p 6 _ _)
            have o2 : Hid (Only (· = p) w5 (((w5.setCell ⟨p, 5, none⟩ (.int .i64 v.ce)).setCell ⟨p, 6, none⟩ (.slice a1 m c1)).setCell ⟨p, 7, none⟩ (.bool true))) := o1.out.trans (Only.set p 7 _ _)
            have o3 : Hid (Only (· = p) w5 (((((w5.setCell ⟨p, 5, none⟩ (.int .i64 v.ce)).setCell ⟨p, 6, none⟩ (.slice a1 m c1)).setCell ⟨p, 7, none⟩ (.bool true)).setCell ⟨p, 8, none⟩ (.int .i64 v.ar)).setCell ⟨p, 9, none⟩ (.int .i64 v.an))) := (o2.out.trans (Only.set p 8 _ _)).trans (Only.set p 9 _ _)
            first
              | (refine held_take 8 53 (v := ?_) rfl rfl (by kernel_rfl) (by kernel_rfl) (by kernel_rfl) (fun _ _ _ h => h) (by assumption) (by rfl) ?_ ?_; rotate_left; (focus (intro w hSw; obtain ⟨hS0, hS1, hS2, hS3⟩ := hSw; go_simp <;> with_reducible rfl)))
              | refine held_pass 8 53 rfl rfl (by kernel_rfl) (by kernel_rfl) (by kernel_rfl) (fun _ _ _ h => h) (by assumption) (by rfl) ?_
            simp only [Act.put, List.setIfInBounds_toArray, List.set_cons_zero, List.set_cons_succ]
            first
              | (refine held_take 9 54 (v := ?_) rfl rfl (by kernel_rfl) (by kernel_rfl) (by kernel_rfl) (fun _ _ _ h => h) (by assumption) (by rfl) ?_ ?_; rotate_left; (focus (intro w hSw; obtain ⟨hS0, hS1, hS2, hS3⟩ := hSw; go_simp <;> with_reducible rfl)))
              | refine held_pass 9 54 rfl rfl (by kernel_rfl) (by kernel_rfl) (by kernel_rfl) (fun _ _ _ h => h) (by assumption) (by rfl) ?_
            simp only [Act.put, List.setIfInBounds_toArray, List.set_cons_zero, List.set_cons_succ]
            refine wpAnyH_ready (rs := [10]) (by kernel_rfl) (by simp) (AllReadyH.cons rfl (fun K hK => ?_) AllReadyH.nil)
            try simp only [Go.wp_at_succ, Go.wp_at_zero]
            go_simp
            refine hK.out _ _ (HO.out _ o1.out) (fun hHeld => ?_)
            clear hK K
            try simp only [Act.put, List.setIfInBounds_toArray, List.set_cons_zero, List.set_cons_succ]
            first
              | (refine held_take 11 55 (v := ?_) rfl rfl (by kernel_rfl) (by kernel_rfl) (by kernel_rfl) (fun _ _ _ h => h) (by assumption) (by rfl) ?_ ?_; rotate_left; (focus (intro w hSw; obtain ⟨hS0, hS1, hS2, hS3⟩ := hSw; go_simp <;> with_reducible rfl)))
              | refine held_pass 11 55 rfl rfl (by kernel_rfl) (by kernel_rfl) (by kernel_rfl) (fun _ _ _ h => h) (by assumption) (by rfl) ?_
            simp only [Act.put, List.setIfInBounds_toArray, List.set_cons_zero, List.set_cons_succ]
            first
              | (refine held_take 12 56 (v := ?_) rfl rfl (by kernel_rfl) (by kernel_rfl) (by kernel_rfl) (fun _ _ _ h => h) (by assumption) (by rfl) ?_ ?_; rotate_left; (focus (intro w hSw; obtain ⟨hS0, hS1, hS2, hS3⟩ := hSw; go_simp <;> with_reducible rfl)))
              | refine held_pass 12 56 rfl rfl (by kernel_rfl) (by kernel_rfl) (by kernel_rfl) (fun _ _ _ h => h) (by assumption) (by rfl) ?_
            simp only [Act.put, List.setIfInBounds_toArray, List.set_cons_zero, List.set_cons_succ]
            refine wpAnyH_ready (rs := [13]) (by kernel_rfl) (by simp) (AllReadyH.cons rfl (fun K hK => ?_) AllReadyH.nil)
            try simp only [Go.wp_at_succ, Go.wp_at_zero]
            go_simp
            refine hK.out _ _ (HO.out _ o2.out) (fun hHeld => ?_)
            clear hK K
            try simp only [Act.put, List.setIfInBounds_toArray, List.set_cons_zero, List.set_cons_succ]
            first
              | (refine held_take 14 57 (v := ?_) rfl rfl (by kernel_rfl) (by kernel_rfl) (by kernel_rfl) (fun _ _ _ h => h) (by assumption) (by rfl) ?_ ?_; rotate_left; (focus (intro w hSw; obtain ⟨hS0, hS1, hS2, hS3⟩ := hSw; go_simp <;> with_reducible rfl)))
              | refine held_pass 14 57 rfl rfl (by kernel_rfl) (by kernel_rfl) (by kernel_rfl) (fun _ _ _ h => h) (by assumption) (by rfl) ?_
            simp only [Act.put, List.setIfInBounds_toArray, List.set_cons_zero, List.set_cons_succ]
            first
              | (refine held_take 15 58 (v := ?_) rfl rfl (by kernel_rfl) (by kernel_rfl) (by kernel_rfl) (fun _ _ _ h => h) (by assumption) (by rfl) ?_ ?_; rotate_left; (focus (intro w hSw; obtain ⟨hS0, hS1, hS2, hS3⟩ := hSw; go_simp <;> with_reducible rfl)))
              | refine held_pass 15 58 rfl rfl (by kernel_rfl) (by kernel_rfl) (by kernel_rfl) (fun _ _ _ h => h) (by assumption) (by rfl) ?_
            simp only [Act.put, List.setIfInBounds_toArray, List.set_cons_zero, List.set_cons_succ]
            refine wpAnyH_ready (rs := [16]) (by kernel_rfl) (by simp) (AllReadyH.cons rfl (fun K hK => ?_) AllReadyH.nil)
            try simp only [Go.wp_at_succ, Go.wp_at_zero]
            go_simp
            refine hK.out _ _ (HO.out _ o3.out) (fun hHeld => ?_)
            clear hK K
            try simp only [Act.put, List.setIfInBounds_toArray, List.set_cons_zero, List.set_cons_succ]
            refine wpAnyH_done (by kernel_rfl) ?_ _
            clear hHeld
            go_wp2
            go_returns
            exact ⟨by first | rfl | trivial, ⟨_, K1.out, Or.inr H5.out.1.2⟩, (O3.out.then (Only.of (S := fun _ => False) C5.out) (fun _ _ h => h.elim)).then K2.out (fun _ _ h => Or.inl h)⟩
          | true =>
            by_cases hc : 0 < c
            · obtain rfl : s' = (s.said x).take v := by rw [HS1.out, HB4.out, decide_eq_true hc]; rfl
              clear HS1 HB4 hhas hsh
              go_wp2_with fail
              refine region_quiet (fun v => Below w3.heap.size w3 v) (by kernel_rfl) (by kernel_rfl) ((Below.refl _ _).drew) ?_
              repeat (first
                | go_big_quiet_skip
                | (go_big_quiet_want
                   (first
                    | (refine quiet_run (v := ?_) ?_ ?_; rotate_left; (intro u hu; obtain ⟨⟨b0, b1, b2⟩, d0, d1, d2⟩ := FX.out u hu; go_simp <;> with_reducible rfl); simp only [Act.put, List.setIfInBounds_toArray, List.set_cons_zero, List.set_cons_succ]; go_big_quiet_on)
                    | (refine quiet_enter 33 _ ?_ (fun u hu => (HCMP.out u).mono fun e u' ⟨he, hb⟩ => ⟨he, hu.trans (hb.mono hu.size)⟩) ?_; (focus (intro u; first | (go_simp; done) | (go_simp; with_reducible rfl))); simp only [Act.put, List.setIfInBounds_toArray, List.set_cons_zero, List.set_cons_succ]; go_big_quiet_on))))
              refine wpQuiet_nil ?_
              intro w4 h4
              have C4 := Lib.hid h4
              clear FX HCMP h4
              go_wp2_with fail
              have HS : Hid (∀ u, Below w3.heap.size w3 u → (fun u => u.cell? ⟨w.heap.size, 2, none⟩ = some (.int .i64 v.ar) ∧ u.cell? ⟨w.heap.size, 3, none⟩ = some (.int .i64 v.an) ∧ u.cell? ⟨w.heap.size, 5, none⟩ = some (.int .i64 v.ce) ∧ u.cell? ⟨w.heap.size, 6, none⟩ = some (.slice a0 m c0)) u) := fun u hu => ⟨(V3.out.keep hu V3.out.lt).cells.2.2.1, (V3.out.keep hu V3.out.lt).cells.2.2.2.1, (V3.out.keep hu V3.out.lt).cells.2.2.2.2.2.1, (V3.out.keep hu V3.out.lt).cells.2.2.2.2.2.2⟩
              refine wp_region_held_drew (S := (fun u => u.cell? ⟨w.heap.size, 2, none⟩ = some (.int .i64 v.ar) ∧ u.cell? ⟨w.heap.size, 3, none⟩ = some (.int .i64 v.an) ∧ u.cell? ⟨w.heap.size, 5, none⟩ = some (.int .i64 v.ce) ∧ u.cell? ⟨w.heap.size, 6, none⟩ = some (.slice a0 m c0))) (by kernel_rfl) (HS.out _ C4.out.drew) (fun hHeld => ?_)
              first
                | (refine held_take 0 45 (v := ?_) rfl rfl (by kernel_rfl) (by kernel_rfl) (by kernel_rfl) (fun _ _ _ h => h) (by assumption) (by rfl) ?_ ?_; rotate_left; (focus (intro w hSw; obtain ⟨hS0, hS1, hS2, hS3⟩ := hSw; go_simp <;> with_reducible rfl)))
                | refine held_pass 0 45 rfl rfl (by kernel_rfl) (by kernel_rfl) (by kernel_rfl) (fun _ _ _ h => h) (by assumption) (by rfl) ?_
              simp only [Act.put, List.setIfInBounds_toArray, List.set_cons_zero, List.set_cons_succ]
              first
                | (refine held_take 1 46 (v := ?_) rfl rfl (by kernel_rfl) (by kernel_rfl) (by kernel_rfl) (fun _ _ _ h => h) (by assumption) (by rfl) ?_ ?_; rotate_left; (focus (intro w hSw; obtain ⟨hS0, hS1, hS2, hS3⟩ := hSw; go_simp <;> with_reducible rfl)))
                | refine held_pass 1 46 rfl rfl (by kernel_rfl) (by kernel_rfl) (by kernel_rfl) (fun _ _ _ h => h) (by assumption) (by rfl) ?_
              simp only [Act.put, List.setIfInBounds_toArray, List.set_cons_zero, List.set_cons_succ]
              first
                | (refine held_take 2 47 (v := ?_) rfl rfl (by kernel_rfl) (by kernel_rfl) (by kernel_rfl) (fun _ _ _ h => h) (by assumption) (by rfl) ?_ ?_; rotate_left; (focus (intro w hSw; obtain ⟨hS0, hS1, hS2, hS3⟩ := hSw; go_simp <;> with_reducible rfl)))
                | refine held_pass 2 47 rfl rfl (by kernel_rfl) (by kernel_rfl) (by kernel_rfl) (fun _ _ _ h => h) (by assumption) (by rfl) ?_
              simp only [Act.put, List.setIfInBounds_toArray, List.set_cons_zero, List.set_cons_succ]
              first
                | (refine held_take 3 48 (v := ?_) rfl rfl (by kernel_rfl) (by kernel_rfl) (by kernel_rfl) (fun _ _ _ h => h) (by assumption) (by rfl) ?_ ?_; rotate_left; (focus (intro w hSw; obtain ⟨hS0, hS1, hS2, hS3⟩ := hSw; go_simp <;> with_reducible rfl)))
                | refine held_pass 3 48 rfl rfl (by kernel_rfl) (by kernel_rfl) (by kernel_rfl) (fun _ _ _ h => h) (by assumption) (by rfl) ?_
              simp only [Act.put, List.setIfInBounds_toArray, List.set_cons_zero, List.set_cons_succ]
              first
                | (refine held_take 4 49 (v := ?_) rfl rfl (by kernel_rfl) (by kernel_rfl) (by kernel_rfl) (fun _ _ _ h => h) (by assumption) (by rfl) ?_ ?_; rotate_left; (focus (intro w hSw; obtain ⟨hS0, hS1, hS2, hS3⟩ := hSw; go_simp <;> with_reducible rfl)))
                | refine held_pass 4 49 rfl rfl (by kernel_rfl) (by kernel_rfl) (by kernel_rfl) (fun _ _ _ h => h) (by assumption) (by rfl) ?_
              simp only [Act.put, List.setIfInBounds_toArray, List.set_cons_zero, List.set_cons_succ]
              first
                | (refine held_take 6 51 (v := ?_) rfl rfl (by kernel_rfl) (by kernel_rfl) (by kernel_rfl) (fun _ _ _ h => h) (by assumption) (by rfl) ?_ ?_; rotate_left; (focus (intro w hSw; obtain ⟨hS0, hS1, hS2, hS3⟩ := hSw; go_simp <;> with_reducible rfl)))
                | refine held_pass 6 51 rfl rfl (by kernel_rfl) (by kernel_rfl) (by kernel_rfl) (fun _ _ _ h => h) (by assumption) (by rfl) ?_
              simp only [Act.put, List.setIfInBounds_toArray, List.set_cons_zero, List.set_cons_succ]
              first
                | (refine held_take 7 52 (v := ?_) rfl rfl (by kernel_rfl) (by kernel_rfl) (by kernel_rfl) (fun _ _ _ h => h) (by assumption) (by rfl) ?_ ?_; rotate_left; (focus (intro w hSw; obtain ⟨hS0, hS1, hS2, hS3⟩ := hSw; go_simp <;> with_reducible rfl)))
                | refine held_pass 7 52 rfl rfl (by kernel_rfl) (by kernel_rfl) (by kernel_rfl) (fun _ _ _ h => h) (by assumption) (by rfl) ?_
              simp only [Act.put, List.setIfInBounds_toArray, List.set_cons_zero, List.set_cons_succ]
              refine held_call 5 50 rfl rfl (by kernel_rfl) (by rfl) (fun K hK => ?_)
              simp only [Go.wp_at_succ, Go.wp_at_zero]
              go_simp
              refine (HCOPY.out _ C4.out.drew).mono ?_
              rintro e w5 ⟨a1, c1, rfl, H5⟩
              have C5 := Lib.hid (C4.out.drew.trans (H5.out.2.mono C4.out.drew.size))
              first | (with_reducible refine hK.out _ _ ?_ (fun hHeld => ?_)) | (go_wp2_with fail; refine hK.out _ _ ?_ (fun hHeld => ?_))
              · exact HS.out _ C5.out
              clear hK K
              try simp only [Act.put, List.setIfInBounds_toArray, List.set_cons_zero, List.set_cons_succ]
              have A5 := Lib.hid (A3.out.on C5.out)
              obtain ⟨y0, y1, y2, y3, y4, y5, y6, y7, y8, y9⟩ := A5.out.b.cells
              have z5 := A5.out.b.free 5
              have z6 := A5.out.b.free 6
              have z7 := A5.out.b.free 7
              have z8 := A5.out.b.free 8
              have z9 := A5.out.b.free 9
              obtain ⟨k1, k2⟩ := A5.out.taken (cv' := .slice a1 m c1) v H5.out.1.1
              have K1 := Lib.hid k1
              have K2 := Lib.hid k2
              clear k1 k2
              have hw5 := C5.out.size
              have hv3 := V3.out.lt
              have HO : Hid (∀ u, Only (· = p) w5 u → (fun u => u.cell? ⟨w.heap.size, 2, none⟩ = some (.int .i64 v.ar) ∧ u.cell? ⟨w.heap.size, 3, none⟩ = some (.int .i64 v.an) ∧ u.cell? ⟨w.heap.size, 5, none⟩ = some (.int .i64 v.ce) ∧ u.cell? ⟨w.heap.size, 6, none⟩ = some (.slice a0 m c0)) u) := fun u hu => by
                have hh := HS.out _ C5.out
                exact ⟨(hu.cell (p := ⟨w.heap.size, 2, none⟩) (by show w.heap.size < _; omega) (by show ¬ w.heap.size = p; omega)).trans hh.1, (hu.cell (p := ⟨w.heap.size, 3, none⟩) (by show w.heap.size < _; omega) (by show ¬ w.heap.size = p; omega)).trans hh.2.1, (hu.cell (p := ⟨w.heap.size, 5, none⟩) (by show w.heap.size < _; omega) (by show ¬ w.heap.size = p; omega)).trans hh.2.2.1, (hu.cell (p := ⟨w.heap.size, 6, none⟩) (by show w.heap.size < _; omega) (by show ¬ w.heap.size = p; omega)).trans hh.2.2.2⟩
              have o1 : Hid (Only (· = p) w5 ((w5.setCell ⟨p, 5, none⟩ (.int .i64 v.ce)).setCell ⟨p, 6, none⟩ (.slice a1 m c1))) := (Only.set p 5 w5 _).trans (Only.set p 6 _ _)
              have o2 : Hid (Only (· = p) w5 (((w5.setCell ⟨p, 5, none⟩ (.int .i64 v.ce)).setCell ⟨p, 6, none⟩ (.slice a1 m c1)).setCell ⟨p, 7, none⟩ (.bool true))) := o1.out.trans (Only.set p 7 _ _)
              have o3 : Hid (Only (· = p) w5 (((((w5.setCell ⟨p, 5, none⟩ (.int .i64 v.ce)).setCell ⟨p, 6, none⟩ (.slice a1 m c1)).setCell ⟨p, 7, none⟩ (.bool true)).setCell ⟨p, 8, none⟩ (.int .i64 v.ar)).setCell ⟨p, 9, none⟩ (.int .i64 v.an))) := (o2.out.trans (Only.set p 8 _ _)).trans (Only.set p 9 _ _)
              first
                | (refine held_take 8 53 (v := ?_) rfl rfl (by kernel_rfl) (by kernel_rfl) (by kernel_rfl) (fun _ _ _ h => h) (by assumption) (by rfl) ?_ ?_; rotate_left; (focus (intro w hSw; obtain ⟨hS0, hS1, hS2, hS3⟩ := hSw; go_simp <;> with_reducible rfl)))
                | refine held_pass 8 53 rfl rfl (by kernel_rfl) (by kernel_rfl) (by kernel_rfl) (fun _ _ _ h => h) (by assumption) (by rfl) ?_
              simp only [Act.put, List.setIfInBounds_toArray, List.set_cons_zero, List.set_cons_succ]
              first
                | (refine held_take 9 54 (v := ?_) rfl rfl (by kernel_rfl) (by kernel_rfl) (by kernel_rfl) (fun _ _ _ h => h) (by assumption) (by rfl) ?_ ?_; rotate_left; (focus (intro w hSw; obtain ⟨hS0, hS1, hS2, hS3⟩ := hSw; go_simp <;> with_reducible rfl)))
                | refine held_pass 9 54 rfl rfl (by kernel_rfl) (by kernel_rfl) (by kernel_rfl) (fun _ _ _ h => h) (by assumption) (by rfl) ?_
              simp only [Act.put, List.setIfInBounds_toArray, List.set_cons_zero, List.set_cons_succ]
              refine wpAnyH_ready (rs := [10]) (by kernel_rfl) (by simp) (AllReadyH.cons rfl (fun K hK => ?_) AllReadyH.nil)
              try simp only [Go.wp_at_succ, Go.wp_at_zero]
              go_simp
              refine hK.out _ _ (HO.out _ o1.out) (fun hHeld => ?_)
              clear hK K
              try simp only [Act.put, List.setIfInBounds_toArray, List.set_cons_zero, List.set_cons_succ]
              first
                | (refine held_take 11 55 (v := ?_) rfl rfl (by kernel_rfl) (by kernel_rfl) (by kernel_rfl) (fun _ _ _ h => h) (by assumption) (by rfl) ?_ ?_; rotate_left; (focus (intro w hSw; obtain ⟨hS0, hS1, hS2, hS3⟩ := hSw; go_simp <;> with_reducible rfl)))
                | refine held_pass 11 55 rfl rfl (by kernel_rfl) (by kernel_rfl) (by kernel_rfl) (fun _ _ _ h => h) (by assumption) (by rfl) ?_
              simp only [Act.put, List.setIfInBounds_toArray, List.set_cons_zero, List.set_cons_succ]
              first
                | (refine held_take 12 56 (v := ?_) rfl rfl (by kernel_rfl) (by kernel_rfl) (by kernel_rfl) (fun _ _ _ h => h) (by assumption) (by rfl) ?_ ?_; rotate_left; (focus (intro w hSw; obtain ⟨hS0, hS1, hS2, hS3⟩ := hSw; go_simp <;> with_reducible rfl)))
                | refine held_pass 12 56 rfl rfl (by kernel_rfl) (by kernel_rfl) (by kernel_rfl) (fun _ _ _ h => h) (by assumption) (by rfl) ?_
              simp only [Act.put, List.setIfInBounds_toArray, List.set_cons_zero, List.set_cons_succ]
              refine wpAnyH_ready (rs := [13]) (by kernel_rfl) (by simp) (AllReadyH.cons rfl (fun K hK => ?_) AllReadyH.nil)
              try simp only [Go.wp_at_succ, Go.wp_at_zero]
              go_simp
              refine hK.out _ _ (HO.out _ o2.out) (fun hHeld => ?_)
              clear hK K
              try simp only [Act.put, List.setIfInBounds_toArray, List.set_cons_zero, List.set_cons_succ]
              first
                | (refine held_take 14 57 (v := ?_) rfl rfl (by kernel_rfl) (by kernel_rfl) (by kernel_rfl) (fun _ _ _ h => h) (by assumption) (by rfl) ?_ ?_; rotate_left; (focus (intro w hSw; obtain ⟨hS0, hS1, hS2, hS3⟩ := hSw; go_simp <;> with_reducible rfl)))
                | refine held_pass 14 57 rfl rfl (by kernel_rfl) (by kernel_rfl) (by kernel_rfl) (fun _ _ _ h => h) (by assumption) (by rfl) ?_
              simp only [Act.put, List.setIfInBounds_toArray, List.set_cons_zero, List.set_cons_succ]
              first
                | (refine held_take 15 58 (v := ?_) rfl rfl (by kernel_rfl) (by kernel_rfl) (by kernel_rfl) (fun _ _ _ h => h) (by assumption) (by rfl) ?_ ?_; rotate_left; (focus (intro w hSw; obtain ⟨hS0, hS1, hS2, hS3⟩ := hSw; go_simp <;> with_reducible rfl)))
                | refine held_pass 15 58 rfl rfl (by kernel_rfl) (by kernel_rfl) (by kernel_rfl) (fun _ _ _ h => h) (by assumption) (by rfl) ?_
              simp only [Act.put, List.setIfInBounds_toArray, List.set_cons_zero, List.set_cons_succ]
              refine wpAnyH_ready (rs := [16]) (by kernel_rfl) (by simp) (AllReadyH.cons rfl (fun K hK => ?_) AllReadyH.nil)
              try simp only [Go.wp_at_succ, Go.wp_at_zero]
              go_simp
              refine hK.out _ _ (HO.out _ o3.out) (fun hHeld => ?_)
              clear hK K
              try simp only [Act.put, List.setIfInBounds_toArray, List.set_cons_zero, List.set_cons_succ]
              refine wpAnyH_done (by kernel_rfl) ?_ _
              clear hHeld
              go_wp2
              go_returns
              exact ⟨by first | rfl | trivial, ⟨_, K1.out, Or.inr H5.out.1.2⟩, (O3.out.then (Only.of (S := fun _ => False) C5.out) (fun _ _ h => h.elim)).then K2.out (fun _ _ h => Or.inl h)⟩
            · obtain rfl : s' = s.said x := by rw [HS1.out, HB4.out, decide_eq_false hc]; rfl
              clear HS1 HB4 HCOPY hhas hsh
              go_wp2_with fail
              refine region_quiet (fun v => Below w3.heap.size w3 v) (by kernel_rfl) (by kernel_rfl) ((Below.refl _ _).drew) ?_
              repeat (first
                | go_big_quiet_skip
                | (go_big_quiet_want
                   (first
                    | (refine quiet_run (v := ?_) ?_ ?_; rotate_left; (intro u hu; obtain ⟨⟨b0, b1, b2⟩, d0, d1, d2⟩ := FX.out u hu; go_simp <;> with_reducible rfl); simp only [Act.put, List.setIfInBounds_toArray, List.set_cons_zero, List.set_cons_succ]; go_big_quiet_on)
                    | (refine quiet_enter 33 _ ?_ (fun u hu => (HCMP.out u).mono fun e u' ⟨he, hb⟩ => ⟨he, hu.trans (hb.mono hu.size)⟩) ?_; (focus (intro u; first | (go_simp; done) | (go_simp; with_reducible rfl))); simp only [Act.put, List.setIfInBounds_toArray, List.set_cons_zero, List.set_cons_succ]; go_big_quiet_on))))
              refine wpQuiet_nil ?_
              intro w4 h4
              go_wp2
              go_returns
              exact ⟨by first | rfl | trivial, ⟨cv, A3.out.on h4, Or.inl rfl⟩, O3.out.then (Only.of (S := fun _ => False) h4) (fun _ _ h => h.elim)⟩

end Go.Proofs.Ytiidmiioegdfaaa
