/-
  Which chain may follow, who stands where, is what the document says (12.1, 12.2), as ChainAsks says: for any two chains (of at most 10 nodes), any numbers. No condition.
-/
import Derived.Test.YtnliadnpoledmaaChainT
import Derived.Test.YtnliadnpoledmaaChainR
import Derived.Test.YtnliadnpoledmaaChainTwo
import Derived.Test.YtnliadnpoledmaaItemArgs
namespace Go.Proofs.Ytnliadnpoledmaa.ChainAsks
open Go.ChangeShapes Go.WideShapes Go.ChangeAt Go.RowKit

structure P4 (w v : World) (ea : Int) (va : Value) (A : List Int) (eb : Int) (vb : Value) (L : List Int) (bc bd : Nat) (ec : Int) (vc vd : Value) (F : List Int) : Prop where
  p : P2 w v ea va A eb vb L
  c : ChB v bc ec vc
  d : ChB v bd ec vd
  ic : Ints v v.heap.size vc F
  id : Ints v v.heap.size vd F
theorem P4.step {w v v' : World} {ea : Int} {va : Value} {A : List Int} {eb : Int} {vb : Value} {L : List Int} {bc bd : Nat} {ec : Int} {vc vd : Value} {F : List Int} (t : P4 w v ea va A eb vb L bc bd ec vc vd F) (hb : Below v.heap.size v v') : P4 w v' ea va A eb vb L bc bd ec vc vd F :=
  ⟨t.p.step hb, t.c.keep hb t.c.lt, t.d.keep hb t.d.lt, (t.ic.keep hb).mono hb.size, (t.id.keep hb).mono hb.size⟩

theorem firsts (n : Int) : ∃ (ec : Int) (er : Int) (F : List Int), F.length ≤ 5 ∧
    (∀ u, Calls Try.prog 8 #[.int .i64 n] u fun e w' => ∃ a m c, e = .returned (.tuple #[.agg #[.int .i64 ec, .slice a m c], .int .i64 er]) ∧ Hid (Ints w' w'.heap.size (.slice a m c) F) ∧ Hid (Below u.heap.size u w')) ∧
    (∀ u, Calls Try.prog 18 #[.int .i64 n] u fun e w' => ∃ a m c, e = .returned (.tuple #[.agg #[.int .i64 ec, .slice a m c], .int .i64 er]) ∧ Hid (Ints w' w'.heap.size (.slice a m c) F) ∧ Hid (Below u.heap.size u w')) := by
  by_cases h : n < 1 ∨ 5 < n
  · exact ⟨0, 1, [], by simp, fun u => (chfirst_no n h u).mono fun e w' ⟨h1, h2⟩ => ⟨_, _, _, h1, Ints.none _ _, h2⟩, fun u => (rhfirst_no n h u).mono fun e w' ⟨h1, h2⟩ => ⟨_, _, _, h1, Ints.none _ _, h2⟩⟩
  · obtain ⟨k, rfl⟩ : ∃ k : Nat, n = k := ⟨n.toNat, by omega⟩
    have h1 : 1 ≤ k := by omega
    have h5 : k ≤ 5 := by omega
    exact ⟨1, 0, firstL k, by simp [firstL]; omega, fun u => (chfirst_in k h1 h5 u).mono fun e w' ⟨a, c, h1, h2, h3⟩ => ⟨a, _, c, h1, ints_own h2 (Nat.le_refl _), h3⟩, fun u => (rhfirst_in k h1 h5 u).mono fun e w' ⟨a, c, h1, h2, h3⟩ => ⟨a, _, c, h1, ints_own h2 (Nat.le_refl _), h3⟩⟩

set_option maxHeartbeats 4000000 in
set_option maxRecDepth 100000 in
theorem many (ea : Int) (aa : Option Addr) (ca : Nat) (A : List Int) (eb : Int) (ab : Option Addr) (cb : Nat) (L : List Int) (n node : Int) (w : World) (hA : Ints w w.heap.size (.slice aa A.length ca) A) (hL : Ints w w.heap.size (.slice ab L.length cb) L) (hm : ¬ (A.length ≤ 10 ∧ L.length ≤ 10)) :
    Calls Try.prog 4 #[.agg #[.int .i64 ea, .slice aa A.length ca], .agg #[.int .i64 eb, .slice ab L.length cb], .int .i64 n, .int .i64 node] w fun e w' => e = .returned (.bool true) ∧ Below w.heap.size w w' := by
  have HT := Lib.hid (fun u => told12_any u)
  have HFA : Hid (∀ u v B, Ints u B v A → Calls Try.prog 17 #[.agg #[.int .i64 ea, v]] u fun e w' => e = .returned (.bool (decide (A.length ≤ 10))) ∧ Below u.heap.size u w') := fun u v B h => few12_r ea v A B u h rfl
  have HFB : Hid (∀ u v B, Ints u B v L → Calls Try.prog 17 #[.agg #[.int .i64 eb, v]] u fun e w' => e = .returned (.bool (decide (L.length ≤ 10))) ∧ Below u.heap.size u w') := fun u v B h => few12_r eb v L B u h rfl
  have T0 := Lib.hid (P2.start hA hL (ea := ea) (eb := eb))
  clear hA hL
  by_cases hA10 : A.length ≤ 10
  · have hL10 : decide (L.length ≤ 10) = false := decide_eq_false (fun h => hm ⟨hA10, h⟩)
    have hA11 := decide_eq_true hA10
    rw [hA11] at HFA
    rw [hL10] at HFB
    clear hA10 hL10 hA11 hm
    go_enter Try.func4, Try.ntmps4
    obtain ⟨⟨c0, c1⟩, d0, d1⟩ := T0.out.cells
    go_wp2_with fail
    clear c0 c1 d0 d1
    refine (HFA.out _ _ _ T0.out.ia).mono ?_
    rintro e w1 ⟨rfl, B1⟩
    have T1 := Lib.hid (T0.out.step B1)
    clear B1 T0
    obtain ⟨⟨c0, c1⟩, d0, d1⟩ := T1.out.cells
    go_wp2_with fail
    clear c0 c1 d0 d1
    refine (HFB.out _ _ _ T1.out.ib).mono ?_
    rintro e w2 ⟨rfl, B2⟩
    have T2 := Lib.hid (T1.out.step B2)
    clear B2 T1
    go_wp2_with fail
    refine (HT.out _).mono ?_
    rintro e w3 ⟨rfl, B3⟩
    have T3 := Lib.hid (T2.out.step B3)
    clear B3 T2
    go_wp2
    go_returns
    exact ⟨rfl, T3.out.bel⟩
  · have hA11 := decide_eq_false hA10
    rw [hA11] at HFA
    clear hA10 hA11 hm HFB
    go_enter Try.func4, Try.ntmps4
    obtain ⟨⟨c0, c1⟩, d0, d1⟩ := T0.out.cells
    go_wp2_with fail
    clear c0 c1 d0 d1
    refine (HFA.out _ _ _ T0.out.ia).mono ?_
    rintro e w1 ⟨rfl, B1⟩
    have T1 := Lib.hid (T0.out.step B1)
    clear B1 T0
    go_wp2_with fail
    refine (HT.out _).mono ?_
    rintro e w3 ⟨rfl, B3⟩
    have T3 := Lib.hid (T1.out.step B3)
    clear B3 T1
    go_wp2
    go_returns
    exact ⟨rfl, T3.out.bel⟩

set_option maxHeartbeats 8000000 in
set_option maxRecDepth 100000 in
theorem main (ea : Int) (aa : Option Addr) (ca : Nat) (A : List Int) (eb : Int) (ab : Option Addr) (cb : Nat) (L : List Int) (n node : Int) (w : World) (hA : Ints w w.heap.size (.slice aa A.length ca) A) (hL : Ints w w.heap.size (.slice ab L.length cb) L) (hA10 : A.length ≤ 10) (hL10 : L.length ≤ 10) :
    Calls Try.prog 4 #[.agg #[.int .i64 ea, .slice aa A.length ca], .agg #[.int .i64 eb, .slice ab L.length cb], .int .i64 n, .int .i64 node] w fun e w' => e = .returned (.bool true) ∧ Below w.heap.size w w' := by
  have HT := Lib.hid (fun u => told12_any u)
  have HFA : Hid (∀ u v B, Ints u B v A → Calls Try.prog 17 #[.agg #[.int .i64 ea, v]] u fun e w' => e = .returned (.bool true) ∧ Below u.heap.size u w') := fun u v B h => few12_r ea v A B u h (decide_eq_true hA10)
  have HFB : Hid (∀ u v B, Ints u B v L → Calls Try.prog 17 #[.agg #[.int .i64 eb, v]] u fun e w' => e = .returned (.bool true) ∧ Below u.heap.size u w') := fun u v B h => few12_r eb v L B u h (decide_eq_true hL10)
  have T0 := Lib.hid (P2.start hA hL (ea := ea) (eb := eb))
  obtain ⟨ec, er, F, hF5, H1, H2⟩ := firsts n
  have HF1 := Lib.hid H1
  have HF2 := Lib.hid H2
  obtain ⟨S, hS⟩ : ∃ S, decide (ea = eb ∧ A = L) = S := ⟨_, rfl⟩
  obtain ⟨N, hN⟩ : ∃ N, decide (nextC ea A eb L n) = N := ⟨_, rfl⟩
  obtain ⟨M, hM⟩ : ∃ M, decide (ChainV.may ⟨ea, A⟩) = M := ⟨_, rfl⟩
  have HSR : Hid (∀ u, P2 w u ea (.slice aa A.length ca) A eb (.slice ab L.length cb) L → Calls Try.prog 19 #[.agg #[.int .i64 ea, .slice aa A.length ca], .agg #[.int .i64 eb, .slice ab L.length cb]] u fun e w' => e = .returned (.bool S) ∧ Below u.heap.size u w') := fun u hu => by
    have := refsame_any ea eb (.slice aa A.length ca) (.slice ab L.length cb) A L u.heap.size u hu.ia hu.ib (Nat.le_refl _) (by omega)
    rwa [hS] at this
  have HSP : Hid (∀ u, P2 w u ea (.slice aa A.length ca) A eb (.slice ab L.length cb) L → Calls Try.prog 21 #[.agg #[.int .i64 ea, .slice aa A.length ca], .agg #[.int .i64 eb, .slice ab L.length cb]] u fun e w' => e = .returned (.bool S) ∧ Below u.heap.size u w') := fun u hu => by
    have := chsame_r ea eb (.slice aa A.length ca) (.slice ab L.length cb) A L u.heap.size u hu.ia hu.ib (Nat.le_refl _) (by omega)
    rwa [hS] at this
  have HNP : Hid (∀ u, P2 w u ea (.slice aa A.length ca) A eb (.slice ab L.length cb) L → Calls Try.prog 14 #[.agg #[.int .i64 ea, .slice aa A.length ca], .agg #[.int .i64 eb, .slice ab L.length cb], .int .i64 n] u fun e w' => e = .returned (.bool N) ∧ Below u.heap.size u w') := fun u hu => chnext_r ea _ A eb _ L n u.heap.size u hu.ia hu.ib (Nat.le_refl _) hN
  have HNR : Hid (∀ u, P2 w u ea (.slice aa A.length ca) A eb (.slice ab L.length cb) L → Calls Try.prog 20 #[.agg #[.int .i64 ea, .slice aa A.length ca], .agg #[.int .i64 eb, .slice ab L.length cb], .int .i64 n] u fun e w' => e = .returned (.bool N) ∧ Below u.heap.size u w') := fun u hu => rhfollows_r ea _ A eb _ L n u.heap.size u hu.ia hu.ib (Nat.le_refl _) (by omega) (by omega) hN
  have HSF : Hid (∀ u v1 v2, Ints u u.heap.size v1 F → Ints u u.heap.size v2 F → Calls Try.prog 19 #[.agg #[.int .i64 ec, v1], .agg #[.int .i64 ec, v2]] u fun e w' => e = .returned (.bool true) ∧ Below u.heap.size u w') := fun u v1 v2 h1 h2 => by
    have := refsame_any ec ec v1 v2 F F u.heap.size u h1 h2 (Nat.le_refl _) (by omega)
    simpa using this
  have HMM : Hid (∀ u, P2 w u ea (.slice aa A.length ca) A eb (.slice ab L.length cb) L → Calls Try.prog 15 #[.agg #[.int .i64 ea, .slice aa A.length ca]] u fun e w' => e = .returned (.bool M) ∧ Below u.heap.size u w') := fun u hu => refmaychain_r ea _ A u.heap.size u hu.ia (Nat.le_refl _) M hM.symm
  have HMV := Lib.hid hM
  clear hA hL hA10 hL10 hF5 H1 H2 hS hN hM
  go_enter Try.func4, Try.ntmps4
  obtain ⟨⟨c0, c1⟩, d0, d1⟩ := T0.out.cells
  go_wp2_with fail
  clear c0 c1 d0 d1
  refine (HFA.out _ _ _ T0.out.ia).mono ?_
  rintro e w1 ⟨rfl, B1⟩
  have T1 := Lib.hid (T0.out.step B1)
  clear B1 T0
  obtain ⟨⟨c0, c1⟩, d0, d1⟩ := T1.out.cells
  go_wp2_with fail
  clear c0 c1 d0 d1
  refine (HFB.out _ _ _ T1.out.ib).mono ?_
  rintro e w2 ⟨rfl, B2⟩
  have T2 := Lib.hid (T1.out.step B2)
  clear B2 T1
  go_wp2_with fail
  refine (HF1.out _).mono ?_
  rintro e w3 ⟨a3, m3, c3, rfl, I3, B3⟩
  have T3 := Lib.hid (T2.out.step B3.out)
  clear B3 T2
  go_wp2_with fail
  obtain ⟨w4, hw4⟩ : ∃ w4, w4 = w3.alloc (.cells #[.int .i64 ec, .slice a3 m3 c3] 25) := ⟨_, rfl⟩
  have h34 : Below w3.heap.size w3 w4 := by rw [hw4]; exact (Below.refl _ w3).alloc (Nat.le_refl _) _
  have C4 : Hid (ChB w4 w3.heap.size ec (.slice a3 m3 c3)) := by rw [hw4]; exact ChB.fresh w3 _ _ _
  have T4 := Lib.hid (T3.out.step h34)
  have I4 := Lib.hid ((I3.out.keep h34).mono h34.size)
  rw [← hw4]
  clear hw4 h34 I3 T3
  refine (HF2.out _).mono ?_
  rintro e w5 ⟨a5, m5, c5, rfl, I5, B5⟩
  have T5 := Lib.hid (T4.out.step B5.out)
  have C5 := Lib.hid (C4.out.keep B5.out C4.out.lt)
  have J5 := Lib.hid ((I4.out.keep B5.out).mono B5.out.size)
  clear T4 C4 I4 B5
  have h56 : Below w5.heap.size w5 (w5.alloc (.cells #[.int .i64 ec, .slice a5 m5 c5] 25)).drew := ((Below.refl _ w5).alloc (Nat.le_refl _) _).drew
  have h55 : Below w5.heap.size w5 (w5.alloc (.cells #[.int .i64 ec, .slice a5 m5 c5] 25)) := ((Below.refl _ w5).alloc (Nat.le_refl _) _)
  have P0 : P4 w (w5.alloc (.cells #[.int .i64 ec, .slice a5 m5 c5] 25)).drew ea (.slice aa A.length ca) A eb (.slice ab L.length cb) L w3.heap.size w5.heap.size ec (.slice a3 m3 c3) (.slice a5 m5 c5) F :=
    ⟨T5.out.step h56, C5.out.keep h56 C5.out.lt, (show ChB (w5.alloc (.cells #[.int .i64 ec, .slice a5 m5 c5] 25)) w5.heap.size ec (.slice a5 m5 c5) from ChB.fresh w5 _ _ _).keep ((Below.refl (w5.alloc (.cells #[.int .i64 ec, .slice a5 m5 c5] 25)).heap.size _).drew) (ChB.fresh w5 _ _ _).lt, (J5.out.keep h56).mono h56.size, (I5.out.keep h56).mono h56.size⟩
  have FX : Hid (∀ u, P4 w u ea (.slice aa A.length ca) A eb (.slice ab L.length cb) L w3.heap.size w5.heap.size ec (.slice a3 m3 c3) (.slice a5 m5 c5) F → u.cell? ⟨w.heap.size, 0, none⟩ = some (.int .i64 ea) ∧ u.cell? ⟨w.heap.size, 1, none⟩ = some (.slice aa A.length ca) ∧
      u.cell? ⟨w.heap.size + 1, 0, none⟩ = some (.int .i64 eb) ∧ u.cell? ⟨w.heap.size + 1, 1, none⟩ = some (.slice ab L.length cb) ∧ u.cell? ⟨w3.heap.size, 0, none⟩ = some (.int .i64 ec) ∧ u.cell? ⟨w3.heap.size, 1, none⟩ = some (.slice a3 m3 c3) ∧
      u.cell? ⟨w5.heap.size, 0, none⟩ = some (.int .i64 ec) ∧ u.cell? ⟨w5.heap.size, 1, none⟩ = some (.slice a5 m5 c5)) := fun u hu =>
    ⟨hu.p.a.cells.1, hu.p.a.cells.2, hu.p.b.cells.1, hu.p.b.cells.2, hu.c.cells.1, hu.c.cells.2, hu.d.cells.1, hu.d.cells.2⟩
  clear C5 J5 I5 h55
  go_wp2_with fail
  clear h56 T5
  refine region_quiet (fun v => P4 w v ea (.slice aa A.length ca) A eb (.slice ab L.length cb) L w3.heap.size w5.heap.size ec (.slice a3 m3 c3) (.slice a5 m5 c5) F) (by kernel_rfl) (by kernel_rfl) P0 ?_
  repeat (first
    | go_big_quiet_skip
    | (go_big_quiet_want
       (first
        | (refine quiet_run (v := ?_) ?_ ?_; rotate_left; (intro u hu; obtain ⟨c0, c1, c2, c3, c4, c5, c6, c7⟩ := FX.out u hu; go_simp <;> with_reducible rfl); simp only [Act.put, List.setIfInBounds_toArray, List.set_cons_zero, List.set_cons_succ]; go_big_quiet_on)
        | (refine quiet_enter 19 _ ?_ (fun u hu => (HSF.out u _ _ hu.ic hu.id).mono fun e u' ⟨he, hb⟩ => ⟨he, hu.step hb⟩) ?_; (focus (intro u; first | (go_simp; done) | (go_simp; with_reducible rfl))); simp only [Act.put, List.setIfInBounds_toArray, List.set_cons_zero, List.set_cons_succ]; go_big_quiet_on)
        | (refine quiet_enter 19 _ ?_ (fun u hu => (HSR.out u hu.p).mono fun e u' ⟨he, hb⟩ => ⟨he, hu.step hb⟩) ?_; (focus (intro u; first | (go_simp; done) | (go_simp; with_reducible rfl))); simp only [Act.put, List.setIfInBounds_toArray, List.set_cons_zero, List.set_cons_succ]; go_big_quiet_on)
        | (refine quiet_enter 21 _ ?_ (fun u hu => (HSP.out u hu.p).mono fun e u' ⟨he, hb⟩ => ⟨he, hu.step hb⟩) ?_; (focus (intro u; first | (go_simp; done) | (go_simp; with_reducible rfl))); simp only [Act.put, List.setIfInBounds_toArray, List.set_cons_zero, List.set_cons_succ]; go_big_quiet_on)
        | (refine quiet_enter 14 _ ?_ (fun u hu => (HNP.out u hu.p).mono fun e u' ⟨he, hb⟩ => ⟨he, hu.step hb⟩) ?_; (focus (intro u; first | (go_simp; done) | (go_simp; with_reducible rfl))); simp only [Act.put, List.setIfInBounds_toArray, List.set_cons_zero, List.set_cons_succ]; go_big_quiet_on)
        | (refine quiet_enter 20 _ ?_ (fun u hu => (HNR.out u hu.p).mono fun e u' ⟨he, hb⟩ => ⟨he, hu.step hb⟩) ?_; (focus (intro u; first | (go_simp; done) | (go_simp; with_reducible rfl))); simp only [Act.put, List.setIfInBounds_toArray, List.set_cons_zero, List.set_cons_succ]; go_big_quiet_on))))
  refine wpQuiet_nil ?_
  intro w6 h6
  have T6 := Lib.hid h6.p
  clear P0 FX h6 HSF HSR HSP HNP HNR
  obtain ⟨⟨c0, c1⟩, d0, d1⟩ := T6.out.cells
  go_wp2_with fail
  clear c0 c1 d0 d1
  refine (HMM.out _ T6.out).mono ?_
  rintro e w7 ⟨rfl, B7⟩
  have T7 := Lib.hid (T6.out.step B7)
  clear B7 T6 HMM
  cases M
  · go_wp2_with fail
    refine (HT.out _).mono ?_
    rintro e w8 ⟨rfl, B8⟩
    have T8 := Lib.hid (T7.out.step B8)
    clear B8 T7
    go_wp2
    go_returns
    exact ⟨rfl, T8.out.bel⟩
  have HMAY : Hid (ChainV.may ⟨ea, A⟩) := Lib.hid (of_decide_eq_true HMV.out)
  clear HMV
  obtain ⟨m, hm⟩ : ∃ m, A.length = m + 1 := ⟨A.length - 1, by have := HMAY.out.2.2.1; simp only at this; omega⟩
  have hm5 : m ≤ 4 := by have := HMAY.out.2.2.2.1; simp only at this; omega
  have hlim : A.length ≤ 1000000 := by omega
  obtain ⟨b, off, rfl, hb, hcell⟩ : ∃ b off, aa = some ⟨b, off, none⟩ ∧ b < w7.heap.size ∧ ∀ j, j < A.length → w7.cell? ⟨b, off + j, none⟩ = some (.int .i64 (A.getD j 0)) := by
    obtain ⟨ao, cap, he, _, _, _, h⟩ := T7.out.ia
    obtain ⟨b, off, hao, hb, hc⟩ := h (by intro h; rw [h] at hm; simp at hm)
    injection he with he1 _ _
    exact ⟨b, off, he1.trans hao, hb, hc⟩
  obtain ⟨y0, hy0⟩ : ∃ y, A.getD 0 0 = y := ⟨_, rfl⟩
  obtain ⟨ym, hym⟩ : ∃ y, A.getD m 0 = y := ⟨_, rfl⟩
  obtain ⟨P, hP⟩ : ∃ P, plcV A node = P := ⟨_, rfl⟩
  obtain ⟨AB, hAB⟩ : ∃ x, abvV A node = x := ⟨_, rfl⟩
  obtain ⟨BL, hBL⟩ : ∃ x, blwV A node = x := ⟨_, rfl⟩
  obtain ⟨IN, hIN⟩ : ∃ x, decide (node ∈ A) = x := ⟨_, rfl⟩
  have HPL : Hid (∀ u, P2 w u ea (.slice (some ⟨b, off, none⟩) (m + 1) ca) A eb (.slice ab L.length cb) L → Calls Try.prog 22 #[.agg #[.int .i64 ea, .slice (some ⟨b, off, none⟩) (m + 1) ca], .int .i64 node] u fun e w' => e = .returned (.int .i64 P) ∧ Below u.heap.size u w') := fun u hu => rhplace_r ea _ A node u.heap.size u hu.ia (Nat.le_refl _) hlim hP
  have HHA : Hid (∀ u, P2 w u ea (.slice (some ⟨b, off, none⟩) (m + 1) ca) A eb (.slice ab L.length cb) L → Calls Try.prog 10 #[.agg #[.int .i64 ea, .slice (some ⟨b, off, none⟩) (m + 1) ca], .int .i64 node] u fun e w' => e = .returned (.bool IN) ∧ Below u.heap.size u w') := fun u hu => chhas_r ea _ A hlim node u.heap.size u hu.ia (Nat.le_refl _) hIN
  have HAV : Hid (∀ u, P2 w u ea (.slice (some ⟨b, off, none⟩) (m + 1) ca) A eb (.slice ab L.length cb) L → Calls Try.prog 9 #[.agg #[.int .i64 ea, .slice (some ⟨b, off, none⟩) (m + 1) ca], .int .i64 node] u fun e w' => e = .returned (.int .i64 AB) ∧ Below u.heap.size u w') := fun u hu => chabove_r ea _ A hlim node u.heap.size u hu.ia (Nat.le_refl _) hAB
  have HBW : Hid (∀ u, P2 w u ea (.slice (some ⟨b, off, none⟩) (m + 1) ca) A eb (.slice ab L.length cb) L → Calls Try.prog 24 #[.agg #[.int .i64 ea, .slice (some ⟨b, off, none⟩) (m + 1) ca], .int .i64 node] u fun e w' => e = .returned (.int .i64 BL) ∧ Below u.heap.size u w') := fun u hu => chbelow_r ea _ A hlim node u.heap.size u hu.ia (Nat.le_refl _) hBL
  have HHD : Hid (∀ u, P2 w u ea (.slice (some ⟨b, off, none⟩) (m + 1) ca) A eb (.slice ab L.length cb) L → Calls Try.prog 23 #[.agg #[.int .i64 ea, .slice (some ⟨b, off, none⟩) (m + 1) ca]] u fun e w' => e = .returned (.int .i64 y0) ∧ Below u.heap.size u w') := fun u hu => chhead_r ea _ A u.heap.size u hu.ia (Nat.le_refl _) (by have := chAt_in (L := A) (k := 0) (by omega); rw [← hy0]; exact this)
  have HTL : Hid (∀ u, P2 w u ea (.slice (some ⟨b, off, none⟩) (m + 1) ca) A eb (.slice ab L.length cb) L → Calls Try.prog 13 #[.agg #[.int .i64 ea, .slice (some ⟨b, off, none⟩) (m + 1) ca]] u fun e w' => e = .returned (.int .i64 ym) ∧ Below u.heap.size u w') := fun u hu => chtail_r ea _ A hlim u.heap.size u hu.ia (Nat.le_refl _) (by have := chAt_in (L := A) (k := m) (by omega); rw [← hym, hm, show ((m + 1 : Nat) : Int) - 1 = (m : Int) by omega]; exact this)
  have HHN : Hid (∀ u, Calls Try.prog 23 #[.agg #[.int .i64 0, .slice none 0 0]] u fun e w' => e = .returned (.int .i64 (-1)) ∧ Below u.heap.size u w') := fun u => chhead_r 0 _ [] u.heap.size u (Ints.none _ _) (Nat.le_refl _) (by decide)
  have HTN : Hid (∀ u, Calls Try.prog 13 #[.agg #[.int .i64 0, .slice none 0 0]] u fun e w' => e = .returned (.int .i64 (-1)) ∧ Below u.heap.size u w') := fun u => chtail_r 0 _ [] (by simp) u.heap.size u (Ints.none _ _) (Nat.le_refl _) (by decide)
  rw [hm] at T7 ⊢
  have HAB := Lib.hid hAB
  have HBL := Lib.hid hBL
  have HP := Lib.hid hP
  have HIN := Lib.hid hIN
  have HMl := Lib.hid hm
  have HCE : Hid (∀ u, Below w7.heap.size w7 u → ∀ j, j < m + 1 → u.cell? ⟨b, off + j, none⟩ = some (.int .i64 (A.getD j 0))) := fun u hu j hj => (hu.cell (p := ⟨b, off + j, none⟩) hb).trans (hcell j (by omega))
  have HY0 := Lib.hid hy0
  have HYM := Lib.hid hym
  clear hAB hBL hP hIN hm hb hcell hlim hy0 hym
  obtain ⟨⟨c0, c1⟩, d0, d1⟩ := T7.out.cells
  go_wp2_with fail
  clear c0 c1 d0 d1
  refine (HPL.out _ T7.out).mono ?_
  rintro e w8 ⟨rfl, B8⟩
  have T8 := Lib.hid (T7.out.step B8)
  have HC8 : Hid (∀ u, Below w8.heap.size w8 u → ∀ j, j < m + 1 → u.cell? ⟨b, off + j, none⟩ = some (.int .i64 (A.getD j 0))) := fun u hu => HCE.out u (B8.trans (hu.mono B8.size))
  clear B8 T7 HCE HPL
  have FX : Hid (∀ u, P2 w u ea (.slice (some ⟨b, off, none⟩) (m + 1) ca) A eb (.slice ab L.length cb) L ∧ Below w8.heap.size w8 u → u.cell? ⟨w.heap.size, 0, none⟩ = some (.int .i64 ea) ∧ u.cell? ⟨w.heap.size, 1, none⟩ = some (.slice (some ⟨b, off, none⟩) (m + 1) ca) ∧ u.cell? ⟨b, off, none⟩ = some (.int .i64 y0) ∧ u.cell? ⟨b, off + m, none⟩ = some (.int .i64 ym)) := fun u hu =>
    ⟨hu.1.a.cells.1, hu.1.a.cells.2, by have := HC8.out u hu.2 0 (by omega); rwa [HY0.out] at this, by have := HC8.out u hu.2 m (by omega); rwa [HYM.out] at this⟩
  have P0 : P2 w w8.drew ea (.slice (some ⟨b, off, none⟩) (m + 1) ca) A eb (.slice ab L.length cb) L ∧ Below w8.heap.size w8 w8.drew := ⟨T8.out.step (Below.refl _ _).drew, (Below.refl _ _).drew⟩
  have kd := wrap_down (m + 1) (by omega)
  rw [show ((m + 1 : Nat) : Int) - 1 = (m : Int) by omega] at kd
  have kw : IntKind.i64.wrap (m : Int) = (m : Int) := by rw [IntKind.wrap_i64]; omega
  have kl : (m : Int) < (m : Int) + 1 := by omega
  by_cases hin : node ∈ A
  · obtain ⟨i, hi⟩ : ∃ i, i = A.idxOf node := ⟨_, rfl⟩
    obtain ⟨hi1, hi2⟩ := mem_getD hin
    rw [← hi] at hi1
    obtain rfl : P = (i : Int) := by rw [← HP.out, hi]; unfold plcV; rw [if_pos hin]
    obtain rfl : IN = true := by rw [← HIN.out]; exact decide_eq_true hin
    have him : i < m + 1 := by have := HMl.out; omega
    have hab : AB = chAt A ((i : Int) - 1) := by rw [← HAB.out, hi]; unfold abvV; rw [if_pos hin]
    have hbl : BL = chAt A ((i : Int) + 1) := by rw [← HBL.out, hi]; unfold blwV; rw [if_pos hin]
    clear hin hi1 hi2 hi HP HIN HAB HBL
    have hml := HMl.out
    by_cases h0 : i = 0
    · subst h0
      obtain rfl : AB = -1 := by rw [hab]; exact chAt_out (by omega)
      clear hab
      by_cases h1 : m = 0
      · obtain rfl : BL = -1 := by rw [hbl]; exact chAt_out (by omega)
        have g3 : ¬ (0 : Int) < (m : Int) := by omega
        clear hbl hml h1
        obtain ⟨c0, c1, c2, c3⟩ := FX.out w8 ⟨T8.out, Below.refl _ _⟩
        go_wp2_with fail
        clear c0 c1 c2 c3
        refine region_quiet (fun v => P2 w v ea (.slice (some ⟨b, off, none⟩) (m + 1) ca) A eb (.slice ab L.length cb) L ∧ Below w8.heap.size w8 v) (by kernel_rfl) (by kernel_rfl) P0 ?_
        repeat (first
          | go_big_quiet_skip
          | (go_big_quiet_want
             (first
              | (refine quiet_run (v := ?_) ?_ ?_; rotate_left; (intro u hu; obtain ⟨c0, c1, c2, c3⟩ := FX.out u hu; go_simp <;> with_reducible rfl); simp only [Act.put, List.setIfInBounds_toArray, List.set_cons_zero, List.set_cons_succ]; go_big_quiet_on)
              | (refine quiet_enter 16 _ ?_ (fun u hu => (HT.out u).mono fun e u' ⟨he, hb⟩ => ⟨he, ⟨hu.1.step hb, hu.2.trans (hb.mono hu.2.size)⟩⟩) ?_; (focus (intro u; first | (go_simp; done) | (go_simp; with_reducible rfl))); simp only [Act.put, List.setIfInBounds_toArray, List.set_cons_zero, List.set_cons_succ]; go_big_quiet_on)
              | (refine quiet_enter 10 _ ?_ (fun u hu => (HHA.out u hu.1).mono fun e u' ⟨he, hb⟩ => ⟨he, ⟨hu.1.step hb, hu.2.trans (hb.mono hu.2.size)⟩⟩) ?_; (focus (intro u; first | (go_simp; done) | (go_simp; with_reducible rfl))); simp only [Act.put, List.setIfInBounds_toArray, List.set_cons_zero, List.set_cons_succ]; go_big_quiet_on)
              | (refine quiet_enter 23 _ ?_ (fun u hu => (HHD.out u hu.1).mono fun e u' ⟨he, hb⟩ => ⟨he, ⟨hu.1.step hb, hu.2.trans (hb.mono hu.2.size)⟩⟩) ?_; (focus (intro u; first | (go_simp; done) | (go_simp; with_reducible rfl))); simp only [Act.put, List.setIfInBounds_toArray, List.set_cons_zero, List.set_cons_succ]; go_big_quiet_on)
              | (refine quiet_enter 13 _ ?_ (fun u hu => (HTL.out u hu.1).mono fun e u' ⟨he, hb⟩ => ⟨he, ⟨hu.1.step hb, hu.2.trans (hb.mono hu.2.size)⟩⟩) ?_; (focus (intro u; first | (go_simp; done) | (go_simp; with_reducible rfl))); simp only [Act.put, List.setIfInBounds_toArray, List.set_cons_zero, List.set_cons_succ]; go_big_quiet_on)
              | (refine quiet_enter 9 _ ?_ (fun u hu => (HAV.out u hu.1).mono fun e u' ⟨he, hb⟩ => ⟨he, ⟨hu.1.step hb, hu.2.trans (hb.mono hu.2.size)⟩⟩) ?_; (focus (intro u; first | (go_simp; done) | (go_simp; with_reducible rfl))); simp only [Act.put, List.setIfInBounds_toArray, List.set_cons_zero, List.set_cons_succ]; go_big_quiet_on)
              | (refine quiet_enter 24 _ ?_ (fun u hu => (HBW.out u hu.1).mono fun e u' ⟨he, hb⟩ => ⟨he, ⟨hu.1.step hb, hu.2.trans (hb.mono hu.2.size)⟩⟩) ?_; (focus (intro u; first | (go_simp; done) | (go_simp; with_reducible rfl))); simp only [Act.put, List.setIfInBounds_toArray, List.set_cons_zero, List.set_cons_succ]; go_big_quiet_on)
              | (refine quiet_enter 23 _ ?_ (fun u hu => (HHN.out u).mono fun e u' ⟨he, hb⟩ => ⟨he, ⟨hu.1.step hb, hu.2.trans (hb.mono hu.2.size)⟩⟩) ?_; (focus (intro u; first | (go_simp; done) | (go_simp; with_reducible rfl))); simp only [Act.put, List.setIfInBounds_toArray, List.set_cons_zero, List.set_cons_succ]; go_big_quiet_on)
              | (refine quiet_enter 13 _ ?_ (fun u hu => (HTN.out u).mono fun e u' ⟨he, hb⟩ => ⟨he, ⟨hu.1.step hb, hu.2.trans (hb.mono hu.2.size)⟩⟩) ?_; (focus (intro u; first | (go_simp; done) | (go_simp; with_reducible rfl))); simp only [Act.put, List.setIfInBounds_toArray, List.set_cons_zero, List.set_cons_succ]; go_big_quiet_on))))
        refine wpQuiet_nil ?_
        intro w9 h9
        go_wp2
        go_returns
        exact ⟨ret_bool (by simp), h9.1.bel⟩
      · have hBL : BL = A.getD (0 + 1) 0 := by rw [hbl]; exact chAt_in (k := 0 + 1) (by omega)
        have e0 : w8.cell? ⟨b, off + 1, none⟩ = some (.int .i64 BL) := by rw [hBL]; exact HC8.out _ (Below.refl _ _) 1 (by omega)
        have g1 : (0 : Int) < (m : Int) := by omega
        have g5 : (1 : Int) < (m : Int) + 1 := by omega
        clear hbl hBL hml h1
        obtain ⟨c0, c1, c2, c3⟩ := FX.out w8 ⟨T8.out, Below.refl _ _⟩
        go_wp2_with fail
        clear c0 c1 c2 c3
        refine region_quiet (fun v => P2 w v ea (.slice (some ⟨b, off, none⟩) (m + 1) ca) A eb (.slice ab L.length cb) L ∧ Below w8.heap.size w8 v) (by kernel_rfl) (by kernel_rfl) P0 ?_
        repeat (first
          | go_big_quiet_skip
          | (go_big_quiet_want
             (first
              | (refine quiet_run (v := ?_) ?_ ?_; rotate_left; (intro u hu; obtain ⟨c0, c1, c2, c3⟩ := FX.out u hu; go_simp <;> with_reducible rfl); simp only [Act.put, List.setIfInBounds_toArray, List.set_cons_zero, List.set_cons_succ]; go_big_quiet_on)
              | (refine quiet_enter 16 _ ?_ (fun u hu => (HT.out u).mono fun e u' ⟨he, hb⟩ => ⟨he, ⟨hu.1.step hb, hu.2.trans (hb.mono hu.2.size)⟩⟩) ?_; (focus (intro u; first | (go_simp; done) | (go_simp; with_reducible rfl))); simp only [Act.put, List.setIfInBounds_toArray, List.set_cons_zero, List.set_cons_succ]; go_big_quiet_on)
              | (refine quiet_enter 10 _ ?_ (fun u hu => (HHA.out u hu.1).mono fun e u' ⟨he, hb⟩ => ⟨he, ⟨hu.1.step hb, hu.2.trans (hb.mono hu.2.size)⟩⟩) ?_; (focus (intro u; first | (go_simp; done) | (go_simp; with_reducible rfl))); simp only [Act.put, List.setIfInBounds_toArray, List.set_cons_zero, List.set_cons_succ]; go_big_quiet_on)
              | (refine quiet_enter 23 _ ?_ (fun u hu => (HHD.out u hu.1).mono fun e u' ⟨he, hb⟩ => ⟨he, ⟨hu.1.step hb, hu.2.trans (hb.mono hu.2.size)⟩⟩) ?_; (focus (intro u; first | (go_simp; done) | (go_simp; with_reducible rfl))); simp only [Act.put, List.setIfInBounds_toArray, List.set_cons_zero, List.set_cons_succ]; go_big_quiet_on)
              | (refine quiet_enter 13 _ ?_ (fun u hu => (HTL.out u hu.1).mono fun e u' ⟨he, hb⟩ => ⟨he, ⟨hu.1.step hb, hu.2.trans (hb.mono hu.2.size)⟩⟩) ?_; (focus (intro u; first | (go_simp; done) | (go_simp; with_reducible rfl))); simp only [Act.put, List.setIfInBounds_toArray, List.set_cons_zero, List.set_cons_succ]; go_big_quiet_on)
              | (refine quiet_enter 9 _ ?_ (fun u hu => (HAV.out u hu.1).mono fun e u' ⟨he, hb⟩ => ⟨he, ⟨hu.1.step hb, hu.2.trans (hb.mono hu.2.size)⟩⟩) ?_; (focus (intro u; first | (go_simp; done) | (go_simp; with_reducible rfl))); simp only [Act.put, List.setIfInBounds_toArray, List.set_cons_zero, List.set_cons_succ]; go_big_quiet_on)
              | (refine quiet_enter 24 _ ?_ (fun u hu => (HBW.out u hu.1).mono fun e u' ⟨he, hb⟩ => ⟨he, ⟨hu.1.step hb, hu.2.trans (hb.mono hu.2.size)⟩⟩) ?_; (focus (intro u; first | (go_simp; done) | (go_simp; with_reducible rfl))); simp only [Act.put, List.setIfInBounds_toArray, List.set_cons_zero, List.set_cons_succ]; go_big_quiet_on)
              | (refine quiet_enter 23 _ ?_ (fun u hu => (HHN.out u).mono fun e u' ⟨he, hb⟩ => ⟨he, ⟨hu.1.step hb, hu.2.trans (hb.mono hu.2.size)⟩⟩) ?_; (focus (intro u; first | (go_simp; done) | (go_simp; with_reducible rfl))); simp only [Act.put, List.setIfInBounds_toArray, List.set_cons_zero, List.set_cons_succ]; go_big_quiet_on)
              | (refine quiet_enter 13 _ ?_ (fun u hu => (HTN.out u).mono fun e u' ⟨he, hb⟩ => ⟨he, ⟨hu.1.step hb, hu.2.trans (hb.mono hu.2.size)⟩⟩) ?_; (focus (intro u; first | (go_simp; done) | (go_simp; with_reducible rfl))); simp only [Act.put, List.setIfInBounds_toArray, List.set_cons_zero, List.set_cons_succ]; go_big_quiet_on))))
        refine wpQuiet_nil ?_
        intro w9 h9
        go_wp2
        go_returns
        exact ⟨ret_bool (by simp), h9.1.bel⟩
    · obtain ⟨j, rfl⟩ : ∃ j, i = j + 1 := ⟨i - 1, by omega⟩
      have hAB : AB = A.getD j 0 := by rw [hab, show ((j + 1 : Nat) : Int) - 1 = (j : Int) by omega]; exact chAt_in (by omega)
      have e1 : w8.cell? ⟨b, off + j, none⟩ = some (.int .i64 AB) := by rw [hAB]; exact HC8.out _ (Below.refl _ _) j (by omega)
      have kj : wrap64 (((j + 1 : Nat) : Int) - 1) = (j : Int) := by rw [show ((j + 1 : Nat) : Int) - 1 = (j : Int) by omega]; exact IntWalk.wrap64_in _ (by omega)
      obtain ⟨I, hI⟩ : ∃ I : Int, I = ((j + 1 : Nat) : Int) := ⟨_, rfl⟩
      rw [← hI] at kj hbl ⊢
      have g0 : 0 < I := by omega
      have g6 : (j : Int) < (m : Int) + 1 := by omega
      have g2 : 0 ≤ I := by omega
      by_cases h1 : j + 1 = m
      · obtain rfl : BL = -1 := by rw [hbl]; exact chAt_out (by omega)
        have g3 : ¬ I < (m : Int) := by omega
        clear hbl hml h1 hAB hab hI h0
        obtain ⟨c0, c1, c2, c3⟩ := FX.out w8 ⟨T8.out, Below.refl _ _⟩
        go_wp2_with fail
        clear c0 c1 c2 c3
        refine region_quiet (fun v => P2 w v ea (.slice (some ⟨b, off, none⟩) (m + 1) ca) A eb (.slice ab L.length cb) L ∧ Below w8.heap.size w8 v) (by kernel_rfl) (by kernel_rfl) P0 ?_
        repeat (first
          | go_big_quiet_skip
          | (go_big_quiet_want
             (first
              | (refine quiet_run (v := ?_) ?_ ?_; rotate_left; (intro u hu; obtain ⟨c0, c1, c2, c3⟩ := FX.out u hu; go_simp <;> with_reducible rfl); simp only [Act.put, List.setIfInBounds_toArray, List.set_cons_zero, List.set_cons_succ]; go_big_quiet_on)
              | (refine quiet_enter 16 _ ?_ (fun u hu => (HT.out u).mono fun e u' ⟨he, hb⟩ => ⟨he, ⟨hu.1.step hb, hu.2.trans (hb.mono hu.2.size)⟩⟩) ?_; (focus (intro u; first | (go_simp; done) | (go_simp; with_reducible rfl))); simp only [Act.put, List.setIfInBounds_toArray, List.set_cons_zero, List.set_cons_succ]; go_big_quiet_on)
              | (refine quiet_enter 10 _ ?_ (fun u hu => (HHA.out u hu.1).mono fun e u' ⟨he, hb⟩ => ⟨he, ⟨hu.1.step hb, hu.2.trans (hb.mono hu.2.size)⟩⟩) ?_; (focus (intro u; first | (go_simp; done) | (go_simp; with_reducible rfl))); simp only [Act.put, List.setIfInBounds_toArray, List.set_cons_zero, List.set_cons_succ]; go_big_quiet_on)
              | (refine quiet_enter 23 _ ?_ (fun u hu => (HHD.out u hu.1).mono fun e u' ⟨he, hb⟩ => ⟨he, ⟨hu.1.step hb, hu.2.trans (hb.mono hu.2.size)⟩⟩) ?_; (focus (intro u; first | (go_simp; done) | (go_simp; with_reducible rfl))); simp only [Act.put, List.setIfInBounds_toArray, List.set_cons_zero, List.set_cons_succ]; go_big_quiet_on)
              | (refine quiet_enter 13 _ ?_ (fun u hu => (HTL.out u hu.1).mono fun e u' ⟨he, hb⟩ => ⟨he, ⟨hu.1.step hb, hu.2.trans (hb.mono hu.2.size)⟩⟩) ?_; (focus (intro u; first | (go_simp; done) | (go_simp; with_reducible rfl))); simp only [Act.put, List.setIfInBounds_toArray, List.set_cons_zero, List.set_cons_succ]; go_big_quiet_on)
              | (refine quiet_enter 9 _ ?_ (fun u hu => (HAV.out u hu.1).mono fun e u' ⟨he, hb⟩ => ⟨he, ⟨hu.1.step hb, hu.2.trans (hb.mono hu.2.size)⟩⟩) ?_; (focus (intro u; first | (go_simp; done) | (go_simp; with_reducible rfl))); simp only [Act.put, List.setIfInBounds_toArray, List.set_cons_zero, List.set_cons_succ]; go_big_quiet_on)
              | (refine quiet_enter 24 _ ?_ (fun u hu => (HBW.out u hu.1).mono fun e u' ⟨he, hb⟩ => ⟨he, ⟨hu.1.step hb, hu.2.trans (hb.mono hu.2.size)⟩⟩) ?_; (focus (intro u; first | (go_simp; done) | (go_simp; with_reducible rfl))); simp only [Act.put, List.setIfInBounds_toArray, List.set_cons_zero, List.set_cons_succ]; go_big_quiet_on)
              | (refine quiet_enter 23 _ ?_ (fun u hu => (HHN.out u).mono fun e u' ⟨he, hb⟩ => ⟨he, ⟨hu.1.step hb, hu.2.trans (hb.mono hu.2.size)⟩⟩) ?_; (focus (intro u; first | (go_simp; done) | (go_simp; with_reducible rfl))); simp only [Act.put, List.setIfInBounds_toArray, List.set_cons_zero, List.set_cons_succ]; go_big_quiet_on)
              | (refine quiet_enter 13 _ ?_ (fun u hu => (HTN.out u).mono fun e u' ⟨he, hb⟩ => ⟨he, ⟨hu.1.step hb, hu.2.trans (hb.mono hu.2.size)⟩⟩) ?_; (focus (intro u; first | (go_simp; done) | (go_simp; with_reducible rfl))); simp only [Act.put, List.setIfInBounds_toArray, List.set_cons_zero, List.set_cons_succ]; go_big_quiet_on))))
        refine wpQuiet_nil ?_
        intro w9 h9
        go_wp2
        go_returns
        exact ⟨ret_bool (by simp), h9.1.bel⟩
      · obtain ⟨q, hq⟩ : ∃ q, q = j + 2 := ⟨_, rfl⟩
        have hBL : BL = A.getD q 0 := by rw [hbl, show I + 1 = (q : Int) by omega]; exact chAt_in (by omega)
        have e2 : w8.cell? ⟨b, off + q, none⟩ = some (.int .i64 BL) := by rw [hBL]; exact HC8.out _ (Below.refl _ _) q (by omega)
        have kk : wrap64 (I + 1) = (q : Int) := by rw [show I + 1 = (q : Int) by omega]; exact IntWalk.wrap64_in _ (by omega)
        have g3 : I < (m : Int) := by omega
        have g4 : (q : Int) < (m : Int) + 1 := by omega
        have g7 : I + 1 < (m : Int) + 1 := by omega
        have f1 : w8.cell? ⟨b, off + (I.toNat - 1), none⟩ = some (.int .i64 AB) := by rw [show I.toNat - 1 = j by omega]; exact e1
        have f2 : w8.cell? ⟨b, off + (I.toNat + 1), none⟩ = some (.int .i64 BL) := by rw [show I.toNat + 1 = q by omega]; exact e2
        have f3 : w8.cell? ⟨b, off + (I + 1).toNat, none⟩ = some (.int .i64 BL) := by rw [show (I + 1).toNat = q by omega]; exact e2
        clear hbl hml h1 hAB hab hI h0 hBL hq
        obtain ⟨c0, c1, c2, c3⟩ := FX.out w8 ⟨T8.out, Below.refl _ _⟩
        go_wp2_with fail
        clear c0 c1 c2 c3
        refine region_quiet (fun v => P2 w v ea (.slice (some ⟨b, off, none⟩) (m + 1) ca) A eb (.slice ab L.length cb) L ∧ Below w8.heap.size w8 v) (by kernel_rfl) (by kernel_rfl) P0 ?_
        repeat (first
          | go_big_quiet_skip
          | (go_big_quiet_want
             (first
              | (refine quiet_run (v := ?_) ?_ ?_; rotate_left; (intro u hu; obtain ⟨c0, c1, c2, c3⟩ := FX.out u hu; go_simp <;> with_reducible rfl); simp only [Act.put, List.setIfInBounds_toArray, List.set_cons_zero, List.set_cons_succ]; go_big_quiet_on)
              | (refine quiet_enter 16 _ ?_ (fun u hu => (HT.out u).mono fun e u' ⟨he, hb⟩ => ⟨he, ⟨hu.1.step hb, hu.2.trans (hb.mono hu.2.size)⟩⟩) ?_; (focus (intro u; first | (go_simp; done) | (go_simp; with_reducible rfl))); simp only [Act.put, List.setIfInBounds_toArray, List.set_cons_zero, List.set_cons_succ]; go_big_quiet_on)
              | (refine quiet_enter 10 _ ?_ (fun u hu => (HHA.out u hu.1).mono fun e u' ⟨he, hb⟩ => ⟨he, ⟨hu.1.step hb, hu.2.trans (hb.mono hu.2.size)⟩⟩) ?_; (focus (intro u; first | (go_simp; done) | (go_simp; with_reducible rfl))); simp only [Act.put, List.setIfInBounds_toArray, List.set_cons_zero, List.set_cons_succ]; go_big_quiet_on)
              | (refine quiet_enter 23 _ ?_ (fun u hu => (HHD.out u hu.1).mono fun e u' ⟨he, hb⟩ => ⟨he, ⟨hu.1.step hb, hu.2.trans (hb.mono hu.2.size)⟩⟩) ?_; (focus (intro u; first | (go_simp; done) | (go_simp; with_reducible rfl))); simp only [Act.put, List.setIfInBounds_toArray, List.set_cons_zero, List.set_cons_succ]; go_big_quiet_on)
              | (refine quiet_enter 13 _ ?_ (fun u hu => (HTL.out u hu.1).mono fun e u' ⟨he, hb⟩ => ⟨he, ⟨hu.1.step hb, hu.2.trans (hb.mono hu.2.size)⟩⟩) ?_; (focus (intro u; first | (go_simp; done) | (go_simp; with_reducible rfl))); simp only [Act.put, List.setIfInBounds_toArray, List.set_cons_zero, List.set_cons_succ]; go_big_quiet_on)
              | (refine quiet_enter 9 _ ?_ (fun u hu => (HAV.out u hu.1).mono fun e u' ⟨he, hb⟩ => ⟨he, ⟨hu.1.step hb, hu.2.trans (hb.mono hu.2.size)⟩⟩) ?_; (focus (intro u; first | (go_simp; done) | (go_simp; with_reducible rfl))); simp only [Act.put, List.setIfInBounds_toArray, List.set_cons_zero, List.set_cons_succ]; go_big_quiet_on)
              | (refine quiet_enter 24 _ ?_ (fun u hu => (HBW.out u hu.1).mono fun e u' ⟨he, hb⟩ => ⟨he, ⟨hu.1.step hb, hu.2.trans (hb.mono hu.2.size)⟩⟩) ?_; (focus (intro u; first | (go_simp; done) | (go_simp; with_reducible rfl))); simp only [Act.put, List.setIfInBounds_toArray, List.set_cons_zero, List.set_cons_succ]; go_big_quiet_on)
              | (refine quiet_enter 23 _ ?_ (fun u hu => (HHN.out u).mono fun e u' ⟨he, hb⟩ => ⟨he, ⟨hu.1.step hb, hu.2.trans (hb.mono hu.2.size)⟩⟩) ?_; (focus (intro u; first | (go_simp; done) | (go_simp; with_reducible rfl))); simp only [Act.put, List.setIfInBounds_toArray, List.set_cons_zero, List.set_cons_succ]; go_big_quiet_on)
              | (refine quiet_enter 13 _ ?_ (fun u hu => (HTN.out u).mono fun e u' ⟨he, hb⟩ => ⟨he, ⟨hu.1.step hb, hu.2.trans (hb.mono hu.2.size)⟩⟩) ?_; (focus (intro u; first | (go_simp; done) | (go_simp; with_reducible rfl))); simp only [Act.put, List.setIfInBounds_toArray, List.set_cons_zero, List.set_cons_succ]; go_big_quiet_on))))
        refine wpQuiet_nil ?_
        intro w9 h9
        go_wp2
        go_returns
        exact ⟨ret_bool (by simp), h9.1.bel⟩
  · obtain rfl : P = -1 := by rw [← HP.out]; unfold plcV; rw [if_neg hin]
    obtain rfl : IN = false := by rw [← HIN.out]; exact decide_eq_false hin
    obtain rfl : AB = -1 := by rw [← HAB.out]; unfold abvV; rw [if_neg hin]
    obtain rfl : BL = -1 := by rw [← HBL.out]; unfold blwV; rw [if_neg hin]
    clear hin
    obtain ⟨c0, c1, c2, c3⟩ := FX.out w8 ⟨T8.out, Below.refl _ _⟩
    go_wp2_with fail
    clear c0 c1 c2 c3
    refine region_quiet (fun v => P2 w v ea (.slice (some ⟨b, off, none⟩) (m + 1) ca) A eb (.slice ab L.length cb) L ∧ Below w8.heap.size w8 v) (by kernel_rfl) (by kernel_rfl) P0 ?_
    repeat (first
      | go_big_quiet_skip
      | (go_big_quiet_want
         (first
          | (refine quiet_run (v := ?_) ?_ ?_; rotate_left; (intro u hu; obtain ⟨c0, c1, c2, c3⟩ := FX.out u hu; go_simp <;> with_reducible rfl); simp only [Act.put, List.setIfInBounds_toArray, List.set_cons_zero, List.set_cons_succ]; go_big_quiet_on)
          | (refine quiet_enter 16 _ ?_ (fun u hu => (HT.out u).mono fun e u' ⟨he, hb⟩ => ⟨he, ⟨hu.1.step hb, hu.2.trans (hb.mono hu.2.size)⟩⟩) ?_; (focus (intro u; first | (go_simp; done) | (go_simp; with_reducible rfl))); simp only [Act.put, List.setIfInBounds_toArray, List.set_cons_zero, List.set_cons_succ]; go_big_quiet_on)
          | (refine quiet_enter 10 _ ?_ (fun u hu => (HHA.out u hu.1).mono fun e u' ⟨he, hb⟩ => ⟨he, ⟨hu.1.step hb, hu.2.trans (hb.mono hu.2.size)⟩⟩) ?_; (focus (intro u; first | (go_simp; done) | (go_simp; with_reducible rfl))); simp only [Act.put, List.setIfInBounds_toArray, List.set_cons_zero, List.set_cons_succ]; go_big_quiet_on)
          | (refine quiet_enter 23 _ ?_ (fun u hu => (HHD.out u hu.1).mono fun e u' ⟨he, hb⟩ => ⟨he, ⟨hu.1.step hb, hu.2.trans (hb.mono hu.2.size)⟩⟩) ?_; (focus (intro u; first | (go_simp; done) | (go_simp; with_reducible rfl))); simp only [Act.put, List.setIfInBounds_toArray, List.set_cons_zero, List.set_cons_succ]; go_big_quiet_on)
          | (refine quiet_enter 13 _ ?_ (fun u hu => (HTL.out u hu.1).mono fun e u' ⟨he, hb⟩ => ⟨he, ⟨hu.1.step hb, hu.2.trans (hb.mono hu.2.size)⟩⟩) ?_; (focus (intro u; first | (go_simp; done) | (go_simp; with_reducible rfl))); simp only [Act.put, List.setIfInBounds_toArray, List.set_cons_zero, List.set_cons_succ]; go_big_quiet_on)
          | (refine quiet_enter 9 _ ?_ (fun u hu => (HAV.out u hu.1).mono fun e u' ⟨he, hb⟩ => ⟨he, ⟨hu.1.step hb, hu.2.trans (hb.mono hu.2.size)⟩⟩) ?_; (focus (intro u; first | (go_simp; done) | (go_simp; with_reducible rfl))); simp only [Act.put, List.setIfInBounds_toArray, List.set_cons_zero, List.set_cons_succ]; go_big_quiet_on)
          | (refine quiet_enter 24 _ ?_ (fun u hu => (HBW.out u hu.1).mono fun e u' ⟨he, hb⟩ => ⟨he, ⟨hu.1.step hb, hu.2.trans (hb.mono hu.2.size)⟩⟩) ?_; (focus (intro u; first | (go_simp; done) | (go_simp; with_reducible rfl))); simp only [Act.put, List.setIfInBounds_toArray, List.set_cons_zero, List.set_cons_succ]; go_big_quiet_on)
          | (refine quiet_enter 23 _ ?_ (fun u hu => (HHN.out u).mono fun e u' ⟨he, hb⟩ => ⟨he, ⟨hu.1.step hb, hu.2.trans (hb.mono hu.2.size)⟩⟩) ?_; (focus (intro u; first | (go_simp; done) | (go_simp; with_reducible rfl))); simp only [Act.put, List.setIfInBounds_toArray, List.set_cons_zero, List.set_cons_succ]; go_big_quiet_on)
          | (refine quiet_enter 13 _ ?_ (fun u hu => (HTN.out u).mono fun e u' ⟨he, hb⟩ => ⟨he, ⟨hu.1.step hb, hu.2.trans (hb.mono hu.2.size)⟩⟩) ?_; (focus (intro u; first | (go_simp; done) | (go_simp; with_reducible rfl))); simp only [Act.put, List.setIfInBounds_toArray, List.set_cons_zero, List.set_cons_succ]; go_big_quiet_on))))
    refine wpQuiet_nil ?_
    intro w9 h9
    go_wp2
    go_returns
    exact ⟨ret_bool (by simp), h9.1.bel⟩

theorem walk (ea : Int) (va : Value) (A : List Int) (eb : Int) (vb : Value) (L : List Int) (n node : Int) (w : World) (hA : Ints w w.heap.size va A) (hL : Ints w w.heap.size vb L) (_ : (Lit.int .i64 n).wf = true) (_ : (Lit.int .i64 node).wf = true) :
    Calls Try.prog 4 #[.agg #[.int .i64 ea, va], .agg #[.int .i64 eb, vb], .int .i64 n, .int .i64 node] w fun e w' => e = .returned (.bool true) ∧ Below w.heap.size w w' := by
  obtain ⟨aa, ca, rfl⟩ : ∃ a c, va = .slice a A.length c := by obtain ⟨a, c, h, _⟩ := hA; exact ⟨a, c, h⟩
  obtain ⟨ab, cb, rfl⟩ : ∃ a c, vb = .slice a L.length c := by obtain ⟨a, c, h, _⟩ := hL; exact ⟨a, c, h⟩
  by_cases h : A.length ≤ 10 ∧ L.length ≤ 10
  · exact main ea aa ca A eb ab cb L n node w hA hL h.1 h.2
  · exact many ea aa ca A eb ab cb L n node w hA hL h

set_option maxRecDepth 100000 in
theorem lifted (os : Os) (started : os.Started) (H : Type) (enc : TypeId × Value → H) :
    ReturnsInHanded {} Try.checked os 4 .any (Rows.chainAsksSpec.pre6 enc Try.prog Try.f4 Rows.chainAsksRow.domain false) (Rows.chainAsksSpec.post enc Try.prog Try.f4 false true false false) := by
  refine returnsInHanded_of_change (C := Try.checked) own started (by kernel_rfl) Try.func4
    (ChangeSpec.witness6 (enc := enc) (C := Try.checked) false ⟨#[], #[.agg #[.int .i64 0, .slice none 0 0], .agg #[.int .i64 0, .slice none 0 0], .int .i64 0, .int .i64 0], []⟩ 8 (by kernel_rfl) (by kernel_rfl) (by kernel_rfl) (by kernel_rfl)) ?_
  intro W base args ds gs before hval0 hW hcnd _
  have hval : ∀ (j : Nat) t v, Try.f4.params[j]? = some t → args[j]? = some v → Value.okWide Try.prog W .any base t v := hval0
  have hW' := hW
  obtain ⟨p, q, hA0, hV, rfl, hfz, hnd⟩ := hW
  have hA : DataW.TrodAll enc Try.prog W 0 (fun _ => true) true Try.f4.params.toList args.toList ds p := hA0
  rw [Try.params4] at hA hval
  obtain ⟨v0, vs0, d0, ds0, p0, q0, hargs, rfl, rfl, h0, r0⟩ := trodAll_cons hA
  obtain ⟨v1, vs1, d1, ds1, p1, q1, rfl, rfl, rfl, h1, r1⟩ := trodAll_cons r0
  obtain ⟨v2, vs2, d2, ds2, p2, q2, rfl, rfl, rfl, h2, r2⟩ := trodAll_cons r1
  obtain ⟨v3, vs3, d3, ds3, p3, q3, rfl, rfl, rfl, h3, r3⟩ := trodAll_cons r2
  obtain ⟨rfl, rfl, rfl⟩ := trodAll_nil r3
  obtain rfl : args = #[v0, v1, v2, v3] := by cases args; simp_all
  obtain ⟨rfl, rfl⟩ := trodVars_none hV
  have k0 := h0
  have lt0 : ∀ x ∈ p0, x.block < W.heap.size := by obtain ⟨m, hm⟩ := k0; exact DataW.trod_lt m _ _ _ hm
  obtain ⟨xa0, xb0, xc0, xd0, l0, rfl, w0⟩ := chain_open (hval 0 25 v0 rfl rfl) h0
  have k1 := h1
  have lt1 : ∀ x ∈ p1, x.block < W.heap.size := by obtain ⟨m, hm⟩ := k1; exact DataW.trod_lt m _ _ _ hm
  obtain ⟨xa1, xb1, xc1, xd1, l1, rfl, w1⟩ := chain_open (hval 1 25 v1 rfl rfl) h1
  obtain ⟨a2, rfl, rfl, rfl, w2⟩ := open_int Try.underlying3 (hval 2 3 v2 rfl rfl) h2
  obtain ⟨a3, rfl, rfl, rfl, w3⟩ := open_int Try.underlying3 (hval 3 3 v3 rfl rfl) h3
  clear hA0 hval0
  refine (walk xa0 (.slice xb0 xc0 xd0) l0 xa1 (.slice xb1 xc1 xd1) l1 a2 a3 W w0 w1 w2 w3).mono fun e W' ⟨he, bel⟩ => ?_
  subst he
  exact ⟨_, rfl, _, _, _, [], _, [], hW', trodAll_mk1 (shut_bool Try.underlying4 _), (trodAll_cons_mk (Below.trod laidOut (by kernel_rfl) (of_decide_eq_true (by kernel_rfl)) k0 bel lt0) (trodAll_cons_mk (Below.trod laidOut (by kernel_rfl) (of_decide_eq_true (by kernel_rfl)) k1 bel lt1) (trodAll_cons_mk (shut_int Try.underlying3 w2) (trodAll_cons_mk (shut_int Try.underlying3 w3) trodAll_mk0)))), rfl, bel.frame _, fun h => by cases h⟩

theorem over : Rows.chainAsksRow.holds Try.pinned (OpenSpec.ofChange Rows.chainAsksSpec) :=
  OpenClaim.holds_of_wide 4 Try.f4 rfl rfl rfl rfl rfl rfl rfl ⟨rfl, rfl, rfl, rfl, rfl⟩ rfl rfl rfl rfl rfl (by kernel_rfl) Try.func4 (by kernel_rfl)
    (of_decide_eq_true (by kernel_rfl)) (by unfold Func.isWrapper; first | (rw [if_pos (by decide +kernel)]; kernel_rfl) | (rw [if_neg (by decide +kernel)]; exact ⟨rfl, rfl⟩))
    (fun os started H enc _ => lifted os started H enc)
end Go.Proofs.Ytnliadnpoledmaa.ChainAsks

namespace Go.Proofs.Ytnliadnpoledmaa
theorem chainAsks_holds : Rows.ChainAsksSaid := ChainAsks.over
#print axioms chainAsks_holds
end Go.Proofs.Ytnliadnpoledmaa
