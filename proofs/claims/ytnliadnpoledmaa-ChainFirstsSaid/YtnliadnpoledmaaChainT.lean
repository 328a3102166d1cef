/-
  THE LAW's few AND told(): true, whatever the memory. No condition.
-/
import Derived.Test.YtnliadnpoledmaaChainG
import Derived.Test.YtnliadnpoledmaaChainH
import Derived.Test.YtnliadnpoledmaaChainD
namespace Go.Proofs.Ytnliadnpoledmaa
open Go.RowKit

set_option maxHeartbeats 400000 in
theorem few12_r (ep : Int) (v : Value) (L : List Int) (B : Nat) (w : World) (hI : Ints w B v L) {R : Bool} (hR : decide (L.length ≤ 10) = R) : Calls Try.prog 17 #[.agg #[.int .i64 ep, v]] w fun e w' => e = .returned (.bool R) ∧ Below w.heap.size w w' := by
  obtain ⟨a0, c0, rfl⟩ : ∃ a c, v = .slice a L.length c := by obtain ⟨a, c, h, _⟩ := hI; exact ⟨a, c, h⟩
  obtain ⟨n, hn⟩ : ∃ n, n = L.length := ⟨_, rfl⟩
  rw [← hn] at hR ⊢
  have HF : Hid (decide ((n : Int) ≤ 10) = R) := by show _ = _; rw [← hR, decide_eq_decide]; omega
  clear hI hn hR
  go_enter Try.func17, Try.ntmps17
  go_wp2
  go_returns
  exact ⟨ret_bool HF.out, by go_grown⟩

theorem may012 : ChainV.may ⟨1, [0, 1, 2]⟩ := by decide
theorem left012 : leftL [0, 1, 2] [1] = [0, 2] := by decide
theorem may02 : ChainV.may ⟨1 + 1, leftL [0, 1, 2] [1]⟩ := by decide
theorem may023 : ChainV.may ⟨2 + 1, [0, 2] ++ [3]⟩ := by decide
theorem wf_small {x : Int} (h0 : 0 ≤ x) (h1 : x ≤ 4) : Wf x := ⟨by omega, by omega⟩

/-- What told() holds at its last line: four chains in blocks, three rows. -/
structure T12 (w0 w : World) (bc bd bx by' : Nat) (vc vd vx vy : Value) : Prop where
  C : ChB w bc 1 vc
  D : ChB w bd 2 vd
  X : ChB w bx 2 vx
  Y : ChB w by' 3 vy
  ic : Ints w w.heap.size vc [0, 1, 2]
  id : Ints w w.heap.size vd [0, 2, 3]
  iy : Ints w w.heap.size vy [0, 2, 3]
  grew : Below w0.heap.size w0 w
theorem T12.on {w0 w w' : World} {bc bd bx by' : Nat} {vc vd vx vy : Value} (t : T12 w0 w bc bd bx by' vc vd vx vy) (hb : Below w.heap.size w w') : T12 w0 w' bc bd bx by' vc vd vx vy :=
  ⟨t.C.keep hb t.C.lt, t.D.keep hb t.D.lt, t.X.keep hb t.X.lt, t.Y.keep hb t.Y.lt, (t.ic.keep hb).mono hb.size, (t.id.keep hb).mono hb.size, (t.iy.keep hb).mono hb.size, t.grew.trans (hb.mono t.grew.size)⟩

set_option maxHeartbeats 4000000 in
set_option maxRecDepth 100000 in
theorem told12_any (w : World) : Calls Try.prog 16 #[] w fun e w' => e = .returned (.bool true) ∧ Below w.heap.size w w' := by
  have HF : Hid (∀ u, Calls Try.prog 8 #[.int .i64 3] u fun e w' => ∃ a c, e = .returned (.tuple #[.agg #[.int .i64 1, .slice a 3 c], .int .i64 0]) ∧ Hid (Ints w' w'.heap.size (.slice a 3 c) [0, 1, 2]) ∧ Hid (Below u.heap.size u w')) := fun u =>
    (chfirst_in 3 (by decide) (by decide) u).mono fun e w' ⟨a, c, h1, h2, h3⟩ => ⟨a, c, h1, ints_own (L := [0, 1, 2]) h2 (Nat.le_refl _), h3⟩
  have HWO : Hid (∀ u v, Ints u u.heap.size v [0, 1, 2] → Calls Try.prog 12 #[.agg #[.int .i64 1, v], .slice (some ⟨u.heap.size, 0, none⟩) 1 1] (u.alloc (.cells #[.int .i64 1] 3)) fun e w' => ∃ a c, e = .returned (.tuple #[.agg #[.int .i64 2, .slice a 2 c], .int .i64 0]) ∧ Hid (Ints w' w'.heap.size (.slice a 2 c) [0, 2]) ∧ Hid (Below u.heap.size u w')) := fun u v hv => by
    have hb : Below u.heap.size u (u.alloc (.cells #[.int .i64 1] 3)) := (Below.refl _ u).alloc (Nat.le_refl _) _
    have hs : (u.alloc (.cells #[.int .i64 1] 3)).heap.size = u.heap.size + 1 := by simp
    refine (chwithout_r (er := 0) (ep' := 2) 1 v [0, 1, 2] (.slice (some ⟨u.heap.size, 0, none⟩) 1 1) [1] (u.alloc (.cells #[.int .i64 1] 3)).heap.size (u.alloc (.cells #[.int .i64 1] 3)) ((hv.keep hb).mono (by omega)) (by rw [hs]; exact ints_lit u [1] (by decide)) (Nat.le_refl _) (by decide) (by decide) ?_ ?_ (IntWalk.wrap64_in _ (by omega)) (.inl ⟨may02, rfl, rfl⟩)).mono fun e w' ⟨a, n, c, h1, h2, h3, h4⟩ => ?_
    · intro x hx; simp at hx; rcases hx with rfl | rfl | rfl <;> exact wf_small (by decide) (by decide)
    · intro x hx; simp at hx; subst hx; exact wf_small (by decide) (by decide)
    · obtain ⟨h5, h6⟩ := h2 rfl
      rw [left012] at h5 h6
      obtain rfl : n = 2 := h5
      exact ⟨a, c, h1, ints_own (L := [0, 2]) h6 (Nat.le_refl _), hb.trans (h4.mono (by omega))⟩
  have HWI : Hid (∀ u v, Ints u u.heap.size v [0, 2] → Calls Try.prog 11 #[.agg #[.int .i64 2, v], .int .i64 3] u fun e w' => ∃ a c, e = .returned (.tuple #[.agg #[.int .i64 3, .slice a 3 c], .int .i64 0]) ∧ Hid (Ints w' w'.heap.size (.slice a 3 c) [0, 2, 3]) ∧ Hid (Below u.heap.size u w')) := fun u v hv =>
    (chwith_in (er := 0) (ep' := 3) 2 v [0, 2] 3 u.heap.size u hv (Nat.le_refl _) (by decide) (IntWalk.wrap64_in _ (by omega)) (.inl ⟨may023, rfl, rfl⟩)).mono fun e w' ⟨a, n, c, h1, h2, h3, h4⟩ => by
      obtain ⟨h5, h6⟩ := h2 rfl
      obtain rfl : n = 3 := h5
      exact ⟨a, c, h1, ints_own (L := [0, 2, 3]) h6 (Nat.le_refl _), h4⟩
  have HN1 : Hid (∀ u B va vb, Ints u B va [0, 1, 2] → Ints u B vb [0, 2, 3] → B ≤ u.heap.size → Calls Try.prog 14 #[.agg #[.int .i64 1, va], .agg #[.int .i64 2, vb], .int .i64 5] u fun e w' => e = .returned (.bool true) ∧ Below u.heap.size u w') := fun u B va vb ha hb hB => chnext_r 1 va _ 2 vb _ 5 B u ha hb hB (by decide)
  have HN2 : Hid (∀ u B va vb, Ints u B va [0, 1, 2] → Ints u B vb [0, 2, 3] → B ≤ u.heap.size → Calls Try.prog 14 #[.agg #[.int .i64 1, va], .agg #[.int .i64 2, vb], .int .i64 3] u fun e w' => e = .returned (.bool false) ∧ Below u.heap.size u w') := fun u B va vb ha hb hB => chnext_r 1 va _ 2 vb _ 3 B u ha hb hB (by decide)
  have HT : Hid (∀ u B va, Ints u B va [0, 2, 3] → B ≤ u.heap.size → Calls Try.prog 13 #[.agg #[.int .i64 3, va]] u fun e w' => e = .returned (.int .i64 3) ∧ Below u.heap.size u w') := fun u B va ha hB => chtail_r 3 va _ (by decide) B u ha hB (by decide)
  have HH : Hid (∀ u B va, Ints u B va [0, 1, 2] → B ≤ u.heap.size → Calls Try.prog 23 #[.agg #[.int .i64 1, va]] u fun e w' => e = .returned (.int .i64 0) ∧ Below u.heap.size u w') := fun u B va ha hB => chhead_r 1 va _ B u ha hB (by decide)
  have HAb : Hid (∀ u B va, Ints u B va [0, 1, 2] → B ≤ u.heap.size → Calls Try.prog 9 #[.agg #[.int .i64 1, va], .int .i64 1] u fun e w' => e = .returned (.int .i64 0) ∧ Below u.heap.size u w') := fun u B va ha hB => chabove_r 1 va _ (by decide) 1 B u ha hB (by decide)
  have HBe : Hid (∀ u B va, Ints u B va [0, 1, 2] → B ≤ u.heap.size → Calls Try.prog 24 #[.agg #[.int .i64 1, va], .int .i64 2] u fun e w' => e = .returned (.int .i64 (-1)) ∧ Below u.heap.size u w') := fun u B va ha hB => chbelow_r 1 va _ (by decide) 2 B u ha hB (by decide)
  have HHs : Hid (∀ u B va, Ints u B va [0, 1, 2] → B ≤ u.heap.size → Calls Try.prog 10 #[.agg #[.int .i64 1, va], .int .i64 2] u fun e w' => e = .returned (.bool true) ∧ Below u.heap.size u w') := fun u B va ha hB => chhas_r 1 va _ (by decide) 2 B u ha hB (by decide)
  have HSm : Hid (∀ u B va vb, Ints u B va [0, 1, 2] → Ints u B vb [0, 2, 3] → B ≤ u.heap.size → Calls Try.prog 21 #[.agg #[.int .i64 1, va], .agg #[.int .i64 2, vb]] u fun e w' => e = .returned (.bool false) ∧ Below u.heap.size u w') := fun u B va vb ha hb hB => chsame_r 1 2 va vb _ _ B u ha hb hB (by decide)
  go_enter Try.func16, Try.ntmps16
  go_wp2_with fail
  refine (HF.out _).mono ?_
  rintro e w1 ⟨a1, c1, rfl, I1, B1⟩
  go_wp2_with fail
  obtain ⟨U, hU⟩ : ∃ U, U = ((w1.alloc (.cells #[.int .i64 1, .slice a1 3 c1] 25)).alloc (.cells #[.int .i64 0, .int .i64 2, .int .i64 3] 3)).alloc (.cells #[.int .i64 2, .slice (some ⟨w1.heap.size + 1, 0, none⟩) 3 3] 25) := ⟨_, rfl⟩
  have hsU : U.heap.size = w1.heap.size + 3 := by rw [hU]; simp
  have hbU : Below w1.heap.size w1 U := by rw [hU]; exact (((Below.refl _ w1).alloc (Nat.le_refl _) _).alloc (by simp) _).alloc (by simp; omega) _
  have cU : ChB U w1.heap.size 1 (.slice a1 3 c1) := by rw [hU]; exact (ChB.fresh w1 _ _ _).keep (((Below.refl _ _).alloc (Nat.le_refl _) _).alloc (by simp) _) (by simp)
  have dU : ChB U (w1.heap.size + 2) 2 (.slice (some ⟨w1.heap.size + 1, 0, none⟩) 3 3) := by
    rw [hU]
    have := ChB.fresh ((w1.alloc (.cells #[.int .i64 1, .slice a1 3 c1] 25)).alloc (.cells #[.int .i64 0, .int .i64 2, .int .i64 3] 3)) 2 (.slice (some ⟨w1.heap.size + 1, 0, none⟩) 3 3) 25
    rwa [World.size_alloc, World.size_alloc] at this
  have iU : Ints U U.heap.size (.slice a1 3 c1) [0, 1, 2] := (I1.out.keep hbU).mono (by omega)
  have jU : Ints U U.heap.size (.slice (some ⟨w1.heap.size + 1, 0, none⟩) 3 3) [0, 2, 3] := by
    have h := ints_lit (w1.alloc (.cells #[.int .i64 1, .slice a1 3 c1] 25)) [0, 2, 3] (by decide)
    rw [World.size_alloc] at h
    rw [hU]
    exact (h.keep ((Below.refl _ _).alloc (by simp [intCells]) _)).mono (by simp)
  have hx : w1.heap.size + 1 + 1 + 1 = U.heap.size := by omega
  rw [hx, ← hU]
  have CU := Lib.hid cU
  have DU := Lib.hid dU
  have IU := Lib.hid iU
  have JU := Lib.hid jU
  have BU : Hid (Below w.heap.size w U) := B1.out.trans (hbU.mono B1.out.size)
  have HsU := Lib.hid hsU
  clear cU dU iU jU hbU hx hU hsU I1 B1
  refine (HWO.out U _ IU.out).mono ?_
  rintro e w2 ⟨a2, c2, rfl, I2, B2⟩
  have hs2 := B2.out.size
  go_wp2_with fail
  have VB : Below w2.heap.size w2 (w2.alloc (.cells #[.int .i64 2, .slice a2 2 c2] 25)) := (Below.refl _ w2).alloc (Nat.le_refl _) _
  have VS : (w2.alloc (.cells #[.int .i64 2, .slice a2 2 c2] 25)).heap.size = w2.heap.size + 1 := by simp
  have VI := (I2.out.keep VB).mono (show w2.heap.size ≤ (w2.alloc (.cells #[.int .i64 2, .slice a2 2 c2] 25)).heap.size by omega)
  have VX : Hid (ChB (w2.alloc (.cells #[.int .i64 2, .slice a2 2 c2] 25)) w2.heap.size 2 (.slice a2 2 c2)) := ChB.fresh w2 _ _ _
  have HVB := Lib.hid VB
  have HVS := Lib.hid VS
  refine (HWI.out _ _ VI).mono ?_
  rintro e w3 ⟨a3, c3, rfl, I3, B3⟩
  have hs3 := B3.out.size
  rw [VS] at hs3
  have hsU := HsU.out
  have B23 : Below w2.heap.size w2 w3 := VB.trans (B3.out.mono (by omega))
  have BU3 : Below U.heap.size U w3 := B2.out.trans (B23.mono hs2)
  have DX3 := Lib.hid (VX.out.keep B3.out (by omega))
  have IC3 := Lib.hid (IU.out.keep BU3)
  have JC3 := Lib.hid (JU.out.keep BU3)
  have CC3 := Lib.hid (CU.out.keep BU3 CU.out.lt)
  have CD3 := Lib.hid (DU.out.keep BU3 DU.out.lt)
  have BW3 := Lib.hid (BU.out.trans (BU3.mono BU.out.size))
  have HBU3 := Lib.hid BU3
  clear VB VS VI VX HVB HVS B23 BU3 I2 B2 B3 CU DU IU JU
  have T0 : Hid (T12 w (w3.alloc (.cells #[.int .i64 3, .slice a3 3 c3] 25)) w1.heap.size (w1.heap.size + 1 + 1) w2.heap.size w3.heap.size (.slice a1 3 c1) (.slice (some ⟨w1.heap.size + 1, 0, none⟩) 3 3) (.slice a2 2 c2) (.slice a3 3 c3)) := by
    have hb : Below w3.heap.size w3 (w3.alloc (.cells #[.int .i64 3, .slice a3 3 c3] 25)) := (Below.refl _ w3).alloc (Nat.le_refl _) _
    have hz : (w3.alloc (.cells #[.int .i64 3, .slice a3 3 c3] 25)).heap.size = w3.heap.size + 1 := by simp
    have h3 := HBU3.out.size
    exact ⟨CC3.out.keep hb CC3.out.lt, CD3.out.keep hb CD3.out.lt, DX3.out.keep hb DX3.out.lt, ChB.fresh w3 _ _ _, (IC3.out.keep (hb.mono (by omega))).mono (by omega), (JC3.out.keep (hb.mono (by omega))).mono (by omega), (I3.out.keep hb).mono (by omega), BW3.out.trans (hb.mono BW3.out.size)⟩
  clear DX3 IC3 JC3 CC3 CD3 BW3 HBU3 I3 HsU hsU hs2 hs3
  obtain ⟨c0, c1'⟩ := T0.out.C.cells
  obtain ⟨d0, d1'⟩ := T0.out.D.cells
  obtain ⟨x0, x1'⟩ := T0.out.X.cells
  obtain ⟨y0, y1'⟩ := T0.out.Y.cells
  go_wp2_with fail
  clear c0 c1' d0 d1' x0 x1' y0 y1'
  refine (HN1.out _ _ _ _ T0.out.ic T0.out.id (Nat.le_refl _)).mono ?_
  rintro e u1 ⟨rfl, B1⟩
  have T1 := Lib.hid (T0.out.on B1)
  clear T0 B1
  obtain ⟨c0, c1'⟩ := T1.out.C.cells
  obtain ⟨d0, d1'⟩ := T1.out.D.cells
  obtain ⟨x0, x1'⟩ := T1.out.X.cells
  obtain ⟨y0, y1'⟩ := T1.out.Y.cells
  go_wp2_with fail
  clear c0 c1' d0 d1' x0 x1' y0 y1'
  refine (HN2.out _ _ _ _ T1.out.ic T1.out.id (Nat.le_refl _)).mono ?_
  rintro e u2 ⟨rfl, B2⟩
  have T2 := Lib.hid (T1.out.on B2)
  clear T1 B2
  obtain ⟨c0, c1'⟩ := T2.out.C.cells
  obtain ⟨d0, d1'⟩ := T2.out.D.cells
  obtain ⟨x0, x1'⟩ := T2.out.X.cells
  obtain ⟨y0, y1'⟩ := T2.out.Y.cells
  go_wp2_with fail
  clear c0 c1' d0 d1' x0 x1' y0 y1'
  refine (HT.out _ _ _ T2.out.iy (Nat.le_refl _)).mono ?_
  rintro e u3 ⟨rfl, B3⟩
  have T3 := Lib.hid (T2.out.on B3)
  clear T2 B3
  obtain ⟨c0, c1'⟩ := T3.out.C.cells
  obtain ⟨d0, d1'⟩ := T3.out.D.cells
  obtain ⟨x0, x1'⟩ := T3.out.X.cells
  obtain ⟨y0, y1'⟩ := T3.out.Y.cells
  go_wp2_with fail
  clear c0 c1' d0 d1' x0 x1' y0 y1'
  refine (HH.out _ _ _ T3.out.ic (Nat.le_refl _)).mono ?_
  rintro e u4 ⟨rfl, B4⟩
  have T4 := Lib.hid (T3.out.on B4)
  clear T3 B4
  obtain ⟨c0, c1'⟩ := T4.out.C.cells
  obtain ⟨d0, d1'⟩ := T4.out.D.cells
  obtain ⟨x0, x1'⟩ := T4.out.X.cells
  obtain ⟨y0, y1'⟩ := T4.out.Y.cells
  go_wp2_with fail
  clear c0 c1' d0 d1' x0 x1' y0 y1'
  refine (HAb.out _ _ _ T4.out.ic (Nat.le_refl _)).mono ?_
  rintro e u5 ⟨rfl, B5⟩
  have T5 := Lib.hid (T4.out.on B5)
  clear T4 B5
  obtain ⟨c0, c1'⟩ := T5.out.C.cells
  obtain ⟨d0, d1'⟩ := T5.out.D.cells
  obtain ⟨x0, x1'⟩ := T5.out.X.cells
  obtain ⟨y0, y1'⟩ := T5.out.Y.cells
  go_wp2_with fail
  clear c0 c1' d0 d1' x0 x1' y0 y1'
  refine (HBe.out _ _ _ T5.out.ic (Nat.le_refl _)).mono ?_
  rintro e u6 ⟨rfl, B6⟩
  have T6 := Lib.hid (T5.out.on B6)
  clear T5 B6
  obtain ⟨c0, c1'⟩ := T6.out.C.cells
  obtain ⟨d0, d1'⟩ := T6.out.D.cells
  obtain ⟨x0, x1'⟩ := T6.out.X.cells
  obtain ⟨y0, y1'⟩ := T6.out.Y.cells
  go_wp2_with fail
  clear c0 c1' d0 d1' x0 x1' y0 y1'
  refine (HHs.out _ _ _ T6.out.ic (Nat.le_refl _)).mono ?_
  rintro e u7 ⟨rfl, B7⟩
  have T7 := Lib.hid (T6.out.on B7)
  clear T6 B7
  obtain ⟨c0, c1'⟩ := T7.out.C.cells
  obtain ⟨d0, d1'⟩ := T7.out.D.cells
  obtain ⟨x0, x1'⟩ := T7.out.X.cells
  obtain ⟨y0, y1'⟩ := T7.out.Y.cells
  go_wp2_with fail
  clear c0 c1' d0 d1' x0 x1' y0 y1'
  refine (HSm.out _ _ _ _ T7.out.ic T7.out.id (Nat.le_refl _)).mono ?_
  rintro e u8 ⟨rfl, B8⟩
  have T8 := Lib.hid (T7.out.on B8)
  clear T7 B8
  obtain ⟨c0, c1'⟩ := T8.out.C.cells
  obtain ⟨d0, d1'⟩ := T8.out.D.cells
  obtain ⟨x0, x1'⟩ := T8.out.X.cells
  obtain ⟨y0, y1'⟩ := T8.out.Y.cells
  go_wp2_with fail
  go_returns
  exact ⟨rfl, T8.out.grew⟩
end Go.Proofs.Ytnliadnpoledmaa
