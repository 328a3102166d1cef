/-
  PROVED: casebooklaw4.ChartGrows answers true and leaves its arguments as they were, for any versions, any request, any quota: the row's own reading and nothing else is assumed.
-/
import Derived.Test.YtichojlijhnlpaaChartArgs
import Derived.Test.YtichojlijhnlpaaChartM
import Derived.Test.YtichojlijhnlpaaChartE
namespace Go.Proofs.Ytichojlijhnlpaa.ChartGrows
open Go.ChangeShapes Go.WideShapes Go.ChangeAt Go.RowKit

theorem modn (p : Int) (m : Int) (hm : 0 < m) : ∃ k : Nat, (k : Int) < m ∧ (IntKind.u64.wrap p).tmod m = (k : Int) := by
  have hu : 0 ≤ IntKind.u64.wrap p := by simp [IntKind.wrap, IntKind.bits, IntKind.signed]; omega
  have h0 := Int.emod_nonneg (IntKind.u64.wrap p) (by omega : m ≠ 0)
  have h1 := Int.emod_lt_of_pos (IntKind.u64.wrap p) hm
  refine ⟨((IntKind.u64.wrap p).tmod m).toNat, ?_, ?_⟩
  · rw [Int.tmod_eq_emod_of_nonneg hu]; omega
  · rw [Int.tmod_eq_emod_of_nonneg hu]; omega

/-- The front of a slice of versions. -/
theorem vers_front {w : World} {B : Nat} {ao : Option Addr} {n k c : Nat} {L X : List VerV} (h : Vers w B (.slice ao n c) (L ++ X)) (hk : L.length = k) : Vers w B (.slice ao k c) L := by
  subst hk
  obtain ⟨ao', cap', he, h1, h2, h3, h4⟩ := h
  simp only [Value.slice.injEq] at he
  obtain ⟨rfl, rfl, rfl⟩ := he
  rw [List.length_append] at h1
  refine ⟨ao, c, rfl, by omega, h2, h3, fun hl => ?_⟩
  obtain ⟨b, off, e, hb, hc⟩ := h4 (by intro hx; exact hl (List.append_eq_nil_iff.1 hx).1)
  refine ⟨b, off, e, hb, fun j hj => ?_⟩
  have := hc j (by rw [List.length_append]; omega)
  rwa [at_append_left L X j hj] at this

set_option maxRecDepth 100000 in
set_option maxHeartbeats 1000000 in
theorem notfew (ao : Option Addr) (n cap : Nat) (cl sq kd id mt : Int) (dt : ByteArray) (quota : Int) (w : World)
    (HF : Hid (∀ u, Below w.heap.size w u → Calls Try.prog 10 #[.slice ao n cap, .agg #[.int .i64 cl, .int .i64 sq, .int .i64 kd, .int .i64 id, .int .i64 mt, .string dt]] u fun e w' => e = .returned (.bool false) ∧ Below u.heap.size u w')) :
    Calls Try.prog 4 #[.slice ao n cap, .agg #[.int .i64 cl, .int .i64 sq, .int .i64 kd, .int .i64 id, .int .i64 mt, .string dt], .int .i64 quota] w fun e w' => e = .returned (.bool true) ∧ Below w.heap.size w w' := by
  have HT := Lib.hid (fun u => told4_any u)
  go_enter Try.func4, Try.ntmps4
  go_wp2_with fail
  refine (HF.out _ (by go_grown)).mono ?_
  rintro e w1 ⟨rfl, B1⟩
  have C1 := Lib.hid (((Below.refl _ w).alloc (Nat.le_refl _) _).trans (B1.mono (by simp)))
  clear B1
  go_wp2_with fail
  refine (HT.out _).mono ?_
  rintro e w2 ⟨rfl, B2⟩
  have C2 := Lib.hid (C1.out.trans (B2.mono C1.out.size))
  clear B2
  go_wp2
  go_returns
  exact ⟨rfl, C2.out⟩

set_option maxRecDepth 100000 in
set_option maxHeartbeats 4000000 in
theorem asks (ao : Option Addr) (n cap : Nat) (L : List VerV) (cl sq kd id mt : Int) (dt : ByteArray) (quota : Int) (k : Nat) (c r : Int) (d : ByteArray) (l : List Int) (lm : Nat) (w : World) (hn : L.length = n) (h60 : n ≤ 60) (hk : k < 100) (hq : (IntKind.u64.wrap quota).tmod 100 = (k : Int)) (k1 : kd ≠ 1) (k2 : kd ≠ 2) (k3 : kd ≠ 3) 
    (HV : Hid (∀ u, Below w.heap.size w u → Vers u w.heap.size (.slice ao n cap) L))
    (HF : Hid (∀ u, Below w.heap.size w u → Calls Try.prog 10 #[.slice ao n cap, .agg #[.int .i64 cl, .int .i64 sq, .int .i64 kd, .int .i64 id, .int .i64 mt, .string dt]] u fun e w' => e = .returned (.bool true) ∧ Below u.heap.size u w'))
    (HD : Hid (∀ u, Below w.heap.size w u → Calls Try.prog 12 #[.slice ao n cap, .agg #[.int .i64 cl, .int .i64 sq, .int .i64 kd, .int .i64 id, .int .i64 mt, .string dt], .int .i64 (1 + (k : Int))] u (DoesN L n l lm c r d u)))
    (HVV : Hid (∀ v1 v2 u, Vers u u.heap.size v1 L → Vers u u.heap.size v2 L → Calls Try.prog 14 #[v1, v2] u fun e w' => e = .returned (.bool true) ∧ Below u.heap.size u w')) :
    Calls Try.prog 4 #[.slice ao n cap, .agg #[.int .i64 cl, .int .i64 sq, .int .i64 kd, .int .i64 id, .int .i64 mt, .string dt], .int .i64 quota] w fun e w' => e = .returned (.bool true) ∧ Below w.heap.size w w' := by
  have HT := Lib.hid (fun u => told4_any u)
  have HN := Lib.hid hn
  have kp : (0 : Int) ≤ (k : Int) := by omega
  have k100 : (k : Int) < 100 := by omega
  have b1 : (kd == 1) = false := beq_eq_false_iff_ne.2 k1
  have b2 : (kd == 2) = false := beq_eq_false_iff_ne.2 k2
  have b3 : (kd == 3) = false := beq_eq_false_iff_ne.2 k3
  clear k1 k2 k3
  clear hn hk
  go_enter Try.func4, Try.ntmps4
  go_wp2_with fail
  refine (HF.out _ (by go_grown)).mono ?_
  rintro e w1 ⟨rfl, B1⟩
  have C1 := Lib.hid (((Below.refl _ w).alloc (Nat.le_refl _) _).trans (B1.mono (by simp)))
  have D1 : Hid (ReqB w1 w.heap.size cl sq kd id mt dt) := (ReqB.fresh w _ _ _ _ _ _ 24).keep B1 (by simp)
  clear B1
  obtain ⟨q0, q1, q2, q3, q4, q5⟩ := D1.out.cells
  go_wp2_with fail
  refine (HD.out _ C1.out).mono ?_
  rintro e w2 ⟨a1, c1, o1, p1, rfl, V2, I2, B2⟩
  have B2a := (Below.refl _ w2).alloc (Nat.le_refl _) (.cells #[.int .i64 c, .int .i64 r, .string d, .slice o1 lm p1] 29)
  have C2 := Lib.hid ((C1.out.trans (B2.mono C1.out.size)).trans (B2a.mono (C1.out.trans (B2.mono C1.out.size)).size))
  have D2 := Lib.hid ((D1.out.keep B2 D1.out.lt).keep B2a (D1.out.keep B2 D1.out.lt).lt)
  have V3 := Lib.hid (V2.on B2a)
  have R2 := Lib.hid (RepAt.new w2 c r d (.slice o1 lm p1))
  have F3 : Hid (Vers (w2.alloc (.cells #[.int .i64 c, .int .i64 r, .string d, .slice o1 lm p1] 29)) (w2.alloc (.cells #[.int .i64 c, .int .i64 r, .string d, .slice o1 lm p1] 29)).heap.size (.slice a1 n c1) L) := V3.out
  have hcap : n ≤ c1 := V3.out.len.2.1
  have hcm : c1 ≤ 140737488355328 ∨ True := .inr trivial
  clear hcm
  cases a1
  case none =>
    obtain ⟨ao', cap', he, z1, _, z3, _⟩ := V3.out
    simp only [Value.slice.injEq] at he
    obtain ⟨rfl, hln, rfl⟩ := he
    obtain rfl : c1 = 0 := z3 rfl
    obtain rfl : n = 0 := by omega
    clear z1 z3 hln hcap
    clear B2 B2a V2 I2 D1 C1 q0 q1 q2 q3 q4 q5
    obtain ⟨q0, q1, q2, q3, q4, q5⟩ := D2.out.cells
    have lq := D2.out.lt
    go_wp2_with fail
    refine (HVV.out _ _ _ F3.out ((HV.out _ C2.out).mono C2.out.size)).mono ?_
    rintro e w3 ⟨rfl, B3⟩
    have C3 := Lib.hid (C2.out.trans (B3.mono C2.out.size))
    have D3 := Lib.hid (D2.out.keep B3 D2.out.lt)
    have R3 := Lib.hid (R2.out.keep B3 R2.out.lt)
    clear B3 D2 R2 C2 F3 V3 q0 q1 q2 q3 q4 q5 lq
    have FX : Hid (∀ u, Below w3.heap.size w3 u → u.cell? ⟨w.heap.size, 2, none⟩ = some (.int .i64 kd) ∧ u.cell? ⟨w.heap.size, 5, none⟩ = some (.string dt) ∧ u.cell? ⟨w2.heap.size, 1, none⟩ = some (.int .i64 r)) := fun u hu => ⟨(D3.out.keep hu D3.out.lt).cells.2.2.1, (D3.out.keep hu D3.out.lt).cells.2.2.2.2.2, (R3.out.keep hu R3.out.lt).cells.1.2.1⟩
    go_wp2_with fail
    refine region_quiet (fun v => Below w3.heap.size w3 v) (by kernel_rfl) (by kernel_rfl) ((Below.refl _ _).drew) ?_
    repeat (first
      | go_big_quiet_skip
      | (go_big_quiet_want
         (first
          | (refine quiet_run (v := ?_) ?_ ?_; rotate_left; (intro u hu; obtain ⟨x0, x1, x2⟩ := FX.out u hu; go_simp <;> with_reducible rfl); simp only [Act.put, List.setIfInBounds_toArray, List.set_cons_zero, List.set_cons_succ]; go_big_quiet_on)
  )))
    refine wpQuiet_nil ?_
    intro w4 h4
    have C4 := Lib.hid (C3.out.trans (h4.mono C3.out.size))
    have R4 := Lib.hid (R3.out.keep h4 R3.out.lt)
    clear h4 FX D3 R3 C3
    go_wp2_with fail
    refine (HT.out _).mono ?_
    rintro e w7 ⟨rfl, B7⟩
    have C7 := Lib.hid (C4.out.trans (B7.mono C4.out.size))
    obtain ⟨⟨r0, r1, r2, r3⟩, _⟩ := (R4.out.keep B7 R4.out.lt).cells
    clear B7
    go_wp2
    go_returns
    exact ⟨rfl, C7.out⟩
  case some ad =>
    clear B2 B2a V2 I2 D1 C1 q0 q1 q2 q3 q4 q5
    obtain ⟨q0, q1, q2, q3, q4, q5⟩ := D2.out.cells
    have lq := D2.out.lt
    go_wp2_with fail
    refine (HVV.out _ _ _ F3.out ((HV.out _ C2.out).mono C2.out.size)).mono ?_
    rintro e w3 ⟨rfl, B3⟩
    have C3 := Lib.hid (C2.out.trans (B3.mono C2.out.size))
    have D3 := Lib.hid (D2.out.keep B3 D2.out.lt)
    have R3 := Lib.hid (R2.out.keep B3 R2.out.lt)
    clear B3 D2 R2 C2 F3 V3 q0 q1 q2 q3 q4 q5 lq
    have FX : Hid (∀ u, Below w3.heap.size w3 u → u.cell? ⟨w.heap.size, 2, none⟩ = some (.int .i64 kd) ∧ u.cell? ⟨w.heap.size, 5, none⟩ = some (.string dt) ∧ u.cell? ⟨w2.heap.size, 1, none⟩ = some (.int .i64 r)) := fun u hu => ⟨(D3.out.keep hu D3.out.lt).cells.2.2.1, (D3.out.keep hu D3.out.lt).cells.2.2.2.2.2, (R3.out.keep hu R3.out.lt).cells.1.2.1⟩
    go_wp2_with fail
    refine region_quiet (fun v => Below w3.heap.size w3 v) (by kernel_rfl) (by kernel_rfl) ((Below.refl _ _).drew) ?_
    repeat (first
      | go_big_quiet_skip
      | (go_big_quiet_want
         (first
          | (refine quiet_run (v := ?_) ?_ ?_; rotate_left; (intro u hu; obtain ⟨x0, x1, x2⟩ := FX.out u hu; go_simp <;> with_reducible rfl); simp only [Act.put, List.setIfInBounds_toArray, List.set_cons_zero, List.set_cons_succ]; go_big_quiet_on)
  )))
    refine wpQuiet_nil ?_
    intro w4 h4
    have C4 := Lib.hid (C3.out.trans (h4.mono C3.out.size))
    have R4 := Lib.hid (R3.out.keep h4 R3.out.lt)
    clear h4 FX D3 R3 C3
    go_wp2_with fail
    refine (HT.out _).mono ?_
    rintro e w7 ⟨rfl, B7⟩
    have C7 := Lib.hid (C4.out.trans (B7.mono C4.out.size))
    obtain ⟨⟨r0, r1, r2, r3⟩, _⟩ := (R4.out.keep B7 R4.out.lt).cells
    clear B7
    go_wp2
    go_returns
    exact ⟨rfl, C7.out⟩

set_option maxRecDepth 100000 in
set_option maxHeartbeats 4000000 in
theorem refused1 (ao : Option Addr) (n cap : Nat) (L : List VerV) (cl sq id mt : Int) (dt : ByteArray) (quota : Int) (k : Nat) (c r : Int) (w : World) (hn : L.length = n) (h60 : n ≤ 60) (hk : k < 100) (hq : (IntKind.u64.wrap quota).tmod 100 = (k : Int)) (hc : c ≠ 1) 
    (HV : Hid (∀ u, Below w.heap.size w u → Vers u w.heap.size (.slice ao n cap) L))
    (HF : Hid (∀ u, Below w.heap.size w u → Calls Try.prog 10 #[.slice ao n cap, .agg #[.int .i64 cl, .int .i64 sq, .int .i64 1, .int .i64 id, .int .i64 mt, .string dt]] u fun e w' => e = .returned (.bool true) ∧ Below u.heap.size u w'))
    (HD : Hid (∀ u, Below w.heap.size w u → Calls Try.prog 12 #[.slice ao n cap, .agg #[.int .i64 cl, .int .i64 sq, .int .i64 1, .int .i64 id, .int .i64 mt, .string dt], .int .i64 (1 + (k : Int))] u (DoesN L n [] 0 c r ⟨#[]⟩ u)))
    (HVV : Hid (∀ v1 v2 u, Vers u u.heap.size v1 L → Vers u u.heap.size v2 L → Calls Try.prog 14 #[v1, v2] u fun e w' => e = .returned (.bool true) ∧ Below u.heap.size u w')) :
    Calls Try.prog 4 #[.slice ao n cap, .agg #[.int .i64 cl, .int .i64 sq, .int .i64 1, .int .i64 id, .int .i64 mt, .string dt], .int .i64 quota] w fun e w' => e = .returned (.bool true) ∧ Below w.heap.size w w' := by
  have HT := Lib.hid (fun u => told4_any u)
  have HN := Lib.hid hn
  have kp : (0 : Int) ≤ (k : Int) := by omega
  have k100 : (k : Int) < 100 := by omega
  have b0 : (c == 1) = false := beq_eq_false_iff_ne.2 hc
  clear hc
  clear hn hk
  go_enter Try.func4, Try.ntmps4
  go_wp2_with fail
  refine (HF.out _ (by go_grown)).mono ?_
  rintro e w1 ⟨rfl, B1⟩
  have C1 := Lib.hid (((Below.refl _ w).alloc (Nat.le_refl _) _).trans (B1.mono (by simp)))
  have D1 : Hid (ReqB w1 w.heap.size cl sq 1 id mt dt) := (ReqB.fresh w _ _ _ _ _ _ 24).keep B1 (by simp)
  clear B1
  obtain ⟨q0, q1, q2, q3, q4, q5⟩ := D1.out.cells
  go_wp2_with fail
  refine (HD.out _ C1.out).mono ?_
  rintro e w2 ⟨a1, c1, o1, p1, rfl, V2, I2, B2⟩
  have B2a := (Below.refl _ w2).alloc (Nat.le_refl _) (.cells #[.int .i64 c, .int .i64 r, .string ⟨#[]⟩, .slice o1 0 p1] 29)
  have C2 := Lib.hid ((C1.out.trans (B2.mono C1.out.size)).trans (B2a.mono (C1.out.trans (B2.mono C1.out.size)).size))
  have D2 := Lib.hid ((D1.out.keep B2 D1.out.lt).keep B2a (D1.out.keep B2 D1.out.lt).lt)
  have V3 := Lib.hid (V2.on B2a)
  have R2 := Lib.hid (RepAt.new w2 c r ⟨#[]⟩ (.slice o1 0 p1))
  have F3 : Hid (Vers (w2.alloc (.cells #[.int .i64 c, .int .i64 r, .string ⟨#[]⟩, .slice o1 0 p1] 29)) (w2.alloc (.cells #[.int .i64 c, .int .i64 r, .string ⟨#[]⟩, .slice o1 0 p1] 29)).heap.size (.slice a1 n c1) L) := V3.out
  have hcap : n ≤ c1 := V3.out.len.2.1
  have hcm : c1 ≤ 140737488355328 ∨ True := .inr trivial
  clear hcm
  cases a1
  case none =>
    obtain ⟨ao', cap', he, z1, _, z3, _⟩ := V3.out
    simp only [Value.slice.injEq] at he
    obtain ⟨rfl, hln, rfl⟩ := he
    obtain rfl : c1 = 0 := z3 rfl
    obtain rfl : n = 0 := by omega
    clear z1 z3 hln hcap
    clear B2 B2a V2 I2 D1 C1 q0 q1 q2 q3 q4 q5
    obtain ⟨q0, q1, q2, q3, q4, q5⟩ := D2.out.cells
    have lq := D2.out.lt
    go_wp2_with fail
    refine (HVV.out _ _ _ F3.out ((HV.out _ C2.out).mono C2.out.size)).mono ?_
    rintro e w3 ⟨rfl, B3⟩
    have C3 := Lib.hid (C2.out.trans (B3.mono C2.out.size))
    have D3 := Lib.hid (D2.out.keep B3 D2.out.lt)
    have R3 := Lib.hid (R2.out.keep B3 R2.out.lt)
    clear B3 D2 R2 C2 F3 V3 q0 q1 q2 q3 q4 q5 lq
    have FX : Hid (∀ u, Below w3.heap.size w3 u → u.cell? ⟨w.heap.size, 2, none⟩ = some (.int .i64 1) ∧ u.cell? ⟨w.heap.size, 5, none⟩ = some (.string dt) ∧ u.cell? ⟨w2.heap.size, 1, none⟩ = some (.int .i64 r)) := fun u hu => ⟨(D3.out.keep hu D3.out.lt).cells.2.2.1, (D3.out.keep hu D3.out.lt).cells.2.2.2.2.2, (R3.out.keep hu R3.out.lt).cells.1.2.1⟩
    go_wp2_with fail
    refine region_quiet (fun v => Below w3.heap.size w3 v) (by kernel_rfl) (by kernel_rfl) ((Below.refl _ _).drew) ?_
    repeat (first
      | go_big_quiet_skip
      | (go_big_quiet_want
         (first
          | (refine quiet_run (v := ?_) ?_ ?_; rotate_left; (intro u hu; obtain ⟨x0, x1, x2⟩ := FX.out u hu; go_simp <;> with_reducible rfl); simp only [Act.put, List.setIfInBounds_toArray, List.set_cons_zero, List.set_cons_succ]; go_big_quiet_on)
  )))
    refine wpQuiet_nil ?_
    intro w4 h4
    have C4 := Lib.hid (C3.out.trans (h4.mono C3.out.size))
    have R4 := Lib.hid (R3.out.keep h4 R3.out.lt)
    clear h4 FX D3 R3 C3
    go_wp2_with fail
    refine (HT.out _).mono ?_
    rintro e w7 ⟨rfl, B7⟩
    have C7 := Lib.hid (C4.out.trans (B7.mono C4.out.size))
    obtain ⟨⟨r0, r1, r2, r3⟩, _⟩ := (R4.out.keep B7 R4.out.lt).cells
    clear B7
    go_wp2
    go_returns
    exact ⟨rfl, C7.out⟩
  case some ad =>
    clear B2 B2a V2 I2 D1 C1 q0 q1 q2 q3 q4 q5
    obtain ⟨q0, q1, q2, q3, q4, q5⟩ := D2.out.cells
    have lq := D2.out.lt
    go_wp2_with fail
    refine (HVV.out _ _ _ F3.out ((HV.out _ C2.out).mono C2.out.size)).mono ?_
    rintro e w3 ⟨rfl, B3⟩
    have C3 := Lib.hid (C2.out.trans (B3.mono C2.out.size))
    have D3 := Lib.hid (D2.out.keep B3 D2.out.lt)
    have R3 := Lib.hid (R2.out.keep B3 R2.out.lt)
    clear B3 D2 R2 C2 F3 V3 q0 q1 q2 q3 q4 q5 lq
    have FX : Hid (∀ u, Below w3.heap.size w3 u → u.cell? ⟨w.heap.size, 2, none⟩ = some (.int .i64 1) ∧ u.cell? ⟨w.heap.size, 5, none⟩ = some (.string dt) ∧ u.cell? ⟨w2.heap.size, 1, none⟩ = some (.int .i64 r)) := fun u hu => ⟨(D3.out.keep hu D3.out.lt).cells.2.2.1, (D3.out.keep hu D3.out.lt).cells.2.2.2.2.2, (R3.out.keep hu R3.out.lt).cells.1.2.1⟩
    go_wp2_with fail
    refine region_quiet (fun v => Below w3.heap.size w3 v) (by kernel_rfl) (by kernel_rfl) ((Below.refl _ _).drew) ?_
    repeat (first
      | go_big_quiet_skip
      | (go_big_quiet_want
         (first
          | (refine quiet_run (v := ?_) ?_ ?_; rotate_left; (intro u hu; obtain ⟨x0, x1, x2⟩ := FX.out u hu; go_simp <;> with_reducible rfl); simp only [Act.put, List.setIfInBounds_toArray, List.set_cons_zero, List.set_cons_succ]; go_big_quiet_on)
  )))
    refine wpQuiet_nil ?_
    intro w4 h4
    have C4 := Lib.hid (C3.out.trans (h4.mono C3.out.size))
    have R4 := Lib.hid (R3.out.keep h4 R3.out.lt)
    clear h4 FX D3 R3 C3
    go_wp2_with fail
    refine (HT.out _).mono ?_
    rintro e w7 ⟨rfl, B7⟩
    have C7 := Lib.hid (C4.out.trans (B7.mono C4.out.size))
    obtain ⟨⟨r0, r1, r2, r3⟩, _⟩ := (R4.out.keep B7 R4.out.lt).cells
    clear B7
    go_wp2
    go_returns
    exact ⟨rfl, C7.out⟩

set_option maxRecDepth 100000 in
set_option maxHeartbeats 4000000 in
theorem refused2 (ao : Option Addr) (n cap : Nat) (L : List VerV) (cl sq id mt : Int) (dt : ByteArray) (quota : Int) (k : Nat) (c r : Int) (w : World) (hn : L.length = n) (h60 : n ≤ 60) (hk : k < 100) (hq : (IntKind.u64.wrap quota).tmod 100 = (k : Int)) (hc : c ≠ 1) 
    (HV : Hid (∀ u, Below w.heap.size w u → Vers u w.heap.size (.slice ao n cap) L))
    (HF : Hid (∀ u, Below w.heap.size w u → Calls Try.prog 10 #[.slice ao n cap, .agg #[.int .i64 cl, .int .i64 sq, .int .i64 2, .int .i64 id, .int .i64 mt, .string dt]] u fun e w' => e = .returned (.bool true) ∧ Below u.heap.size u w'))
    (HD : Hid (∀ u, Below w.heap.size w u → Calls Try.prog 12 #[.slice ao n cap, .agg #[.int .i64 cl, .int .i64 sq, .int .i64 2, .int .i64 id, .int .i64 mt, .string dt], .int .i64 (1 + (k : Int))] u (DoesN L n [] 0 c r ⟨#[]⟩ u)))
    (HVV : Hid (∀ v1 v2 u, Vers u u.heap.size v1 L → Vers u u.heap.size v2 L → Calls Try.prog 14 #[v1, v2] u fun e w' => e = .returned (.bool true) ∧ Below u.heap.size u w')) :
    Calls Try.prog 4 #[.slice ao n cap, .agg #[.int .i64 cl, .int .i64 sq, .int .i64 2, .int .i64 id, .int .i64 mt, .string dt], .int .i64 quota] w fun e w' => e = .returned (.bool true) ∧ Below w.heap.size w w' := by
  have HT := Lib.hid (fun u => told4_any u)
  have HN := Lib.hid hn
  have kp : (0 : Int) ≤ (k : Int) := by omega
  have k100 : (k : Int) < 100 := by omega
  have b0 : (c == 1) = false := beq_eq_false_iff_ne.2 hc
  clear hc
  clear hn hk
  go_enter Try.func4, Try.ntmps4
  go_wp2_with fail
  refine (HF.out _ (by go_grown)).mono ?_
  rintro e w1 ⟨rfl, B1⟩
  have C1 := Lib.hid (((Below.refl _ w).alloc (Nat.le_refl _) _).trans (B1.mono (by simp)))
  have D1 : Hid (ReqB w1 w.heap.size cl sq 2 id mt dt) := (ReqB.fresh w _ _ _ _ _ _ 24).keep B1 (by simp)
  clear B1
  obtain ⟨q0, q1, q2, q3, q4, q5⟩ := D1.out.cells
  go_wp2_with fail
  refine (HD.out _ C1.out).mono ?_
  rintro e w2 ⟨a1, c1, o1, p1, rfl, V2, I2, B2⟩
  have B2a := (Below.refl _ w2).alloc (Nat.le_refl _) (.cells #[.int .i64 c, .int .i64 r, .string ⟨#[]⟩, .slice o1 0 p1] 29)
  have C2 := Lib.hid ((C1.out.trans (B2.mono C1.out.size)).trans (B2a.mono (C1.out.trans (B2.mono C1.out.size)).size))
  have D2 := Lib.hid ((D1.out.keep B2 D1.out.lt).keep B2a (D1.out.keep B2 D1.out.lt).lt)
  have V3 := Lib.hid (V2.on B2a)
  have R2 := Lib.hid (RepAt.new w2 c r ⟨#[]⟩ (.slice o1 0 p1))
  have F3 : Hid (Vers (w2.alloc (.cells #[.int .i64 c, .int .i64 r, .string ⟨#[]⟩, .slice o1 0 p1] 29)) (w2.alloc (.cells #[.int .i64 c, .int .i64 r, .string ⟨#[]⟩, .slice o1 0 p1] 29)).heap.size (.slice a1 n c1) L) := V3.out
  have hcap : n ≤ c1 := V3.out.len.2.1
  have hcm : c1 ≤ 140737488355328 ∨ True := .inr trivial
  clear hcm
  cases a1
  case none =>
    obtain ⟨ao', cap', he, z1, _, z3, _⟩ := V3.out
    simp only [Value.slice.injEq] at he
    obtain ⟨rfl, hln, rfl⟩ := he
    obtain rfl : c1 = 0 := z3 rfl
    obtain rfl : n = 0 := by omega
    clear z1 z3 hln hcap
    clear B2 B2a V2 I2 D1 C1 q0 q1 q2 q3 q4 q5
    obtain ⟨q0, q1, q2, q3, q4, q5⟩ := D2.out.cells
    have lq := D2.out.lt
    go_wp2_with fail
    refine (HVV.out _ _ _ F3.out ((HV.out _ C2.out).mono C2.out.size)).mono ?_
    rintro e w3 ⟨rfl, B3⟩
    have C3 := Lib.hid (C2.out.trans (B3.mono C2.out.size))
    have D3 := Lib.hid (D2.out.keep B3 D2.out.lt)
    have R3 := Lib.hid (R2.out.keep B3 R2.out.lt)
    clear B3 D2 R2 C2 F3 V3 q0 q1 q2 q3 q4 q5 lq
    have FX : Hid (∀ u, Below w3.heap.size w3 u → u.cell? ⟨w.heap.size, 2, none⟩ = some (.int .i64 2) ∧ u.cell? ⟨w.heap.size, 5, none⟩ = some (.string dt) ∧ u.cell? ⟨w2.heap.size, 1, none⟩ = some (.int .i64 r)) := fun u hu => ⟨(D3.out.keep hu D3.out.lt).cells.2.2.1, (D3.out.keep hu D3.out.lt).cells.2.2.2.2.2, (R3.out.keep hu R3.out.lt).cells.1.2.1⟩
    go_wp2_with fail
    refine region_quiet (fun v => Below w3.heap.size w3 v) (by kernel_rfl) (by kernel_rfl) ((Below.refl _ _).drew) ?_
    repeat (first
      | go_big_quiet_skip
      | (go_big_quiet_want
         (first
          | (refine quiet_run (v := ?_) ?_ ?_; rotate_left; (intro u hu; obtain ⟨x0, x1, x2⟩ := FX.out u hu; go_simp <;> with_reducible rfl); simp only [Act.put, List.setIfInBounds_toArray, List.set_cons_zero, List.set_cons_succ]; go_big_quiet_on)
  )))
    refine wpQuiet_nil ?_
    intro w4 h4
    have C4 := Lib.hid (C3.out.trans (h4.mono C3.out.size))
    have R4 := Lib.hid (R3.out.keep h4 R3.out.lt)
    clear h4 FX D3 R3 C3
    go_wp2_with fail
    refine (HT.out _).mono ?_
    rintro e w7 ⟨rfl, B7⟩
    have C7 := Lib.hid (C4.out.trans (B7.mono C4.out.size))
    obtain ⟨⟨r0, r1, r2, r3⟩, _⟩ := (R4.out.keep B7 R4.out.lt).cells
    clear B7
    go_wp2
    go_returns
    exact ⟨rfl, C7.out⟩
  case some ad =>
    clear B2 B2a V2 I2 D1 C1 q0 q1 q2 q3 q4 q5
    obtain ⟨q0, q1, q2, q3, q4, q5⟩ := D2.out.cells
    have lq := D2.out.lt
    go_wp2_with fail
    refine (HVV.out _ _ _ F3.out ((HV.out _ C2.out).mono C2.out.size)).mono ?_
    rintro e w3 ⟨rfl, B3⟩
    have C3 := Lib.hid (C2.out.trans (B3.mono C2.out.size))
    have D3 := Lib.hid (D2.out.keep B3 D2.out.lt)
    have R3 := Lib.hid (R2.out.keep B3 R2.out.lt)
    clear B3 D2 R2 C2 F3 V3 q0 q1 q2 q3 q4 q5 lq
    have FX : Hid (∀ u, Below w3.heap.size w3 u → u.cell? ⟨w.heap.size, 2, none⟩ = some (.int .i64 2) ∧ u.cell? ⟨w.heap.size, 5, none⟩ = some (.string dt) ∧ u.cell? ⟨w2.heap.size, 1, none⟩ = some (.int .i64 r)) := fun u hu => ⟨(D3.out.keep hu D3.out.lt).cells.2.2.1, (D3.out.keep hu D3.out.lt).cells.2.2.2.2.2, (R3.out.keep hu R3.out.lt).cells.1.2.1⟩
    go_wp2_with fail
    refine region_quiet (fun v => Below w3.heap.size w3 v) (by kernel_rfl) (by kernel_rfl) ((Below.refl _ _).drew) ?_
    repeat (first
      | go_big_quiet_skip
      | (go_big_quiet_want
         (first
          | (refine quiet_run (v := ?_) ?_ ?_; rotate_left; (intro u hu; obtain ⟨x0, x1, x2⟩ := FX.out u hu; go_simp <;> with_reducible rfl); simp only [Act.put, List.setIfInBounds_toArray, List.set_cons_zero, List.set_cons_succ]; go_big_quiet_on)
  )))
    refine wpQuiet_nil ?_
    intro w4 h4
    have C4 := Lib.hid (C3.out.trans (h4.mono C3.out.size))
    have R4 := Lib.hid (R3.out.keep h4 R3.out.lt)
    clear h4 FX D3 R3 C3
    go_wp2_with fail
    refine (HT.out _).mono ?_
    rintro e w7 ⟨rfl, B7⟩
    have C7 := Lib.hid (C4.out.trans (B7.mono C4.out.size))
    obtain ⟨⟨r0, r1, r2, r3⟩, _⟩ := (R4.out.keep B7 R4.out.lt).cells
    clear B7
    go_wp2
    go_returns
    exact ⟨rfl, C7.out⟩

set_option maxRecDepth 100000 in
set_option maxHeartbeats 4000000 in
theorem refused3 (ao : Option Addr) (n cap : Nat) (L : List VerV) (cl sq id mt : Int) (dt : ByteArray) (quota : Int) (k : Nat) (c r : Int) (w : World) (hn : L.length = n) (h60 : n ≤ 60) (hk : k < 100) (hq : (IntKind.u64.wrap quota).tmod 100 = (k : Int)) (hc : c ≠ 1) 
    (HV : Hid (∀ u, Below w.heap.size w u → Vers u w.heap.size (.slice ao n cap) L))
    (HF : Hid (∀ u, Below w.heap.size w u → Calls Try.prog 10 #[.slice ao n cap, .agg #[.int .i64 cl, .int .i64 sq, .int .i64 3, .int .i64 id, .int .i64 mt, .string dt]] u fun e w' => e = .returned (.bool true) ∧ Below u.heap.size u w'))
    (HD : Hid (∀ u, Below w.heap.size w u → Calls Try.prog 12 #[.slice ao n cap, .agg #[.int .i64 cl, .int .i64 sq, .int .i64 3, .int .i64 id, .int .i64 mt, .string dt], .int .i64 (1 + (k : Int))] u (DoesN L n [] 0 c r ⟨#[]⟩ u)))
    (HVV : Hid (∀ v1 v2 u, Vers u u.heap.size v1 L → Vers u u.heap.size v2 L → Calls Try.prog 14 #[v1, v2] u fun e w' => e = .returned (.bool true) ∧ Below u.heap.size u w')) :
    Calls Try.prog 4 #[.slice ao n cap, .agg #[.int .i64 cl, .int .i64 sq, .int .i64 3, .int .i64 id, .int .i64 mt, .string dt], .int .i64 quota] w fun e w' => e = .returned (.bool true) ∧ Below w.heap.size w w' := by
  have HT := Lib.hid (fun u => told4_any u)
  have HN := Lib.hid hn
  have kp : (0 : Int) ≤ (k : Int) := by omega
  have k100 : (k : Int) < 100 := by omega
  have b0 : (c == 1) = false := beq_eq_false_iff_ne.2 hc
  clear hc
  clear hn hk
  go_enter Try.func4, Try.ntmps4
  go_wp2_with fail
  refine (HF.out _ (by go_grown)).mono ?_
  rintro e w1 ⟨rfl, B1⟩
  have C1 := Lib.hid (((Below.refl _ w).alloc (Nat.le_refl _) _).trans (B1.mono (by simp)))
  have D1 : Hid (ReqB w1 w.heap.size cl sq 3 id mt dt) := (ReqB.fresh w _ _ _ _ _ _ 24).keep B1 (by simp)
  clear B1
  obtain ⟨q0, q1, q2, q3, q4, q5⟩ := D1.out.cells
  go_wp2_with fail
  refine (HD.out _ C1.out).mono ?_
  rintro e w2 ⟨a1, c1, o1, p1, rfl, V2, I2, B2⟩
  have B2a := (Below.refl _ w2).alloc (Nat.le_refl _) (.cells #[.int .i64 c, .int .i64 r, .string ⟨#[]⟩, .slice o1 0 p1] 29)
  have C2 := Lib.hid ((C1.out.trans (B2.mono C1.out.size)).trans (B2a.mono (C1.out.trans (B2.mono C1.out.size)).size))
  have D2 := Lib.hid ((D1.out.keep B2 D1.out.lt).keep B2a (D1.out.keep B2 D1.out.lt).lt)
  have V3 := Lib.hid (V2.on B2a)
  have R2 := Lib.hid (RepAt.new w2 c r ⟨#[]⟩ (.slice o1 0 p1))
  have F3 : Hid (Vers (w2.alloc (.cells #[.int .i64 c, .int .i64 r, .string ⟨#[]⟩, .slice o1 0 p1] 29)) (w2.alloc (.cells #[.int .i64 c, .int .i64 r, .string ⟨#[]⟩, .slice o1 0 p1] 29)).heap.size (.slice a1 n c1) L) := V3.out
  have hcap : n ≤ c1 := V3.out.len.2.1
  have hcm : c1 ≤ 140737488355328 ∨ True := .inr trivial
  clear hcm
  cases a1
  case none =>
    obtain ⟨ao', cap', he, z1, _, z3, _⟩ := V3.out
    simp only [Value.slice.injEq] at he
    obtain ⟨rfl, hln, rfl⟩ := he
    obtain rfl : c1 = 0 := z3 rfl
    obtain rfl : n = 0 := by omega
    clear z1 z3 hln hcap
    clear B2 B2a V2 I2 D1 C1 q0 q1 q2 q3 q4 q5
    obtain ⟨q0, q1, q2, q3, q4, q5⟩ := D2.out.cells
    have lq := D2.out.lt
    go_wp2_with fail
    refine (HVV.out _ _ _ F3.out ((HV.out _ C2.out).mono C2.out.size)).mono ?_
    rintro e w3 ⟨rfl, B3⟩
    have C3 := Lib.hid (C2.out.trans (B3.mono C2.out.size))
    have D3 := Lib.hid (D2.out.keep B3 D2.out.lt)
    have R3 := Lib.hid (R2.out.keep B3 R2.out.lt)
    clear B3 D2 R2 C2 F3 V3 q0 q1 q2 q3 q4 q5 lq
    have FX : Hid (∀ u, Below w3.heap.size w3 u → u.cell? ⟨w.heap.size, 2, none⟩ = some (.int .i64 3) ∧ u.cell? ⟨w.heap.size, 5, none⟩ = some (.string dt) ∧ u.cell? ⟨w2.heap.size, 1, none⟩ = some (.int .i64 r)) := fun u hu => ⟨(D3.out.keep hu D3.out.lt).cells.2.2.1, (D3.out.keep hu D3.out.lt).cells.2.2.2.2.2, (R3.out.keep hu R3.out.lt).cells.1.2.1⟩
    go_wp2_with fail
    refine region_quiet (fun v => Below w3.heap.size w3 v) (by kernel_rfl) (by kernel_rfl) ((Below.refl _ _).drew) ?_
    repeat (first
      | go_big_quiet_skip
      | (go_big_quiet_want
         (first
          | (refine quiet_run (v := ?_) ?_ ?_; rotate_left; (intro u hu; obtain ⟨x0, x1, x2⟩ := FX.out u hu; go_simp <;> with_reducible rfl); simp only [Act.put, List.setIfInBounds_toArray, List.set_cons_zero, List.set_cons_succ]; go_big_quiet_on)
  )))
    refine wpQuiet_nil ?_
    intro w4 h4
    have C4 := Lib.hid (C3.out.trans (h4.mono C3.out.size))
    have R4 := Lib.hid (R3.out.keep h4 R3.out.lt)
    clear h4 FX D3 R3 C3
    go_wp2_with fail
    refine (HT.out _).mono ?_
    rintro e w7 ⟨rfl, B7⟩
    have C7 := Lib.hid (C4.out.trans (B7.mono C4.out.size))
    obtain ⟨⟨r0, r1, r2, r3⟩, _⟩ := (R4.out.keep B7 R4.out.lt).cells
    clear B7
    go_wp2
    go_returns
    exact ⟨rfl, C7.out⟩
  case some ad =>
    clear B2 B2a V2 I2 D1 C1 q0 q1 q2 q3 q4 q5
    obtain ⟨q0, q1, q2, q3, q4, q5⟩ := D2.out.cells
    have lq := D2.out.lt
    go_wp2_with fail
    refine (HVV.out _ _ _ F3.out ((HV.out _ C2.out).mono C2.out.size)).mono ?_
    rintro e w3 ⟨rfl, B3⟩
    have C3 := Lib.hid (C2.out.trans (B3.mono C2.out.size))
    have D3 := Lib.hid (D2.out.keep B3 D2.out.lt)
    have R3 := Lib.hid (R2.out.keep B3 R2.out.lt)
    clear B3 D2 R2 C2 F3 V3 q0 q1 q2 q3 q4 q5 lq
    have FX : Hid (∀ u, Below w3.heap.size w3 u → u.cell? ⟨w.heap.size, 2, none⟩ = some (.int .i64 3) ∧ u.cell? ⟨w.heap.size, 5, none⟩ = some (.string dt) ∧ u.cell? ⟨w2.heap.size, 1, none⟩ = some (.int .i64 r)) := fun u hu => ⟨(D3.out.keep hu D3.out.lt).cells.2.2.1, (D3.out.keep hu D3.out.lt).cells.2.2.2.2.2, (R3.out.keep hu R3.out.lt).cells.1.2.1⟩
    go_wp2_with fail
    refine region_quiet (fun v => Below w3.heap.size w3 v) (by kernel_rfl) (by kernel_rfl) ((Below.refl _ _).drew) ?_
    repeat (first
      | go_big_quiet_skip
      | (go_big_quiet_want
         (first
          | (refine quiet_run (v := ?_) ?_ ?_; rotate_left; (intro u hu; obtain ⟨x0, x1, x2⟩ := FX.out u hu; go_simp <;> with_reducible rfl); simp only [Act.put, List.setIfInBounds_toArray, List.set_cons_zero, List.set_cons_succ]; go_big_quiet_on)
  )))
    refine wpQuiet_nil ?_
    intro w4 h4
    have C4 := Lib.hid (C3.out.trans (h4.mono C3.out.size))
    have R4 := Lib.hid (R3.out.keep h4 R3.out.lt)
    clear h4 FX D3 R3 C3
    go_wp2_with fail
    refine (HT.out _).mono ?_
    rintro e w7 ⟨rfl, B7⟩
    have C7 := Lib.hid (C4.out.trans (B7.mono C4.out.size))
    obtain ⟨⟨r0, r1, r2, r3⟩, _⟩ := (R4.out.keep B7 R4.out.lt).cells
    clear B7
    go_wp2
    go_returns
    exact ⟨rfl, C7.out⟩

set_option maxRecDepth 100000 in
set_option maxHeartbeats 4000000 in
theorem done1 (ao : Option Addr) (n cap : Nat) (L : List VerV) (cl sq id mt : Int) (dt : ByteArray) (quota : Int) (k : Nat) (w : World) (hn : L.length = n) (h60 : n ≤ 60) (hk : k < 100) (hq : (IntKind.u64.wrap quota).tmod 100 = (k : Int)) (hnq : (n : Int) < 1 + (k : Int)) 
    (HV : Hid (∀ u, Below w.heap.size w u → Vers u w.heap.size (.slice ao n cap) L))
    (HF : Hid (∀ u, Below w.heap.size w u → Calls Try.prog 10 #[.slice ao n cap, .agg #[.int .i64 cl, .int .i64 sq, .int .i64 1, .int .i64 id, .int .i64 mt, .string dt]] u fun e w' => e = .returned (.bool true) ∧ Below u.heap.size u w'))
    (HD : Hid (∀ u, Below w.heap.size w u → Calls Try.prog 12 #[.slice ao n cap, .agg #[.int .i64 cl, .int .i64 sq, .int .i64 1, .int .i64 id, .int .i64 mt, .string dt], .int .i64 (1 + (k : Int))] u (DoesN (L ++ [⟨false, dt⟩]) (n + 1) [] 0 1 ((n : Int) + 1) ⟨#[]⟩ u)))
    (HA : Hid (∀ u v, Vers u u.heap.size v (L ++ [⟨false, dt⟩]) → Calls Try.prog 16 #[v, .agg #[.int .i64 0, .int .i64 0, .int .i64 4, .int .i64 0, .int .i64 0, .string ⟨#[]⟩]] u (TellsN [] 0 1 ((n : Int) + 1) dt u)))
    (HVV : Hid (∀ v1 v2 u, Vers u u.heap.size v1 L → Vers u u.heap.size v2 L → Calls Try.prog 14 #[v1, v2] u fun e w' => e = .returned (.bool true) ∧ Below u.heap.size u w')) :
    Calls Try.prog 4 #[.slice ao n cap, .agg #[.int .i64 cl, .int .i64 sq, .int .i64 1, .int .i64 id, .int .i64 mt, .string dt], .int .i64 quota] w fun e w' => e = .returned (.bool true) ∧ Below w.heap.size w w' := by
  have HT := Lib.hid (fun u => told4_any u)
  have HN := Lib.hid hn
  have kp : (0 : Int) ≤ (k : Int) := by omega
  have k100 : (k : Int) < 100 := by omega
  clear hn hk
  go_enter Try.func4, Try.ntmps4
  go_wp2_with fail
  refine (HF.out _ (by go_grown)).mono ?_
  rintro e w1 ⟨rfl, B1⟩
  have C1 := Lib.hid (((Below.refl _ w).alloc (Nat.le_refl _) _).trans (B1.mono (by simp)))
  have D1 : Hid (ReqB w1 w.heap.size cl sq 1 id mt dt) := (ReqB.fresh w _ _ _ _ _ _ 24).keep B1 (by simp)
  clear B1
  obtain ⟨q0, q1, q2, q3, q4, q5⟩ := D1.out.cells
  go_wp2_with fail
  refine (HD.out _ C1.out).mono ?_
  rintro e w2 ⟨a1, c1, o1, p1, rfl, V2, I2, B2⟩
  have B2a := (Below.refl _ w2).alloc (Nat.le_refl _) (.cells #[.int .i64 1, .int .i64 ((n : Int) + 1), .string ⟨#[]⟩, .slice o1 0 p1] 29)
  have C2 := Lib.hid ((C1.out.trans (B2.mono C1.out.size)).trans (B2a.mono (C1.out.trans (B2.mono C1.out.size)).size))
  have D2 := Lib.hid ((D1.out.keep B2 D1.out.lt).keep B2a (D1.out.keep B2 D1.out.lt).lt)
  have V3 := Lib.hid (V2.on B2a)
  have R2 := Lib.hid (RepAt.new w2 1 ((n : Int) + 1) ⟨#[]⟩ (.slice o1 0 p1))
  have F3 : Hid (Vers (w2.alloc (.cells #[.int .i64 1, .int .i64 ((n : Int) + 1), .string ⟨#[]⟩, .slice o1 0 p1] 29)) (w2.alloc (.cells #[.int .i64 1, .int .i64 ((n : Int) + 1), .string ⟨#[]⟩, .slice o1 0 p1] 29)).heap.size (.slice a1 n c1) L) := vers_front V3.out HN.out
  have hcap : (n + 1) ≤ c1 := V3.out.len.2.1
  have hcm : c1 ≤ 140737488355328 ∨ True := .inr trivial
  clear hcm
  obtain ⟨b, off, rfl, hb, hcc⟩ := V3.out.at (by rw [List.length_append]; simp)
  have hx := hcc n (by rw [List.length_append, HN.out]; simp)
  have hat : at' (L ++ [⟨false, dt⟩]) n = ⟨false, dt⟩ := by rw [← HN.out]; exact at_last L _
  rw [hat] at hx
  have X3 := Lib.hid hx
  have lb := Lib.hid hb
  clear hcc hx hat hb
  clear B2 B2a V2 I2 D1 C1 q0 q1 q2 q3 q4 q5
  obtain ⟨q0, q1, q2, q3, q4, q5⟩ := D2.out.cells
  have lq := D2.out.lt
  go_wp2_with fail
  refine (HVV.out _ _ _ F3.out ((HV.out _ C2.out).mono C2.out.size)).mono ?_
  rintro e w3 ⟨rfl, B3⟩
  have C3 := Lib.hid (C2.out.trans (B3.mono C2.out.size))
  have D3 := Lib.hid (D2.out.keep B3 D2.out.lt)
  have R3 := Lib.hid (R2.out.keep B3 R2.out.lt)
  have V4 := Lib.hid (V3.out.on B3)
  have X4 : Hid (w3.cell? ⟨b, off + n * 2, none⟩ = some (.bool false) ∧ w3.cell? ⟨b, off + n * 2 + 1, none⟩ = some (.string dt)) := ⟨(B3.cell (p := ⟨b, off + n * 2, none⟩) lb.out).trans X3.out.1, (B3.cell (p := ⟨b, off + n * 2 + 1, none⟩) lb.out).trans X3.out.2⟩
  have lb4 : Hid (b < w3.heap.size) := Nat.lt_of_lt_of_le lb.out B3.size
  clear B3 D2 R2 C2 F3 V3 q0 q1 q2 q3 q4 q5 lq X3 lb
  have FX : Hid (∀ u, Below w3.heap.size w3 u → u.cell? ⟨w.heap.size, 2, none⟩ = some (.int .i64 1) ∧ u.cell? ⟨w.heap.size, 5, none⟩ = some (.string dt) ∧ u.cell? ⟨w2.heap.size, 1, none⟩ = some (.int .i64 ((n : Int) + 1)) ∧ u.cell? ⟨b, off + n * 2, none⟩ = some (.bool false) ∧ u.cell? ⟨b, off + n * 2 + 1, none⟩ = some (.string dt)) := fun u hu => ⟨(D3.out.keep hu D3.out.lt).cells.2.2.1, (D3.out.keep hu D3.out.lt).cells.2.2.2.2.2, (R3.out.keep hu R3.out.lt).cells.1.2.1, (hu.cell (p := ⟨b, off + n * 2, none⟩) lb4.out).trans X4.out.1, (hu.cell (p := ⟨b, off + n * 2 + 1, none⟩) lb4.out).trans X4.out.2⟩
  go_wp2_with fail
  have n0 : (0 : Int) ≤ (n : Int) := by omega
  have n1 : (n : Int) < (n : Int) + 1 := by omega
  have n2 : (n : Int) < ((n + 1 : Nat) : Int) := by omega
  have HM1 : Hid (¬ 1 + (k : Int) < (n : Int)) := show ¬ _ by omega
  have HM2 : Hid (decide (1 + (k : Int) < (n : Int) + 1) = false) := decide_eq_false (by omega)
  refine region_quiet (fun v => Below w3.heap.size w3 v) (by kernel_rfl) (by kernel_rfl) ((Below.refl _ _).drew) ?_
  repeat (first
    | go_big_quiet_skip
    | (go_big_quiet_want
       (first
        | (refine quiet_run (v := .int .i64 (1 + (k : Int))) ?_ ?_; (focus (intro u hu; go_simp; (first | omega | (intro hh; exact absurd hh HM1.out)))); simp only [Act.put, List.setIfInBounds_toArray, List.set_cons_zero, List.set_cons_succ]; go_big_quiet_on)
        | (refine quiet_run (v := .bool false) ?_ ?_; (focus (intro u hu; go_simp; (first | omega | exact HM2.out))); simp only [Act.put, List.setIfInBounds_toArray, List.set_cons_zero, List.set_cons_succ]; go_big_quiet_on)
        | (refine quiet_run (v := ?_) ?_ ?_; rotate_left; (intro u hu; obtain ⟨x0, x1, x2, x3, x4⟩ := FX.out u hu; go_simp <;> with_reducible rfl); simp only [Act.put, List.setIfInBounds_toArray, List.set_cons_zero, List.set_cons_succ]; go_big_quiet_on)
)))
  refine wpQuiet_nil ?_
  intro w4 h4
  clear HM1 HM2
  have C4 := Lib.hid (C3.out.trans (h4.mono C3.out.size))
  have R4 := Lib.hid (R3.out.keep h4 R3.out.lt)
  have V5 := Lib.hid (V4.out.on h4)
  have X5 : Hid (w4.cell? ⟨b, off + n * 2, none⟩ = some (.bool false)) := (h4.cell (p := ⟨b, off + n * 2, none⟩) lb4.out).trans X4.out.1
  have lb5 : Hid (b < w4.heap.size) := Nat.lt_of_lt_of_le lb4.out h4.size
  clear h4 FX D3 R3 C3 V4 X4 lb4
  go_wp2_with fail
  refine (HA.out _ _ V5.out).mono ?_
  rintro e w5 ⟨o5, p5, rfl, _, B5⟩
  have B5a := (Below.refl _ w5).alloc (Nat.le_refl _) (.cells #[.int .i64 1, .int .i64 ((n : Int) + 1), .string dt, .slice o5 0 p5] 29)
  have C5 := Lib.hid ((C4.out.trans (B5.mono C4.out.size)).trans (B5a.mono (C4.out.trans (B5.mono C4.out.size)).size))
  have R5 := Lib.hid ((R4.out.keep B5 R4.out.lt).keep B5a (R4.out.keep B5 R4.out.lt).lt)
  have S5 := Lib.hid (RepAt.new w5 1 ((n : Int) + 1) dt (.slice o5 0 p5))
  have X6 : Hid (w5.cell? ⟨b, off + n * 2, none⟩ = some (.bool false)) := (B5.cell (p := ⟨b, off + n * 2, none⟩) lb5.out).trans X5.out
  have lb6 : Hid (b < w5.heap.size) := Nat.lt_of_lt_of_le lb5.out B5.size
  have FY : Hid (∀ u, Below (w5.alloc (.cells #[.int .i64 1, .int .i64 ((n : Int) + 1), .string dt, .slice o5 0 p5] 29)).heap.size (w5.alloc (.cells #[.int .i64 1, .int .i64 ((n : Int) + 1), .string dt, .slice o5 0 p5] 29)) u → u.cell? ⟨w5.heap.size, 0, none⟩ = some (.int .i64 1) ∧ u.cell? ⟨w5.heap.size, 1, none⟩ = some (.int .i64 ((n : Int) + 1)) ∧ u.cell? ⟨b, off + n * 2, none⟩ = some (.bool false)) :=
    fun u hu => ⟨(S5.out.keep hu S5.out.lt).cells.1.1, (S5.out.keep hu S5.out.lt).cells.1.2.1, ((B5a.trans (hu.mono B5a.size)).cell (p := ⟨b, off + n * 2, none⟩) lb6.out).trans X6.out⟩
  clear B5 B5a C4 R4 V5 X5 lb5 S5
  go_wp2_with fail
  refine region_quiet (fun v => Below (w5.alloc (.cells #[.int .i64 1, .int .i64 ((n : Int) + 1), .string dt, .slice o5 0 p5] 29)).heap.size (w5.alloc (.cells #[.int .i64 1, .int .i64 ((n : Int) + 1), .string dt, .slice o5 0 p5] 29)) v) (by kernel_rfl) (by kernel_rfl) ((Below.refl _ _).drew) ?_
  repeat (first
    | go_big_quiet_skip
    | (go_big_quiet_want
       (first
        | (refine quiet_run (v := ?_) ?_ ?_; rotate_left; (intro u hu; obtain ⟨y0, y1, y2⟩ := FY.out u hu; go_simp <;> with_reducible rfl); simp only [Act.put, List.setIfInBounds_toArray, List.set_cons_zero, List.set_cons_succ]; go_big_quiet_on)
)))
  refine wpQuiet_nil ?_
  intro w6 h6
  have C6 := Lib.hid (C5.out.trans (h6.mono C5.out.size))
  have R6 := Lib.hid (R5.out.keep h6 R5.out.lt)
  clear h6 FY C5 R5 X6 lb6
  go_wp2_with fail
  refine (HT.out _).mono ?_
  rintro e w7 ⟨rfl, B7⟩
  have C7 := Lib.hid (C6.out.trans (B7.mono C6.out.size))
  obtain ⟨⟨r0, r1, r2, r3⟩, _⟩ := (R6.out.keep B7 R6.out.lt).cells
  clear B7
  go_wp2
  go_returns
  exact ⟨rfl, C7.out⟩

set_option maxRecDepth 100000 in
set_option maxHeartbeats 4000000 in
theorem done2 (ao : Option Addr) (n cap : Nat) (L : List VerV) (cl sq id mt : Int) (dt : ByteArray) (quota : Int) (k : Nat) (w : World) (hn : L.length = n) (h60 : n ≤ 60) (hk : k < 100) (hq : (IntKind.u64.wrap quota).tmod 100 = (k : Int)) (hnq : (n : Int) < 1 + (k : Int)) 
    (HV : Hid (∀ u, Below w.heap.size w u → Vers u w.heap.size (.slice ao n cap) L))
    (HF : Hid (∀ u, Below w.heap.size w u → Calls Try.prog 10 #[.slice ao n cap, .agg #[.int .i64 cl, .int .i64 sq, .int .i64 2, .int .i64 id, .int .i64 mt, .string dt]] u fun e w' => e = .returned (.bool true) ∧ Below u.heap.size u w'))
    (HD : Hid (∀ u, Below w.heap.size w u → Calls Try.prog 12 #[.slice ao n cap, .agg #[.int .i64 cl, .int .i64 sq, .int .i64 2, .int .i64 id, .int .i64 mt, .string dt], .int .i64 (1 + (k : Int))] u (DoesN (L ++ [⟨false, dt⟩]) (n + 1) [] 0 1 ((n : Int) + 1) ⟨#[]⟩ u)))
    (HA : Hid (∀ u v, Vers u u.heap.size v (L ++ [⟨false, dt⟩]) → Calls Try.prog 16 #[v, .agg #[.int .i64 0, .int .i64 0, .int .i64 4, .int .i64 0, .int .i64 0, .string ⟨#[]⟩]] u (TellsN [] 0 1 ((n : Int) + 1) dt u)))
    (HVV : Hid (∀ v1 v2 u, Vers u u.heap.size v1 L → Vers u u.heap.size v2 L → Calls Try.prog 14 #[v1, v2] u fun e w' => e = .returned (.bool true) ∧ Below u.heap.size u w')) :
    Calls Try.prog 4 #[.slice ao n cap, .agg #[.int .i64 cl, .int .i64 sq, .int .i64 2, .int .i64 id, .int .i64 mt, .string dt], .int .i64 quota] w fun e w' => e = .returned (.bool true) ∧ Below w.heap.size w w' := by
  have HT := Lib.hid (fun u => told4_any u)
  have HN := Lib.hid hn
  have kp : (0 : Int) ≤ (k : Int) := by omega
  have k100 : (k : Int) < 100 := by omega
  clear hn hk
  go_enter Try.func4, Try.ntmps4
  go_wp2_with fail
  refine (HF.out _ (by go_grown)).mono ?_
  rintro e w1 ⟨rfl, B1⟩
  have C1 := Lib.hid (((Below.refl _ w).alloc (Nat.le_refl _) _).trans (B1.mono (by simp)))
  have D1 : Hid (ReqB w1 w.heap.size cl sq 2 id mt dt) := (ReqB.fresh w _ _ _ _ _ _ 24).keep B1 (by simp)
  clear B1
  obtain ⟨q0, q1, q2, q3, q4, q5⟩ := D1.out.cells
  go_wp2_with fail
  refine (HD.out _ C1.out).mono ?_
  rintro e w2 ⟨a1, c1, o1, p1, rfl, V2, I2, B2⟩
  have B2a := (Below.refl _ w2).alloc (Nat.le_refl _) (.cells #[.int .i64 1, .int .i64 ((n : Int) + 1), .string ⟨#[]⟩, .slice o1 0 p1] 29)
  have C2 := Lib.hid ((C1.out.trans (B2.mono C1.out.size)).trans (B2a.mono (C1.out.trans (B2.mono C1.out.size)).size))
  have D2 := Lib.hid ((D1.out.keep B2 D1.out.lt).keep B2a (D1.out.keep B2 D1.out.lt).lt)
  have V3 := Lib.hid (V2.on B2a)
  have R2 := Lib.hid (RepAt.new w2 1 ((n : Int) + 1) ⟨#[]⟩ (.slice o1 0 p1))
  have F3 : Hid (Vers (w2.alloc (.cells #[.int .i64 1, .int .i64 ((n : Int) + 1), .string ⟨#[]⟩, .slice o1 0 p1] 29)) (w2.alloc (.cells #[.int .i64 1, .int .i64 ((n : Int) + 1), .string ⟨#[]⟩, .slice o1 0 p1] 29)).heap.size (.slice a1 n c1) L) := vers_front V3.out HN.out
  have hcap : (n + 1) ≤ c1 := V3.out.len.2.1
  have hcm : c1 ≤ 140737488355328 ∨ True := .inr trivial
  clear hcm
  obtain ⟨b, off, rfl, hb, hcc⟩ := V3.out.at (by rw [List.length_append]; simp)
  have hx := hcc n (by rw [List.length_append, HN.out]; simp)
  have hat : at' (L ++ [⟨false, dt⟩]) n = ⟨false, dt⟩ := by rw [← HN.out]; exact at_last L _
  rw [hat] at hx
  have X3 := Lib.hid hx
  have lb := Lib.hid hb
  clear hcc hx hat hb
  clear B2 B2a V2 I2 D1 C1 q0 q1 q2 q3 q4 q5
  obtain ⟨q0, q1, q2, q3, q4, q5⟩ := D2.out.cells
  have lq := D2.out.lt
  go_wp2_with fail
  refine (HVV.out _ _ _ F3.out ((HV.out _ C2.out).mono C2.out.size)).mono ?_
  rintro e w3 ⟨rfl, B3⟩
  have C3 := Lib.hid (C2.out.trans (B3.mono C2.out.size))
  have D3 := Lib.hid (D2.out.keep B3 D2.out.lt)
  have R3 := Lib.hid (R2.out.keep B3 R2.out.lt)
  have V4 := Lib.hid (V3.out.on B3)
  have X4 : Hid (w3.cell? ⟨b, off + n * 2, none⟩ = some (.bool false) ∧ w3.cell? ⟨b, off + n * 2 + 1, none⟩ = some (.string dt)) := ⟨(B3.cell (p := ⟨b, off + n * 2, none⟩) lb.out).trans X3.out.1, (B3.cell (p := ⟨b, off + n * 2 + 1, none⟩) lb.out).trans X3.out.2⟩
  have lb4 : Hid (b < w3.heap.size) := Nat.lt_of_lt_of_le lb.out B3.size
  clear B3 D2 R2 C2 F3 V3 q0 q1 q2 q3 q4 q5 lq X3 lb
  have FX : Hid (∀ u, Below w3.heap.size w3 u → u.cell? ⟨w.heap.size, 2, none⟩ = some (.int .i64 2) ∧ u.cell? ⟨w.heap.size, 5, none⟩ = some (.string dt) ∧ u.cell? ⟨w2.heap.size, 1, none⟩ = some (.int .i64 ((n : Int) + 1)) ∧ u.cell? ⟨b, off + n * 2, none⟩ = some (.bool false) ∧ u.cell? ⟨b, off + n * 2 + 1, none⟩ = some (.string dt)) := fun u hu => ⟨(D3.out.keep hu D3.out.lt).cells.2.2.1, (D3.out.keep hu D3.out.lt).cells.2.2.2.2.2, (R3.out.keep hu R3.out.lt).cells.1.2.1, (hu.cell (p := ⟨b, off + n * 2, none⟩) lb4.out).trans X4.out.1, (hu.cell (p := ⟨b, off + n * 2 + 1, none⟩) lb4.out).trans X4.out.2⟩
  go_wp2_with fail
  have n0 : (0 : Int) ≤ (n : Int) := by omega
  have n1 : (n : Int) < (n : Int) + 1 := by omega
  have n2 : (n : Int) < ((n + 1 : Nat) : Int) := by omega
  have HM1 : Hid (¬ 1 + (k : Int) < (n : Int)) := show ¬ _ by omega
  have HM2 : Hid (decide (1 + (k : Int) < (n : Int) + 1) = false) := decide_eq_false (by omega)
  refine region_quiet (fun v => Below w3.heap.size w3 v) (by kernel_rfl) (by kernel_rfl) ((Below.refl _ _).drew) ?_
  repeat (first
    | go_big_quiet_skip
    | (go_big_quiet_want
       (first
        | (refine quiet_run (v := .int .i64 (1 + (k : Int))) ?_ ?_; (focus (intro u hu; go_simp; (first | omega | (intro hh; exact absurd hh HM1.out)))); simp only [Act.put, List.setIfInBounds_toArray, List.set_cons_zero, List.set_cons_succ]; go_big_quiet_on)
        | (refine quiet_run (v := .bool false) ?_ ?_; (focus (intro u hu; go_simp; (first | omega | exact HM2.out))); simp only [Act.put, List.setIfInBounds_toArray, List.set_cons_zero, List.set_cons_succ]; go_big_quiet_on)
        | (refine quiet_run (v := ?_) ?_ ?_; rotate_left; (intro u hu; obtain ⟨x0, x1, x2, x3, x4⟩ := FX.out u hu; go_simp <;> with_reducible rfl); simp only [Act.put, List.setIfInBounds_toArray, List.set_cons_zero, List.set_cons_succ]; go_big_quiet_on)
)))
  refine wpQuiet_nil ?_
  intro w4 h4
  clear HM1 HM2
  have C4 := Lib.hid (C3.out.trans (h4.mono C3.out.size))
  have R4 := Lib.hid (R3.out.keep h4 R3.out.lt)
  have V5 := Lib.hid (V4.out.on h4)
  have X5 : Hid (w4.cell? ⟨b, off + n * 2, none⟩ = some (.bool false)) := (h4.cell (p := ⟨b, off + n * 2, none⟩) lb4.out).trans X4.out.1
  have lb5 : Hid (b < w4.heap.size) := Nat.lt_of_lt_of_le lb4.out h4.size
  clear h4 FX D3 R3 C3 V4 X4 lb4
  go_wp2_with fail
  refine (HA.out _ _ V5.out).mono ?_
  rintro e w5 ⟨o5, p5, rfl, _, B5⟩
  have B5a := (Below.refl _ w5).alloc (Nat.le_refl _) (.cells #[.int .i64 1, .int .i64 ((n : Int) + 1), .string dt, .slice o5 0 p5] 29)
  have C5 := Lib.hid ((C4.out.trans (B5.mono C4.out.size)).trans (B5a.mono (C4.out.trans (B5.mono C4.out.size)).size))
  have R5 := Lib.hid ((R4.out.keep B5 R4.out.lt).keep B5a (R4.out.keep B5 R4.out.lt).lt)
  have S5 := Lib.hid (RepAt.new w5 1 ((n : Int) + 1) dt (.slice o5 0 p5))
  have X6 : Hid (w5.cell? ⟨b, off + n * 2, none⟩ = some (.bool false)) := (B5.cell (p := ⟨b, off + n * 2, none⟩) lb5.out).trans X5.out
  have lb6 : Hid (b < w5.heap.size) := Nat.lt_of_lt_of_le lb5.out B5.size
  have FY : Hid (∀ u, Below (w5.alloc (.cells #[.int .i64 1, .int .i64 ((n : Int) + 1), .string dt, .slice o5 0 p5] 29)).heap.size (w5.alloc (.cells #[.int .i64 1, .int .i64 ((n : Int) + 1), .string dt, .slice o5 0 p5] 29)) u → u.cell? ⟨w5.heap.size, 0, none⟩ = some (.int .i64 1) ∧ u.cell? ⟨w5.heap.size, 1, none⟩ = some (.int .i64 ((n : Int) + 1)) ∧ u.cell? ⟨b, off + n * 2, none⟩ = some (.bool false)) :=
    fun u hu => ⟨(S5.out.keep hu S5.out.lt).cells.1.1, (S5.out.keep hu S5.out.lt).cells.1.2.1, ((B5a.trans (hu.mono B5a.size)).cell (p := ⟨b, off + n * 2, none⟩) lb6.out).trans X6.out⟩
  clear B5 B5a C4 R4 V5 X5 lb5 S5
  go_wp2_with fail
  refine region_quiet (fun v => Below (w5.alloc (.cells #[.int .i64 1, .int .i64 ((n : Int) + 1), .string dt, .slice o5 0 p5] 29)).heap.size (w5.alloc (.cells #[.int .i64 1, .int .i64 ((n : Int) + 1), .string dt, .slice o5 0 p5] 29)) v) (by kernel_rfl) (by kernel_rfl) ((Below.refl _ _).drew) ?_
  repeat (first
    | go_big_quiet_skip
    | (go_big_quiet_want
       (first
        | (refine quiet_run (v := ?_) ?_ ?_; rotate_left; (intro u hu; obtain ⟨y0, y1, y2⟩ := FY.out u hu; go_simp <;> with_reducible rfl); simp only [Act.put, List.setIfInBounds_toArray, List.set_cons_zero, List.set_cons_succ]; go_big_quiet_on)
)))
  refine wpQuiet_nil ?_
  intro w6 h6
  have C6 := Lib.hid (C5.out.trans (h6.mono C5.out.size))
  have R6 := Lib.hid (R5.out.keep h6 R5.out.lt)
  clear h6 FY C5 R5 X6 lb6
  go_wp2_with fail
  refine (HT.out _).mono ?_
  rintro e w7 ⟨rfl, B7⟩
  have C7 := Lib.hid (C6.out.trans (B7.mono C6.out.size))
  obtain ⟨⟨r0, r1, r2, r3⟩, _⟩ := (R6.out.keep B7 R6.out.lt).cells
  clear B7
  go_wp2
  go_returns
  exact ⟨rfl, C7.out⟩

set_option maxRecDepth 100000 in
set_option maxHeartbeats 4000000 in
theorem done3 (ao : Option Addr) (n cap : Nat) (L : List VerV) (cl sq id mt : Int) (dt : ByteArray) (quota : Int) (k : Nat) (w : World) (hn : L.length = n) (h60 : n ≤ 60) (hk : k < 100) (hq : (IntKind.u64.wrap quota).tmod 100 = (k : Int)) (hnq : (n : Int) < 1 + (k : Int)) 
    (HV : Hid (∀ u, Below w.heap.size w u → Vers u w.heap.size (.slice ao n cap) L))
    (HF : Hid (∀ u, Below w.heap.size w u → Calls Try.prog 10 #[.slice ao n cap, .agg #[.int .i64 cl, .int .i64 sq, .int .i64 3, .int .i64 id, .int .i64 mt, .string dt]] u fun e w' => e = .returned (.bool true) ∧ Below u.heap.size u w'))
    (HD : Hid (∀ u, Below w.heap.size w u → Calls Try.prog 12 #[.slice ao n cap, .agg #[.int .i64 cl, .int .i64 sq, .int .i64 3, .int .i64 id, .int .i64 mt, .string dt], .int .i64 (1 + (k : Int))] u (DoesN (L ++ [⟨true, ⟨#[]⟩⟩]) (n + 1) [] 0 1 ((n : Int) + 1) ⟨#[]⟩ u)))
    (HA : Hid (∀ u v, Vers u u.heap.size v (L ++ [⟨true, ⟨#[]⟩⟩]) → Calls Try.prog 16 #[v, .agg #[.int .i64 0, .int .i64 0, .int .i64 4, .int .i64 0, .int .i64 0, .string ⟨#[]⟩]] u (TellsN [] 0 3 ((n : Int) + 1) ⟨#[]⟩ u)))
    (HVV : Hid (∀ v1 v2 u, Vers u u.heap.size v1 L → Vers u u.heap.size v2 L → Calls Try.prog 14 #[v1, v2] u fun e w' => e = .returned (.bool true) ∧ Below u.heap.size u w')) :
    Calls Try.prog 4 #[.slice ao n cap, .agg #[.int .i64 cl, .int .i64 sq, .int .i64 3, .int .i64 id, .int .i64 mt, .string dt], .int .i64 quota] w fun e w' => e = .returned (.bool true) ∧ Below w.heap.size w w' := by
  have HT := Lib.hid (fun u => told4_any u)
  have HN := Lib.hid hn
  have kp : (0 : Int) ≤ (k : Int) := by omega
  have k100 : (k : Int) < 100 := by omega
  clear hn hk
  go_enter Try.func4, Try.ntmps4
  go_wp2_with fail
  refine (HF.out _ (by go_grown)).mono ?_
  rintro e w1 ⟨rfl, B1⟩
  have C1 := Lib.hid (((Below.refl _ w).alloc (Nat.le_refl _) _).trans (B1.mono (by simp)))
  have D1 : Hid (ReqB w1 w.heap.size cl sq 3 id mt dt) := (ReqB.fresh w _ _ _ _ _ _ 24).keep B1 (by simp)
  clear B1
  obtain ⟨q0, q1, q2, q3, q4, q5⟩ := D1.out.cells
  go_wp2_with fail
  refine (HD.out _ C1.out).mono ?_
  rintro e w2 ⟨a1, c1, o1, p1, rfl, V2, I2, B2⟩
  have B2a := (Below.refl _ w2).alloc (Nat.le_refl _) (.cells #[.int .i64 1, .int .i64 ((n : Int) + 1), .string ⟨#[]⟩, .slice o1 0 p1] 29)
  have C2 := Lib.hid ((C1.out.trans (B2.mono C1.out.size)).trans (B2a.mono (C1.out.trans (B2.mono C1.out.size)).size))
  have D2 := Lib.hid ((D1.out.keep B2 D1.out.lt).keep B2a (D1.out.keep B2 D1.out.lt).lt)
  have V3 := Lib.hid (V2.on B2a)
  have R2 := Lib.hid (RepAt.new w2 1 ((n : Int) + 1) ⟨#[]⟩ (.slice o1 0 p1))
  have F3 : Hid (Vers (w2.alloc (.cells #[.int .i64 1, .int .i64 ((n : Int) + 1), .string ⟨#[]⟩, .slice o1 0 p1] 29)) (w2.alloc (.cells #[.int .i64 1, .int .i64 ((n : Int) + 1), .string ⟨#[]⟩, .slice o1 0 p1] 29)).heap.size (.slice a1 n c1) L) := vers_front V3.out HN.out
  have hcap : (n + 1) ≤ c1 := V3.out.len.2.1
  have hcm : c1 ≤ 140737488355328 ∨ True := .inr trivial
  clear hcm
  obtain ⟨b, off, rfl, hb, hcc⟩ := V3.out.at (by rw [List.length_append]; simp)
  have hx := hcc n (by rw [List.length_append, HN.out]; simp)
  have hat : at' (L ++ [⟨true, ⟨#[]⟩⟩]) n = ⟨true, ⟨#[]⟩⟩ := by rw [← HN.out]; exact at_last L _
  rw [hat] at hx
  have X3 := Lib.hid hx
  have lb := Lib.hid hb
  clear hcc hx hat hb
  clear B2 B2a V2 I2 D1 C1 q0 q1 q2 q3 q4 q5
  obtain ⟨q0, q1, q2, q3, q4, q5⟩ := D2.out.cells
  have lq := D2.out.lt
  go_wp2_with fail
  refine (HVV.out _ _ _ F3.out ((HV.out _ C2.out).mono C2.out.size)).mono ?_
  rintro e w3 ⟨rfl, B3⟩
  have C3 := Lib.hid (C2.out.trans (B3.mono C2.out.size))
  have D3 := Lib.hid (D2.out.keep B3 D2.out.lt)
  have R3 := Lib.hid (R2.out.keep B3 R2.out.lt)
  have V4 := Lib.hid (V3.out.on B3)
  have X4 : Hid (w3.cell? ⟨b, off + n * 2, none⟩ = some (.bool true) ∧ w3.cell? ⟨b, off + n * 2 + 1, none⟩ = some (.string ⟨#[]⟩)) := ⟨(B3.cell (p := ⟨b, off + n * 2, none⟩) lb.out).trans X3.out.1, (B3.cell (p := ⟨b, off + n * 2 + 1, none⟩) lb.out).trans X3.out.2⟩
  have lb4 : Hid (b < w3.heap.size) := Nat.lt_of_lt_of_le lb.out B3.size
  clear B3 D2 R2 C2 F3 V3 q0 q1 q2 q3 q4 q5 lq X3 lb
  have FX : Hid (∀ u, Below w3.heap.size w3 u → u.cell? ⟨w.heap.size, 2, none⟩ = some (.int .i64 3) ∧ u.cell? ⟨w.heap.size, 5, none⟩ = some (.string dt) ∧ u.cell? ⟨w2.heap.size, 1, none⟩ = some (.int .i64 ((n : Int) + 1)) ∧ u.cell? ⟨b, off + n * 2, none⟩ = some (.bool true) ∧ u.cell? ⟨b, off + n * 2 + 1, none⟩ = some (.string ⟨#[]⟩)) := fun u hu => ⟨(D3.out.keep hu D3.out.lt).cells.2.2.1, (D3.out.keep hu D3.out.lt).cells.2.2.2.2.2, (R3.out.keep hu R3.out.lt).cells.1.2.1, (hu.cell (p := ⟨b, off + n * 2, none⟩) lb4.out).trans X4.out.1, (hu.cell (p := ⟨b, off + n * 2 + 1, none⟩) lb4.out).trans X4.out.2⟩
  go_wp2_with fail
  have n0 : (0 : Int) ≤ (n : Int) := by omega
  have n1 : (n : Int) < (n : Int) + 1 := by omega
  have n2 : (n : Int) < ((n + 1 : Nat) : Int) := by omega
  have HM1 : Hid (¬ 1 + (k : Int) < (n : Int)) := show ¬ _ by omega
  have HM2 : Hid (decide (1 + (k : Int) < (n : Int) + 1) = false) := decide_eq_false (by omega)
  refine region_quiet (fun v => Below w3.heap.size w3 v) (by kernel_rfl) (by kernel_rfl) ((Below.refl _ _).drew) ?_
  repeat (first
    | go_big_quiet_skip
    | (go_big_quiet_want
       (first
        | (refine quiet_run (v := .int .i64 (1 + (k : Int))) ?_ ?_; (focus (intro u hu; go_simp; (first | omega | (intro hh; exact absurd hh HM1.out)))); simp only [Act.put, List.setIfInBounds_toArray, List.set_cons_zero, List.set_cons_succ]; go_big_quiet_on)
        | (refine quiet_run (v := .bool false) ?_ ?_; (focus (intro u hu; go_simp; (first | omega | exact HM2.out))); simp only [Act.put, List.setIfInBounds_toArray, List.set_cons_zero, List.set_cons_succ]; go_big_quiet_on)
        | (refine quiet_run (v := ?_) ?_ ?_; rotate_left; (intro u hu; obtain ⟨x0, x1, x2, x3, x4⟩ := FX.out u hu; go_simp <;> with_reducible rfl); simp only [Act.put, List.setIfInBounds_toArray, List.set_cons_zero, List.set_cons_succ]; go_big_quiet_on)
)))
  refine wpQuiet_nil ?_
  intro w4 h4
  clear HM1 HM2
  have C4 := Lib.hid (C3.out.trans (h4.mono C3.out.size))
  have R4 := Lib.hid (R3.out.keep h4 R3.out.lt)
  have V5 := Lib.hid (V4.out.on h4)
  have X5 : Hid (w4.cell? ⟨b, off + n * 2, none⟩ = some (.bool true)) := (h4.cell (p := ⟨b, off + n * 2, none⟩) lb4.out).trans X4.out.1
  have lb5 : Hid (b < w4.heap.size) := Nat.lt_of_lt_of_le lb4.out h4.size
  clear h4 FX D3 R3 C3 V4 X4 lb4
  go_wp2_with fail
  refine (HA.out _ _ V5.out).mono ?_
  rintro e w5 ⟨o5, p5, rfl, _, B5⟩
  have B5a := (Below.refl _ w5).alloc (Nat.le_refl _) (.cells #[.int .i64 3, .int .i64 ((n : Int) + 1), .string ⟨#[]⟩, .slice o5 0 p5] 29)
  have C5 := Lib.hid ((C4.out.trans (B5.mono C4.out.size)).trans (B5a.mono (C4.out.trans (B5.mono C4.out.size)).size))
  have R5 := Lib.hid ((R4.out.keep B5 R4.out.lt).keep B5a (R4.out.keep B5 R4.out.lt).lt)
  have S5 := Lib.hid (RepAt.new w5 3 ((n : Int) + 1) ⟨#[]⟩ (.slice o5 0 p5))
  have X6 : Hid (w5.cell? ⟨b, off + n * 2, none⟩ = some (.bool true)) := (B5.cell (p := ⟨b, off + n * 2, none⟩) lb5.out).trans X5.out
  have lb6 : Hid (b < w5.heap.size) := Nat.lt_of_lt_of_le lb5.out B5.size
  have FY : Hid (∀ u, Below (w5.alloc (.cells #[.int .i64 3, .int .i64 ((n : Int) + 1), .string ⟨#[]⟩, .slice o5 0 p5] 29)).heap.size (w5.alloc (.cells #[.int .i64 3, .int .i64 ((n : Int) + 1), .string ⟨#[]⟩, .slice o5 0 p5] 29)) u → u.cell? ⟨w5.heap.size, 0, none⟩ = some (.int .i64 3) ∧ u.cell? ⟨w5.heap.size, 1, none⟩ = some (.int .i64 ((n : Int) + 1)) ∧ u.cell? ⟨b, off + n * 2, none⟩ = some (.bool true)) :=
    fun u hu => ⟨(S5.out.keep hu S5.out.lt).cells.1.1, (S5.out.keep hu S5.out.lt).cells.1.2.1, ((B5a.trans (hu.mono B5a.size)).cell (p := ⟨b, off + n * 2, none⟩) lb6.out).trans X6.out⟩
  clear B5 B5a C4 R4 V5 X5 lb5 S5
  go_wp2_with fail
  refine region_quiet (fun v => Below (w5.alloc (.cells #[.int .i64 3, .int .i64 ((n : Int) + 1), .string ⟨#[]⟩, .slice o5 0 p5] 29)).heap.size (w5.alloc (.cells #[.int .i64 3, .int .i64 ((n : Int) + 1), .string ⟨#[]⟩, .slice o5 0 p5] 29)) v) (by kernel_rfl) (by kernel_rfl) ((Below.refl _ _).drew) ?_
  repeat (first
    | go_big_quiet_skip
    | (go_big_quiet_want
       (first
        | (refine quiet_run (v := ?_) ?_ ?_; rotate_left; (intro u hu; obtain ⟨y0, y1, y2⟩ := FY.out u hu; go_simp <;> with_reducible rfl); simp only [Act.put, List.setIfInBounds_toArray, List.set_cons_zero, List.set_cons_succ]; go_big_quiet_on)
)))
  refine wpQuiet_nil ?_
  intro w6 h6
  have C6 := Lib.hid (C5.out.trans (h6.mono C5.out.size))
  have R6 := Lib.hid (R5.out.keep h6 R5.out.lt)
  clear h6 FY C5 R5 X6 lb6
  go_wp2_with fail
  refine (HT.out _).mono ?_
  rintro e w7 ⟨rfl, B7⟩
  have C7 := Lib.hid (C6.out.trans (B7.mono C6.out.size))
  obtain ⟨⟨r0, r1, r2, r3⟩, _⟩ := (R6.out.keep B7 R6.out.lt).cells
  clear B7
  go_wp2
  go_returns
  exact ⟨rfl, C7.out⟩

theorem walk (v : Value) (L : List VerV) (cl sq kd id mt : Int) (dt : ByteArray) (quota : Int) (w : World) (hV : Vers w w.heap.size v L ∧ ∀ x ∈ L, x.data.size ≤ maxLen) (hd : dt.size ≤ maxLen) (_ : (Lit.int .i64 quota).wf = true) :
    Calls Try.prog 4 #[v, .agg #[.int .i64 cl, .int .i64 sq, .int .i64 kd, .int .i64 id, .int .i64 mt, .string dt], .int .i64 quota] w fun e w' => e = .returned (.bool true) ∧ Below w.heap.size w w' := by
  obtain ⟨hV, hs⟩ := hV
  obtain ⟨ao, cap, rfl⟩ := hV.shape
  have HF : ∀ R, R = decide (fewV L dt) → Hid (∀ u, Below w.heap.size w u → Calls Try.prog 10 #[.slice ao L.length cap, .agg #[.int .i64 cl, .int .i64 sq, .int .i64 kd, .int .i64 id, .int .i64 mt, .string dt]] u fun e w' => e = .returned (.bool R) ∧ Below u.heap.size u w') :=
    fun R hR u hu => few_r _ L cl sq kd id mt dt hd u (hV.on hu) hs R hR
  by_cases hf : fewV L dt
  case neg => exact notfew ao _ cap cl sq kd id mt dt quota w (HF false (decide_eq_false hf).symm)
  have h60 := hf.1
  obtain ⟨k, hk, hq⟩ := modn quota 100 (by decide)
  have hk' : k < 100 := by omega
  have HV : Hid (∀ u, Below w.heap.size w u → Vers u w.heap.size (.slice ao L.length cap) L) := fun u hu => hV.keep hu
  have HVV : Hid (∀ v1 v2 u, Vers u u.heap.size v1 L → Vers u u.heap.size v2 L → Calls Try.prog 14 #[v1, v2] u fun e w' => e = .returned (.bool true) ∧ Below u.heap.size u w') := by
    intro v1 v2 u h1 h2
    have h := versions_any v1 v2 L L _ u h1 h2 (Nat.le_refl _) (by omega)
    rwa [decide_eq_true rfl] at h
  have HD : ∀ (M : List VerV) (n' : Nat) (c r : Int) (d : ByteArray) (l : List Int) (lm : Nat), doL L kd mt dt (1 + (k : Int)) = M → doR L kd mt (1 + (k : Int)) = ⟨c, r, d, l⟩ → M.length = n' → l.length = lm →
      Hid (∀ u, Below w.heap.size w u → Calls Try.prog 12 #[.slice ao L.length cap, .agg #[.int .i64 cl, .int .i64 sq, .int .i64 kd, .int .i64 id, .int .i64 mt, .string dt], .int .i64 (1 + (k : Int))] u (DoesN M n' l lm c r d u)) :=
    fun M n' c r d l lm h1 h2 h3 h4 u hu => do_n _ L M n' _ cl sq kd id mt dt _ c r d l lm h1 h2 h3 h4 u (hV.on hu) (Nat.le_refl _) (by omega)
  by_cases hw : wrV kd = true
  case neg =>
    have hn : kd ≠ 1 ∧ kd ≠ 2 ∧ kd ≠ 3 := by
      refine ⟨?_, ?_, ?_⟩ <;> (intro h; subst h; exact hw rfl)
    obtain ⟨⟨c, r, d, l⟩, hR⟩ : ∃ x, doR L kd mt (1 + (k : Int)) = x := ⟨_, rfl⟩
    have hL : doL L kd mt dt (1 + (k : Int)) = L := by unfold doL; rw [if_neg (fun h => hw h.1)]
    exact asks ao _ cap L cl sq kd id mt dt quota k c r d l l.length w rfl h60 hk' hq hn.1 hn.2.1 hn.2.2 HV (HF true (decide_eq_true hf).symm) (HD L _ c r d l _ hL hR rfl rfl) HVV
  have hkd : kd = 1 ∨ kd = 2 ∨ kd = 3 := by simpa [wrV, or_assoc] using hw
  by_cases hv : verdV L kd mt (1 + (k : Int)) = 1
  case neg =>
    have h := do_none L kd mt dt (1 + (k : Int)) _ hw rfl hv
    rcases hkd with rfl | rfl | rfl
    · exact refused1 ao _ cap L cl sq id mt dt quota k _ _ w rfl h60 hk' hq hv HV (HF true (decide_eq_true hf).symm) (HD L _ _ _ ⟨#[]⟩ [] 0 h.1 h.2 rfl rfl) HVV
    · exact refused2 ao _ cap L cl sq id mt dt quota k _ _ w rfl h60 hk' hq hv HV (HF true (decide_eq_true hf).symm) (HD L _ _ _ ⟨#[]⟩ [] 0 h.1 h.2 rfl rfl) HVV
    · exact refused3 ao _ cap L cl sq id mt dt quota k _ _ w rfl h60 hk' hq hv HV (HF true (decide_eq_true hf).symm) (HD L _ _ _ ⟨#[]⟩ [] 0 h.1 h.2 rfl rfl) HVV
  have hnq : (L.length : Int) < 1 + (k : Int) := by
    have h2 := hv
    unfold verdV at h2
    split at h2
    · omega
    split at h2
    · rename_i h3; exact absurd h2 h3.2
    split at h2
    · omega
    split at h2
    · omega
    · omega
  have h := do_one L kd mt dt (1 + (k : Int)) hw hv
  have HA : ∀ (g : Bool) (dd : ByteArray) (c : Int) (d : ByteArray), (if g = true then ((3 : Int), (⟨#[]⟩ : ByteArray)) else (1, dd)) = (c, d) → Hid (∀ u v, Vers u u.heap.size v (L ++ [⟨g, dd⟩]) → Calls Try.prog 16 #[v, .agg #[.int .i64 0, .int .i64 0, .int .i64 4, .int .i64 0, .int .i64 0, .string ⟨#[]⟩]] u (TellsN [] 0 c ((L.length : Int) + 1) d u)) := by
    intro g dd c d hcd u v hv
    refine ask_n v _ _ 0 0 4 0 0 ⟨#[]⟩ c _ d [] 0 (show _ = _ from ?_) rfl u hv (Nat.le_refl _) (by rw [List.length_append]; simp; omega)
    have hl : ((L ++ [⟨g, dd⟩] : List VerV).length : Int) = (L.length : Int) + 1 := by rw [List.length_append]; simp
    unfold askV rdV
    rw [if_pos rfl, hl, if_neg (by omega), show ((L.length : Int) + 1 - 1).toNat = L.length by omega, at_last]
    cases g
    · obtain ⟨rfl, rfl⟩ : 1 = c ∧ dd = d := by simpa using hcd
      rfl
    · obtain ⟨rfl, rfl⟩ : 3 = c ∧ (⟨#[]⟩ : ByteArray) = d := by simpa using hcd
      rfl
  rcases hkd with rfl | rfl | rfl
  · exact done1 ao _ cap L cl sq id mt dt quota k w rfl h60 hk' hq hnq HV (HF true (decide_eq_true hf).symm) (HD _ (L.length + 1) 1 _ ⟨#[]⟩ [] 0 h.1 h.2 (by rw [List.length_append]; rfl) rfl) (HA false dt 1 dt rfl) HVV
  · exact done2 ao _ cap L cl sq id mt dt quota k w rfl h60 hk' hq hnq HV (HF true (decide_eq_true hf).symm) (HD _ (L.length + 1) 1 _ ⟨#[]⟩ [] 0 h.1 h.2 (by rw [List.length_append]; rfl) rfl) (HA false dt 1 dt rfl) HVV
  · exact done3 ao _ cap L cl sq id mt dt quota k w rfl h60 hk' hq hnq HV (HF true (decide_eq_true hf).symm) (HD _ (L.length + 1) 1 _ ⟨#[]⟩ [] 0 h.1 h.2 (by rw [List.length_append]; rfl) rfl) (HA true ⟨#[]⟩ 3 ⟨#[]⟩ rfl) HVV

set_option maxRecDepth 100000 in
theorem lifted (os : Os) (started : os.Started) (H : Type) (enc : TypeId × Value → H) :
    ReturnsInHanded {} Try.checked os 4 .any (Rows.chartGrowsSpec.pre6 enc Try.prog Try.f4 Rows.chartGrowsRow.domain false) (Rows.chartGrowsSpec.post enc Try.prog Try.f4 false true false false) := by
  refine returnsInHanded_of_change (C := Try.checked) own started (by kernel_rfl) Try.func4
    (ChangeSpec.witness6 (enc := enc) (C := Try.checked) false ⟨#[], #[.slice none 0 0, .agg #[.int .i64 0, .int .i64 0, .int .i64 0, .int .i64 0, .int .i64 0, .string ByteArray.empty], .int .i64 0], []⟩ 8 (by kernel_rfl) (by kernel_rfl) (by kernel_rfl) (by kernel_rfl)) ?_
  intro W base args ds gs before hval0 hW hcnd _
  have hval : ∀ (j : Nat) t v, Try.f4.params[j]? = some t → args[j]? = some v → Value.okWide Try.prog W .any base t v := hval0
  have hW' := hW
  obtain ⟨p, q, hA0, hV, rfl, hfz, hnd⟩ := hW
  have hA : DataW.TrodAll enc Try.prog W 0 (fun _ => true) true Try.f4.params.toList args.toList ds p := hA0
  rw [Try.params4] at hA hval
  obtain ⟨v0, vs0, d0, ds0, p0, q0, hargs, rfl, rfl, h0, r0⟩ := trodAll_cons hA
  obtain ⟨v1, vs1, d1, ds1, p1, q1, rfl, rfl, rfl, h1, r1⟩ := trodAll_cons r0
  obtain ⟨v2, vs2, d2, ds2, p2, q2, rfl, rfl, rfl, h2, r2⟩ := trodAll_cons r1
  obtain ⟨rfl, rfl, rfl⟩ := trodAll_nil r2
  obtain rfl : args = #[v0, v1, v2] := by cases args; simp_all
  obtain ⟨rfl, rfl⟩ := trodVars_none hV
  obtain ⟨a0, len0, cap0, rfl⟩ := okWide_slice Try.underlying22 (hval 0 22 v0 rfl rfl)
  have k0 := h0
  have lt0 : ∀ x ∈ p0, x.block < W.heap.size := by obtain ⟨m, hm⟩ := k0; exact DataW.trod_lt m _ _ _ hm
  obtain ⟨l0, w0⟩ := vers_open h0
  have k1 := h1
  have lt1 : ∀ x ∈ p1, x.block < W.heap.size := by obtain ⟨m, hm⟩ := k1; exact DataW.trod_lt m _ _ _ hm
  obtain ⟨⟨xa1, xb1, xc1, xd1, xe1, xf1⟩, w1, rfl⟩ := req_open (hval 1 24 v1 rfl rfl) h1
  obtain ⟨a2, rfl, rfl, rfl, w2⟩ := open_int Try.underlying3 (hval 2 3 v2 rfl rfl) h2
  clear hA0 hval0
  refine (walk (.slice a0 len0 cap0) l0 xa1 xb1 xc1 xd1 xe1 xf1 a2 W w0 w1 w2).mono fun e W' ⟨he, bel⟩ => ?_
  subst he
  exact ⟨_, rfl, _, _, _, [], _, [], hW', trodAll_mk1 (shut_bool Try.underlying4 _), (trodAll_cons_mk (Below.trod laidOut (by kernel_rfl) (of_decide_eq_true (by kernel_rfl)) k0 bel lt0) (trodAll_cons_mk (Below.trod laidOut (by kernel_rfl) (of_decide_eq_true (by kernel_rfl)) k1 bel lt1) (trodAll_cons_mk (shut_int Try.underlying3 w2) trodAll_mk0))), rfl, bel.frame _, fun h => by cases h⟩

theorem over : Rows.chartGrowsRow.holds Try.pinned (OpenSpec.ofChange Rows.chartGrowsSpec) :=
  OpenClaim.holds_of_wide 4 Try.f4 rfl rfl rfl rfl rfl rfl rfl ⟨rfl, rfl, rfl, rfl, rfl⟩ rfl rfl rfl rfl rfl (by kernel_rfl) Try.func4 (by kernel_rfl)
    (of_decide_eq_true (by kernel_rfl)) (by unfold Func.isWrapper; first | (rw [if_pos (by decide +kernel)]; kernel_rfl) | (rw [if_neg (by decide +kernel)]; exact ⟨rfl, rfl⟩))
    (fun os started H enc _ => lifted os started H enc)
end Go.Proofs.Ytichojlijhnlpaa.ChartGrows

namespace Go.Proofs.Ytichojlijhnlpaa
theorem chartGrows_holds : Rows.ChartGrowsSaid := ChartGrows.over
#print axioms chartGrows_holds
end Go.Proofs.Ytichojlijhnlpaa
