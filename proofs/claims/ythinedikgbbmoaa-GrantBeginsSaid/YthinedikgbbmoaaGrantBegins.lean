/-
  PROVED: casebooklaw15.GrantBegins answers true and leaves its arguments as they were, for any numbers: the row's own reading and nothing else is assumed.
-/
import Derived.Test.YthinedikgbbmoaaGrantT
import Derived.Test.YthinedikgbbmoaaPackT
namespace Go.Proofs.Ythinedikgbbmoaa.GrantBegins
open Go.ChangeShapes Go.WideShapes Go.ChangeAt Go.RowKit

theorem left_to (z : Int) (q : Nat) (hq : 0 < q) (hq2 : q ≤ 100000) : ∃ t : Nat, t < q ∧ wrap64 ((IntKind.u64.wrap z).tmod (q : Int)) = (t : Int) := by
  have h0 : 0 ≤ IntKind.u64.wrap z := by rw [IntKind.wrap_u64]; omega
  have h1 := Int.tmod_nonneg (q : Int) h0
  have h2 := Int.tmod_lt_of_pos (IntKind.u64.wrap z) (show (0 : Int) < (q : Int) by omega)
  refine ⟨((IntKind.u64.wrap z).tmod (q : Int)).toNat, by omega, ?_⟩
  rw [IntWalk.wrap64_in _ (by omega)]
  omega
theorem next_of {k : Nat} (_ : k < 3) (c : Nat) (hc : c = 1 ∨ c = 2) : ∃ x : Nat, ((k : Int) + (c : Int)) % 3 = (x : Int) ∧ x < 3 ∧ x ≠ k ∧ x = (k + c) % 3 := ⟨(k + c) % 3, by omega, by omega, by omega, rfl⟩
theorem turned {t d k : Nat} (hk : k < 3) : upF (grOf t 3) k (max (grOf t 3 k) (t + d + 50)) = upF (grOf t 3) k (t + d + 50) := by
  rw [show grOf t 3 k = t + 50 by simp [grOf, hk], show max (t + 50) (t + d + 50) = t + d + 50 by omega]
theorem veto_begin {t d k x y : Nat} (hk : k < 3) (hx : x ≠ k) (hy : y ≠ k) (hxy : x ≠ y) (_ : x < 3) (_ : y < 3) : vetoV 3 (grOf t 3) ((t : Int) + (d : Int)) [0, 1, 2] [(x : Int), (y : Int)] = decide (d < 50) := by
  unfold vetoV
  refine decide_eq_decide.2 ⟨fun ⟨j, hj, hl, _, _⟩ => ?_, fun h => ⟨k, hk, ?_, ?_, ?_⟩⟩
  · simp only [grOf, if_pos hj] at hl
    omega
  · simp only [grOf, if_pos hk]
    omega
  · rcases (show k = 0 ∨ k = 1 ∨ k = 2 by omega) with rfl | rfl | rfl <;> simp
  · simp only [List.mem_cons, List.not_mem_nil, or_false, not_or]
    omega

set_option maxRecDepth 100000 in
set_option maxHeartbeats 4000000 in
theorem walk (x y z : Int) (w : World) (_hx : (Lit.int .i64 x).wf = true) (_hy : (Lit.int .i64 y).wf = true) (_hz : (Lit.int .i64 z).wf = true) :
    Calls Try.prog 5 #[.int .i64 x, .int .i64 y, .int .i64 z] w fun e w' => e = .returned (.bool true) ∧ Below w.heap.size w w' := by
  have HT := Lib.hid (fun u => told15_any u)
  obtain ⟨t, ht, et⟩ := left_to x 1001 (by decide) (by decide)
  obtain ⟨d, hd, ed⟩ := left_to y 200 (by decide) (by decide)
  obtain ⟨k, hk, ek⟩ := left_to z 3 (by decide) (by decide)
  obtain ⟨a, ha, ha3, hak, hae⟩ := next_of hk 1 (.inl rfl)
  obtain ⟨c, hc, hc3, hck, hce⟩ := next_of hk 2 (.inr rfl)
  have ET : Hid (wrap64 ((IntKind.u64.wrap x).tmod 1001) = (t : Int)) := et
  have ED : Hid (wrap64 ((IntKind.u64.wrap y).tmod 200) = (d : Int)) := ed
  have EK : Hid (wrap64 ((IntKind.u64.wrap z).tmod 3) = (k : Int)) := ek
  have EA : Hid (((k : Int) + 1) % 3 = (a : Int)) := ha
  have EC : Hid (((k : Int) + 2) % 3 = (c : Int)) := hc
  obtain ⟨F, hF⟩ : ∃ F, F = upF (grOf t 3) k (t + d + 50) := ⟨_, rfl⟩
  have fk : F k = t + d + 50 := by rw [hF, upF_same]
  have fa : F a = t + 50 := by rw [hF, upF_other _ hak]; simp [grOf, ha3]
  obtain ⟨R, hR⟩ : ∃ R, R = decide (d < 50) := ⟨_, rfl⟩
  obtain ⟨n, hn⟩ : ∃ n, n = w.heap.size := ⟨_, rfl⟩
  rw [← hn]
  have HN : Hid (Calls Try.prog 6 #[.int .i64 3, .int .i64 t] w fun e w' => ∃ p, e = .returned (.tuple #[.pointer (some ⟨p, 0, none⟩), .int .i64 0]) ∧ Hid (GO n w p 3 t (grOf t 3) w' ∧ Below w.heap.size w w')) :=
    go_new 3 t w (by decide) (by decide) (by omega) (Below.refl _ _) (Nat.le_of_eq hn)
  have HV : Hid (∀ u p q1 v1 q2 v2, GT n w p 3 t (grOf t 3) q1 1 v1 [0, 1, 2] q2 2 v2 [(a : Int), (c : Int)] u → Calls Try.prog 9 #[.pointer (some ⟨p, 0, none⟩), .int .i64 ((t : Int) + (d : Int)), .agg #[.int .i64 1, v1], .agg #[.int .i64 2, v2]] u fun e w' => e = .returned (.bool R) ∧ Hid (GT n w p 3 t (grOf t 3) q1 1 v1 [0, 1, 2] q2 2 v2 [(a : Int), (c : Int)] w')) :=
    fun u p q1 v1 q2 v2 hu => (hu.g.veto _ 1 v1 [0, 1, 2] (by decide) 2 v2 [(a : Int), (c : Int)] (by simp) hu.x1 hu.x2 ((veto_begin hk hak hck (by omega) ha3 hc3).trans hR.symm)).mono fun _ _ ⟨he, hb⟩ => ⟨he, hu.step hb⟩
  have HE : Hid (∀ u p q1 v1 q2 v2, GT n w p 3 t (grOf t 3) q1 1 v1 [0, 1, 2] q2 2 v2 [(a : Int), (c : Int)] u → Calls Try.prog 7 #[.pointer (some ⟨p, 0, none⟩), .int .i64 ((t : Int) - 1), .int .i64 k] u fun e w' => e = .returned (.bool false) ∧ u = w') :=
    fun u p q1 v1 q2 v2 hu => grgive_no hu.g.gr _ _ (by omega)
  have HG : Hid (∀ u p q1 v1 q2 v2, GT n w p 3 t (grOf t 3) q1 1 v1 [0, 1, 2] q2 2 v2 [(a : Int), (c : Int)] u → Calls Try.prog 7 #[.pointer (some ⟨p, 0, none⟩), .int .i64 ((t : Int) + (d : Int)), .int .i64 k] u fun e w' => e = .returned (.bool true) ∧ Hid (GT n w p 3 t F q1 1 v1 [0, 1, 2] q2 2 v2 [(a : Int), (c : Int)] w')) :=
    fun u p q1 v1 q2 v2 hu => hu.give (t + d) k hk (by omega) (by omega) ((turned hk).trans hF.symm)
  have HU : Hid (∀ u p q1 v1 q2 v2, GT n w p 3 t F q1 1 v1 [0, 1, 2] q2 2 v2 [(a : Int), (c : Int)] u → Calls Try.prog 10 #[.pointer (some ⟨p, 0, none⟩), .int .i64 k] u fun e w' => e = .returned (.int .i64 ((t : Int) + (d : Int) + 50)) ∧ u = w') :=
    fun u p q1 v1 q2 v2 hu => (gruntil_yes hu.g.gr k hk).mono fun _ _ ⟨he, hb⟩ => ⟨by rw [he, fk]; rfl, hb⟩
  have HA : Hid (∀ u p q1 v1 q2 v2, GT n w p 3 t F q1 1 v1 [0, 1, 2] q2 2 v2 [(a : Int), (c : Int)] u → Calls Try.prog 10 #[.pointer (some ⟨p, 0, none⟩), .int .i64 a] u fun e w' => e = .returned (.int .i64 ((t : Int) + 50)) ∧ u = w') :=
    fun u p q1 v1 q2 v2 hu => (gruntil_yes hu.g.gr a ha3).mono fun _ _ ⟨he, hb⟩ => ⟨by rw [he, fa]; rfl, hb⟩
  have H3 : Hid (∀ u p q1 v1 q2 v2, GT n w p 3 t F q1 1 v1 [0, 1, 2] q2 2 v2 [(a : Int), (c : Int)] u → Calls Try.prog 7 #[.pointer (some ⟨p, 0, none⟩), .int .i64 t, .int .i64 3] u fun e w' => e = .returned (.bool false) ∧ u = w') :=
    fun u p q1 v1 q2 v2 hu => grgive_no hu.g.gr _ _ (by omega)
  have H4 : Hid (∀ u p q1 v1 q2 v2, GT n w p 3 t F q1 1 v1 [0, 1, 2] q2 2 v2 [(a : Int), (c : Int)] u → Calls Try.prog 7 #[.pointer (some ⟨p, 0, none⟩), .int .i64 t, .int .i64 (-1)] u fun e w' => e = .returned (.bool false) ∧ u = w') :=
    fun u p q1 v1 q2 v2 hu => grgive_no hu.g.gr _ _ (by omega)
  have HR := Lib.hid hR
  clear et ed ek ha hc _hx _hy _hz hn hF fk fa hR hae hce ha3 hc3 hak hck
  go_enter Try.func5, Try.ntmps5
  go_wp2_with fail
  rw [ET.out, ED.out, EK.out]
  refine HN.out.mono ?_
  rintro e w1 ⟨p, rfl, H1⟩
  clear HN
  obtain ⟨y2, hy2⟩ : ∃ y, y = w1.alloc (.cells #[.int .i64 0, .int .i64 1, .int .i64 2] 3) := ⟨_, rfl⟩
  obtain ⟨y3, hy3⟩ : ∃ y, y = y2.alloc (.cells #[.int .i64 a, .int .i64 c] 3) := ⟨_, rfl⟩
  obtain ⟨y4, hy4⟩ : ∃ y, y = y3.alloc (.cells #[.int .i64 1, .slice (some ⟨w1.heap.size, 0, none⟩) 3 3] 29) := ⟨_, rfl⟩
  obtain ⟨y5, hy5⟩ : ∃ y, y = y4.alloc (.cells #[.int .i64 2, .slice (some ⟨y2.heap.size, 0, none⟩) 2 2] 29) := ⟨_, rfl⟩
  have e2 : Below w1.heap.size w1 y2 := by rw [hy2]; exact (Below.refl _ _).alloc (Nat.le_refl _) _
  have e3 : Below y2.heap.size y2 y3 := by rw [hy3]; exact (Below.refl _ _).alloc (Nat.le_refl _) _
  have e4 : Below y3.heap.size y3 y4 := by rw [hy4]; exact (Below.refl _ _).alloc (Nat.le_refl _) _
  have e5 : Below y4.heap.size y4 y5 := by rw [hy5]; exact (Below.refl _ _).alloc (Nat.le_refl _) _
  have T0 : GT n w p 3 t (grOf t 3) y3.heap.size 1 (.slice (some ⟨w1.heap.size, 0, none⟩) 3 3) [0, 1, 2] y4.heap.size 2 (.slice (some ⟨y2.heap.size, 0, none⟩) 2 2) [(a : Int), (c : Int)] y5 := by
    have r1 := row_lits w1 [0, 1, 2] 3 rfl (by decide)
    have r2 := row_lits y2 [(a : Int), (c : Int)] 2 rfl (by decide)
    have k1 := ChT.fresh y3 1 (.slice (some ⟨w1.heap.size, 0, none⟩) 3 3)
    have k2 := ChT.fresh y4 2 (.slice (some ⟨y2.heap.size, 0, none⟩) 2 2)
    rw [← hy4] at k1
    rw [← hy5] at k2
    rw [show (intCells [0, 1, 2]).toArray = #[.int .i64 0, .int .i64 1, .int .i64 2] from rfl, ← hy2] at r1
    rw [show (intCells [(a : Int), (c : Int)]).toArray = #[.int .i64 a, .int .i64 c] from rfl, ← hy3] at r2
    exact ⟨(((H1.out.1.on e2).on e3).on e4).on e5, k1.keep e5 k1.lt, ((r1.on e3).on e4).on e5, k2, (r2.on e4).on e5⟩
  have s2 : y2.heap.size = w1.heap.size + 1 := by rw [hy2]; simp
  have s3 : y3.heap.size = w1.heap.size + 1 + 1 := by rw [hy3]; simp [s2]
  have s4 : y4.heap.size = w1.heap.size + 1 + 1 + 1 := by rw [hy4]; simp [s3]
  rw [s2, s3, s4] at T0
  rw [s2] at hy5
  rw [hy4, hy3, hy2] at hy5
  have HY := Lib.hid hy5
  have HT0 := Lib.hid T0
  clear hy2 hy3 hy4 hy5 e2 e3 e4 e5 s2 s3 s4 T0 H1
  go_wp2_with fail
  rw [EA.out, EC.out, ← HY.out]
  obtain ⟨q, hq⟩ : ∃ q, q = w1.heap.size := ⟨_, rfl⟩
  rw [← hq] at HT0 ⊢
  clear hq HY
  refine (HV.out _ _ _ _ _ _ HT0.out).mono ?_
  rintro e w2 ⟨rfl, T2⟩
  clear HT0 HV
  cases R with
  | true =>
    have hd50 : (d : Int) < 50 := by have := of_decide_eq_true HR.out.symm; omega
    by_cases ht0 : 0 < t
    · have ht1 : (0 : Int) < (t : Int) := by omega
      go_wp2_with fail
      refine (HE.out _ _ _ _ _ _ T2.out).mono ?_
      rintro e w3 ⟨rfl, rfl⟩
      go_wp2_with fail
      refine (HG.out _ _ _ _ _ _ T2.out).mono ?_
      rintro e w4 ⟨rfl, T4⟩
      clear T2 HG HE
      go_wp2_with fail
      refine (HT.out _).mono ?_
      rintro e w5 ⟨rfl, B5⟩
      have T5 := Lib.hid (T4.out.step B5)
      clear B5 T4
      go_wp2_with fail
      refine (HU.out _ _ _ _ _ _ T5.out).mono ?_
      rintro e w6 ⟨rfl, rfl⟩
      go_wp2_with fail
      rw [EA.out]
      refine (HA.out _ _ _ _ _ _ T5.out).mono ?_
      rintro e w7 ⟨rfl, rfl⟩
      go_wp2_with fail
      refine (H3.out _ _ _ _ _ _ T5.out).mono ?_
      rintro e w8 ⟨rfl, rfl⟩
      go_wp2_with fail
      refine (H4.out _ _ _ _ _ _ T5.out).mono ?_
      rintro e w9 ⟨rfl, rfl⟩
      go_wp2
      go_returns
      exact ⟨by first | rfl | trivial | (simp; omega), T5.out.g.bel⟩
    · have ht1 : ¬ (0 : Int) < (t : Int) := by omega
      clear ht0
      go_wp2_with fail
      refine (HG.out _ _ _ _ _ _ T2.out).mono ?_
      rintro e w4 ⟨rfl, T4⟩
      clear T2 HG HE
      go_wp2_with fail
      refine (HT.out _).mono ?_
      rintro e w5 ⟨rfl, B5⟩
      have T5 := Lib.hid (T4.out.step B5)
      clear B5 T4
      go_wp2_with fail
      refine (HU.out _ _ _ _ _ _ T5.out).mono ?_
      rintro e w6 ⟨rfl, rfl⟩
      go_wp2_with fail
      rw [EA.out]
      refine (HA.out _ _ _ _ _ _ T5.out).mono ?_
      rintro e w7 ⟨rfl, rfl⟩
      go_wp2_with fail
      refine (H3.out _ _ _ _ _ _ T5.out).mono ?_
      rintro e w8 ⟨rfl, rfl⟩
      go_wp2_with fail
      refine (H4.out _ _ _ _ _ _ T5.out).mono ?_
      rintro e w9 ⟨rfl, rfl⟩
      go_wp2
      go_returns
      exact ⟨by first | rfl | trivial | (simp; omega), T5.out.g.bel⟩
  | false =>
    have hd50 : ¬ (d : Int) < 50 := by have := of_decide_eq_false HR.out.symm; omega
    by_cases ht0 : 0 < t
    · have ht1 : (0 : Int) < (t : Int) := by omega
      go_wp2_with fail
      refine (HE.out _ _ _ _ _ _ T2.out).mono ?_
      rintro e w3 ⟨rfl, rfl⟩
      go_wp2_with fail
      refine (HG.out _ _ _ _ _ _ T2.out).mono ?_
      rintro e w4 ⟨rfl, T4⟩
      clear T2 HG HE
      go_wp2_with fail
      refine (HT.out _).mono ?_
      rintro e w5 ⟨rfl, B5⟩
      have T5 := Lib.hid (T4.out.step B5)
      clear B5 T4
      go_wp2_with fail
      refine (HU.out _ _ _ _ _ _ T5.out).mono ?_
      rintro e w6 ⟨rfl, rfl⟩
      go_wp2_with fail
      rw [EA.out]
      refine (HA.out _ _ _ _ _ _ T5.out).mono ?_
      rintro e w7 ⟨rfl, rfl⟩
      go_wp2_with fail
      refine (H3.out _ _ _ _ _ _ T5.out).mono ?_
      rintro e w8 ⟨rfl, rfl⟩
      go_wp2_with fail
      refine (H4.out _ _ _ _ _ _ T5.out).mono ?_
      rintro e w9 ⟨rfl, rfl⟩
      go_wp2
      go_returns
      exact ⟨by first | rfl | trivial | (simp; omega), T5.out.g.bel⟩
    · have ht1 : ¬ (0 : Int) < (t : Int) := by omega
      clear ht0
      go_wp2_with fail
      refine (HG.out _ _ _ _ _ _ T2.out).mono ?_
      rintro e w4 ⟨rfl, T4⟩
      clear T2 HG HE
      go_wp2_with fail
      refine (HT.out _).mono ?_
      rintro e w5 ⟨rfl, B5⟩
      have T5 := Lib.hid (T4.out.step B5)
      clear B5 T4
      go_wp2_with fail
      refine (HU.out _ _ _ _ _ _ T5.out).mono ?_
      rintro e w6 ⟨rfl, rfl⟩
      go_wp2_with fail
      rw [EA.out]
      refine (HA.out _ _ _ _ _ _ T5.out).mono ?_
      rintro e w7 ⟨rfl, rfl⟩
      go_wp2_with fail
      refine (H3.out _ _ _ _ _ _ T5.out).mono ?_
      rintro e w8 ⟨rfl, rfl⟩
      go_wp2_with fail
      refine (H4.out _ _ _ _ _ _ T5.out).mono ?_
      rintro e w9 ⟨rfl, rfl⟩
      go_wp2
      go_returns
      exact ⟨by first | rfl | trivial | (simp; omega), T5.out.g.bel⟩

set_option maxRecDepth 100000 in
theorem lifted (os : Os) (started : os.Started) (H : Type) (enc : TypeId × Value → H) :
    ReturnsInHanded {} Try.checked os 5 .any (Rows.grantBeginsSpec.pre6 enc Try.prog Try.f5 Rows.grantBeginsRow.domain false) (Rows.grantBeginsSpec.post enc Try.prog Try.f5 false true false false) := by
  refine returnsInHanded_of_change (C := Try.checked) own started (by kernel_rfl) Try.func5
    (ChangeSpec.witness6 (enc := enc) (C := Try.checked) false ⟨#[], #[.int .i64 0, .int .i64 0, .int .i64 0], []⟩ 8 (by kernel_rfl) (by kernel_rfl) (by kernel_rfl) (by kernel_rfl)) ?_
  intro W base args ds gs before hval0 hW hcnd _
  have hval : ∀ (j : Nat) t v, Try.f5.params[j]? = some t → args[j]? = some v → Value.okWide Try.prog W .any base t v := hval0
  have hW' := hW
  obtain ⟨p, q, hA0, hV, rfl, hfz, hnd⟩ := hW
  have hA : DataW.TrodAll enc Try.prog W 0 (fun _ => true) true Try.f5.params.toList args.toList ds p := hA0
  rw [Try.params5] at hA hval
  obtain ⟨v0, vs0, d0, ds0, p0, q0, hargs, rfl, rfl, h0, r0⟩ := trodAll_cons hA
  obtain ⟨v1, vs1, d1, ds1, p1, q1, rfl, rfl, rfl, h1, r1⟩ := trodAll_cons r0
  obtain ⟨v2, vs2, d2, ds2, p2, q2, rfl, rfl, rfl, h2, r2⟩ := trodAll_cons r1
  obtain ⟨rfl, rfl, rfl⟩ := trodAll_nil r2
  obtain rfl : args = #[v0, v1, v2] := by cases args; simp_all
  obtain ⟨rfl, rfl⟩ := trodVars_none hV
  obtain ⟨a0, rfl, rfl, rfl, w0⟩ := open_int Try.underlying3 (hval 0 3 v0 rfl rfl) h0
  obtain ⟨a1, rfl, rfl, rfl, w1⟩ := open_int Try.underlying3 (hval 1 3 v1 rfl rfl) h1
  obtain ⟨a2, rfl, rfl, rfl, w2⟩ := open_int Try.underlying3 (hval 2 3 v2 rfl rfl) h2
  clear hA0 hval0
  refine (walk a0 a1 a2 W w0 w1 w2).mono fun e W' ⟨he, bel⟩ => ?_
  subst he
  exact ⟨_, rfl, _, _, _, [], _, [], hW', trodAll_mk1 (shut_bool Try.underlying4 _), (trodAll_cons_mk (shut_int Try.underlying3 w0) (trodAll_cons_mk (shut_int Try.underlying3 w1) (trodAll_cons_mk (shut_int Try.underlying3 w2) trodAll_mk0))), rfl, bel.frame _, fun h => by cases h⟩

theorem over : Rows.grantBeginsRow.holds Try.pinned (OpenSpec.ofChange Rows.grantBeginsSpec) :=
  OpenClaim.holds_of_wide 5 Try.f5 rfl rfl rfl rfl rfl rfl rfl ⟨rfl, rfl, rfl, rfl, rfl⟩ rfl rfl rfl rfl rfl (by kernel_rfl) Try.func5 (by kernel_rfl)
    (of_decide_eq_true (by kernel_rfl)) (by unfold Func.isWrapper; first | (rw [if_pos (by decide +kernel)]; kernel_rfl) | (rw [if_neg (by decide +kernel)]; exact ⟨rfl, rfl⟩))
    (fun os started H enc _ => lifted os started H enc)
end Go.Proofs.Ythinedikgbbmoaa.GrantBegins

namespace Go.Proofs.Ythinedikgbbmoaa
theorem grantBegins_holds : Rows.GrantBeginsSaid := GrantBegins.over
#print axioms grantBegins_holds
end Go.Proofs.Ythinedikgbbmoaa
