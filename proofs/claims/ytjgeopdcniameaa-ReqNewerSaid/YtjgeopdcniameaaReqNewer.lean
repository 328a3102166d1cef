/-
  Of requests that may be just those with greater numbers are newer (3.1), as ReqNewer says: for any two numbers, any kind. No condition.
-/
import Derived.Test.YtjgeopdcniameaaReqT
namespace Go.Proofs.Ytjgeopdcniameaa.ReqNewer
open Go.ChangeShapes Go.WideShapes Go.ChangeAt Go.RowKit

set_option maxHeartbeats 400000 in
set_option maxRecDepth 100000 in
theorem yes (a b c x y : Int) (w : World) (hx : (IntKind.u64.wrap a).tmod 1073741824 = x) (hy : (IntKind.u64.wrap b).tmod 1073741824 = y) (x0 : 0 ≤ x) (x1 : x < 1073741824) (y0 : 0 ≤ y) (y1 : y < 1073741824) (hkk : (bits BinOp.and IntKind.i64 c 1 == 1) = true) :
    Calls Try.prog 5 #[.int .i64 a, .int .i64 b, .int .i64 c] w fun e w' => e = .returned (.bool true) ∧ Below w.heap.size w w' := by
  have hmay : Hid (ReqV.may ⟨3, 1 + x, 3, 7, 2, ⟨#[]⟩⟩) := by
    have hz : ByteArray.size ⟨#[]⟩ = 0 := rfl
    show ReqV.may _
    unfold ReqV.may
    simp only
    rw [hz]
    refine ⟨by omega, by omega, by omega, by omega, by omega, by omega, by omega, by omega, by omega, by omega, by omega, ?_, ?_⟩ <;> simp
  have HT := Lib.hid (fun u => told3_any u)
  have HA : Hid (∀ u, Calls Try.prog 12 #[.agg #[.int .i64 3, .int .i64 (1 + x), .int .i64 3, .int .i64 7, .int .i64 2, .string ⟨#[]⟩], .int .i64 (1 + y)] u fun e w' => e = .returned (.bool (decide (y < x))) ∧ Below u.heap.size u w') :=
    fun u => newer_r 3 (1 + x) 3 7 2 (1 + y) ⟨#[]⟩ (by decide) (decide (y < x)) (show _ = _ by rw [decide_eq_true (hmay.out)]; simp) u
  have HB : Hid (∀ u, Calls Try.prog 12 #[.agg #[.int .i64 3, .int .i64 (1 + x), .int .i64 3, .int .i64 7, .int .i64 2, .string ⟨#[]⟩], .int .i64 (1 + x - 1)] u fun e w' => e = .returned (.bool true) ∧ Below u.heap.size u w') :=
    fun u => newer_r 3 (1 + x) 3 7 2 (1 + x - 1) ⟨#[]⟩ (by decide) true (show _ = _ by rw [decide_eq_true (hmay.out)]; (simp; omega)) u
  have HC : Hid (∀ u, Calls Try.prog 12 #[.agg #[.int .i64 3, .int .i64 (1 + x), .int .i64 3, .int .i64 7, .int .i64 2, .string ⟨#[]⟩], .int .i64 (1 + x)] u fun e w' => e = .returned (.bool false) ∧ Below u.heap.size u w') :=
    fun u => newer_r 3 (1 + x) 3 7 2 (1 + x) ⟨#[]⟩ (by decide) false (show _ = _ by rw [decide_eq_true (hmay.out)]; simp) u
  have HK : Hid (∀ u, Calls Try.prog 11 #[.agg #[.int .i64 3, .int .i64 (1 + x), .int .i64 3, .int .i64 7, .int .i64 2, .string ⟨#[]⟩]] u fun e w' => e = .returned (.int .i64 7) ∧ Below u.heap.size u w') :=
    fun u => key_r 3 (1 + x) 3 7 2 ⟨#[]⟩ (by decide) 7 (show _ = _ by rw [if_pos hmay.out]) u
  have wx : wrap64 x = x := IntWalk.wrap64_in x (by omega)
  have wy : wrap64 y = y := IntWalk.wrap64_in y (by omega)
  have wx1 : wrap64 (1 + x) = 1 + x := IntWalk.wrap64_in (1 + x) (by omega)
  have wy1 : wrap64 (1 + y) = 1 + y := IntWalk.wrap64_in (1 + y) (by omega)
  have wx2 : wrap64 (1 + x - 1) = 1 + x - 1 := IntWalk.wrap64_in (1 + x - 1) (by omega)
  have hlt : decide (1 + y < 1 + x) = decide (y < x) := by rw [decide_eq_decide]; omega
  clear hmay
  go_enter Try.func5, Try.ntmps5
  go_wp2_with fail
  refine (HT.out _).mono ?_
  rintro e w1 ⟨rfl, B1⟩
  have D1 : Hid (ReqB w1 w.heap.size 3 (1 + x) 3 7 2 ⟨#[]⟩) := (ReqB.fresh w _ _ _ _ _ _ 23).keep B1 (by simp)
  have C1 : Hid (Below w.heap.size w w1) := ((Below.refl _ w).alloc (Nat.le_refl _) _).trans (B1.mono (by simp))
  clear B1
  obtain ⟨c0, c1, c2, c3, c4, c5⟩ := D1.out.cells
  go_wp2_with fail
  refine (HA.out _).mono ?_
  rintro e w2 ⟨rfl, B2⟩
  have D2 : Hid (ReqB w2 w.heap.size 3 (1 + x) 3 7 2 ⟨#[]⟩) := D1.out.keep B2 D1.out.lt
  have C2 : Hid (Below w.heap.size w w2) := C1.out.trans (B2.mono C1.out.size)
  clear B2 c0 c1 c2 c3 c4 c5 D1 C1
  obtain ⟨c0, c1, c2, c3, c4, c5⟩ := D2.out.cells
  go_wp2_with fail
  refine (HB.out _).mono ?_
  rintro e w3 ⟨rfl, B3⟩
  have D3 : Hid (ReqB w3 w.heap.size 3 (1 + x) 3 7 2 ⟨#[]⟩) := D2.out.keep B3 D2.out.lt
  have C3 : Hid (Below w.heap.size w w3) := C2.out.trans (B3.mono C2.out.size)
  clear B3 c0 c1 c2 c3 c4 c5 D2 C2
  obtain ⟨c0, c1, c2, c3, c4, c5⟩ := D3.out.cells
  go_wp2_with fail
  refine (HC.out _).mono ?_
  rintro e w4 ⟨rfl, B4⟩
  have D4 : Hid (ReqB w4 w.heap.size 3 (1 + x) 3 7 2 ⟨#[]⟩) := D3.out.keep B4 D3.out.lt
  have C4 : Hid (Below w.heap.size w w4) := C3.out.trans (B4.mono C3.out.size)
  clear B4 c0 c1 c2 c3 c4 c5 D3 C3
  obtain ⟨c0, c1, c2, c3, c4, c5⟩ := D4.out.cells
  go_wp2_with fail
  refine (HK.out _).mono ?_
  rintro e w5 ⟨rfl, B5⟩
  have D5 : Hid (ReqB w5 w.heap.size 3 (1 + x) 3 7 2 ⟨#[]⟩) := D4.out.keep B5 D4.out.lt
  have C5 : Hid (Below w.heap.size w w5) := C4.out.trans (B5.mono C4.out.size)
  clear B5 c0 c1 c2 c3 c4 c5 D4 C4
  obtain ⟨c0, c1, c2, c3, c4, c5⟩ := D5.out.cells
  go_wp2
  go_returns
  first | exact ⟨rfl, C5.out⟩ | exact ⟨ret_bool (by simp), C5.out⟩

set_option maxHeartbeats 400000 in
set_option maxRecDepth 100000 in
theorem no (a b c x y : Int) (w : World) (hx : (IntKind.u64.wrap a).tmod 1073741824 = x) (hy : (IntKind.u64.wrap b).tmod 1073741824 = y) (x0 : 0 ≤ x) (x1 : x < 1073741824) (y0 : 0 ≤ y) (y1 : y < 1073741824) (hkk : (bits BinOp.and IntKind.i64 c 1 == 1) = false) :
    Calls Try.prog 5 #[.int .i64 a, .int .i64 b, .int .i64 c] w fun e w' => e = .returned (.bool true) ∧ Below w.heap.size w w' := by
  have hmay : Hid (ReqV.may ⟨2, 1 + x, 4, 7, 0, ⟨#[]⟩⟩) := by
    have hz : ByteArray.size ⟨#[]⟩ = 0 := rfl
    show ReqV.may _
    unfold ReqV.may
    simp only
    rw [hz]
    refine ⟨by omega, by omega, by omega, by omega, by omega, by omega, by omega, by omega, by omega, by omega, by omega, ?_, ?_⟩ <;> simp
  have HT := Lib.hid (fun u => told3_any u)
  have HA : Hid (∀ u, Calls Try.prog 12 #[.agg #[.int .i64 2, .int .i64 (1 + x), .int .i64 4, .int .i64 7, .int .i64 0, .string ⟨#[]⟩], .int .i64 (1 + y)] u fun e w' => e = .returned (.bool (decide (y < x))) ∧ Below u.heap.size u w') :=
    fun u => newer_r 2 (1 + x) 4 7 0 (1 + y) ⟨#[]⟩ (by decide) (decide (y < x)) (show _ = _ by rw [decide_eq_true (hmay.out)]; simp) u
  have HB : Hid (∀ u, Calls Try.prog 12 #[.agg #[.int .i64 2, .int .i64 (1 + x), .int .i64 4, .int .i64 7, .int .i64 0, .string ⟨#[]⟩], .int .i64 (1 + x - 1)] u fun e w' => e = .returned (.bool true) ∧ Below u.heap.size u w') :=
    fun u => newer_r 2 (1 + x) 4 7 0 (1 + x - 1) ⟨#[]⟩ (by decide) true (show _ = _ by rw [decide_eq_true (hmay.out)]; (simp; omega)) u
  have HC : Hid (∀ u, Calls Try.prog 12 #[.agg #[.int .i64 2, .int .i64 (1 + x), .int .i64 4, .int .i64 7, .int .i64 0, .string ⟨#[]⟩], .int .i64 (1 + x)] u fun e w' => e = .returned (.bool false) ∧ Below u.heap.size u w') :=
    fun u => newer_r 2 (1 + x) 4 7 0 (1 + x) ⟨#[]⟩ (by decide) false (show _ = _ by rw [decide_eq_true (hmay.out)]; simp) u
  have HK : Hid (∀ u, Calls Try.prog 11 #[.agg #[.int .i64 2, .int .i64 (1 + x), .int .i64 4, .int .i64 7, .int .i64 0, .string ⟨#[]⟩]] u fun e w' => e = .returned (.int .i64 7) ∧ Below u.heap.size u w') :=
    fun u => key_r 2 (1 + x) 4 7 0 ⟨#[]⟩ (by decide) 7 (show _ = _ by rw [if_pos hmay.out]) u
  have wx : wrap64 x = x := IntWalk.wrap64_in x (by omega)
  have wy : wrap64 y = y := IntWalk.wrap64_in y (by omega)
  have wx1 : wrap64 (1 + x) = 1 + x := IntWalk.wrap64_in (1 + x) (by omega)
  have wy1 : wrap64 (1 + y) = 1 + y := IntWalk.wrap64_in (1 + y) (by omega)
  have wx2 : wrap64 (1 + x - 1) = 1 + x - 1 := IntWalk.wrap64_in (1 + x - 1) (by omega)
  have hlt : decide (1 + y < 1 + x) = decide (y < x) := by rw [decide_eq_decide]; omega
  clear hmay
  go_enter Try.func5, Try.ntmps5
  go_wp2_with fail
  refine (HT.out _).mono ?_
  rintro e w1 ⟨rfl, B1⟩
  have D1 : Hid (ReqB w1 w.heap.size 2 (1 + x) 4 7 0 ⟨#[]⟩) := (ReqB.fresh w _ _ _ _ _ _ 23).keep B1 (by simp)
  have C1 : Hid (Below w.heap.size w w1) := ((Below.refl _ w).alloc (Nat.le_refl _) _).trans (B1.mono (by simp))
  clear B1
  obtain ⟨c0, c1, c2, c3, c4, c5⟩ := D1.out.cells
  go_wp2_with fail
  refine (HA.out _).mono ?_
  rintro e w2 ⟨rfl, B2⟩
  have D2 : Hid (ReqB w2 w.heap.size 2 (1 + x) 4 7 0 ⟨#[]⟩) := D1.out.keep B2 D1.out.lt
  have C2 : Hid (Below w.heap.size w w2) := C1.out.trans (B2.mono C1.out.size)
  clear B2 c0 c1 c2 c3 c4 c5 D1 C1
  obtain ⟨c0, c1, c2, c3, c4, c5⟩ := D2.out.cells
  go_wp2_with fail
  refine (HB.out _).mono ?_
  rintro e w3 ⟨rfl, B3⟩
  have D3 : Hid (ReqB w3 w.heap.size 2 (1 + x) 4 7 0 ⟨#[]⟩) := D2.out.keep B3 D2.out.lt
  have C3 : Hid (Below w.heap.size w w3) := C2.out.trans (B3.mono C2.out.size)
  clear B3 c0 c1 c2 c3 c4 c5 D2 C2
  obtain ⟨c0, c1, c2, c3, c4, c5⟩ := D3.out.cells
  go_wp2_with fail
  refine (HC.out _).mono ?_
  rintro e w4 ⟨rfl, B4⟩
  have D4 : Hid (ReqB w4 w.heap.size 2 (1 + x) 4 7 0 ⟨#[]⟩) := D3.out.keep B4 D3.out.lt
  have C4 : Hid (Below w.heap.size w w4) := C3.out.trans (B4.mono C3.out.size)
  clear B4 c0 c1 c2 c3 c4 c5 D3 C3
  obtain ⟨c0, c1, c2, c3, c4, c5⟩ := D4.out.cells
  go_wp2_with fail
  refine (HK.out _).mono ?_
  rintro e w5 ⟨rfl, B5⟩
  have D5 : Hid (ReqB w5 w.heap.size 2 (1 + x) 4 7 0 ⟨#[]⟩) := D4.out.keep B5 D4.out.lt
  have C5 : Hid (Below w.heap.size w w5) := C4.out.trans (B5.mono C4.out.size)
  clear B5 c0 c1 c2 c3 c4 c5 D4 C4
  obtain ⟨c0, c1, c2, c3, c4, c5⟩ := D5.out.cells
  go_wp2
  go_returns
  first | exact ⟨rfl, C5.out⟩ | exact ⟨ret_bool (by simp), C5.out⟩

theorem walk (a b c : Int) (w : World) (_ : (Lit.int .i64 a).wf = true) (_ : (Lit.int .i64 b).wf = true) (_ : (Lit.int .i64 c).wf = true) :
    Calls Try.prog 5 #[.int .i64 a, .int .i64 b, .int .i64 c] w fun e w' => e = .returned (.bool true) ∧ Below w.heap.size w w' := by
  have hu : ∀ x, 0 ≤ IntKind.u64.wrap x := fun x => by simp [IntKind.wrap, IntKind.bits, IntKind.signed]; omega
  obtain ⟨x, hx⟩ : ∃ M, (IntKind.u64.wrap a).tmod 1073741824 = M := ⟨_, rfl⟩
  obtain ⟨y, hy⟩ : ∃ K, (IntKind.u64.wrap b).tmod 1073741824 = K := ⟨_, rfl⟩
  have x0 : 0 ≤ x := by rw [← hx, Int.tmod_eq_emod_of_nonneg (hu a)]; omega
  have x1 : x < 1073741824 := by rw [← hx, Int.tmod_eq_emod_of_nonneg (hu a)]; omega
  have y0 : 0 ≤ y := by rw [← hy, Int.tmod_eq_emod_of_nonneg (hu b)]; omega
  have y1 : y < 1073741824 := by rw [← hy, Int.tmod_eq_emod_of_nonneg (hu b)]; omega
  by_cases hk : (bits BinOp.and IntKind.i64 c 1 == 1) = true
  · exact yes a b c x y w hx hy x0 x1 y0 y1 hk
  · exact no a b c x y w hx hy x0 x1 y0 y1 (by simpa using hk)

set_option maxRecDepth 100000 in
theorem lifted (os : Os) (started : os.Started) (H : Type) (enc : TypeId × Value → H) :
    ReturnsInHanded {} Try.checked os 5 .any (Rows.reqNewerSpec.pre6 enc Try.prog Try.f5 Rows.reqNewerRow.domain false) (Rows.reqNewerSpec.post enc Try.prog Try.f5 false true false false) := by
  refine returnsInHanded_of_change (C := Try.checked) own started (by kernel_rfl) Try.func5
    (ChangeSpec.witness6 (enc := enc) (C := Try.checked) false ⟨#[], #[.int .i64 0, .int .i64 0, .int .i64 0], []⟩ 8 (by kernel_rfl) (by kernel_rfl) (by kernel_rfl) (by kernel_rfl)) ?_
  intro W base args ds gs before hval0 hW hcnd _
  have hval : ∀ (j : Nat) t v, Try.f5.params[j]? = some t → args[j]? = some v → Value.okWide Try.prog W .any base t v := hval0
  have hW' := hW
  obtain ⟨p, q, hA0, hV, rfl, hfz, hnd⟩ := hW
  have hA : DataW.TrodAll enc Try.prog W 0 (fun _ => true) true Try.f5.params.toList args.toList ds p := hA0
  rw [Try.params5] at hA hval
  obtain ⟨v0, vs0, d0, ds0, p0, q0, hargs, rfl, rfl, h0, r0⟩ := trodAll_cons hA
  obtain ⟨v1, vs1, d1, ds1, p1, q1, rfl, rfl, rfl, h1, r1⟩ := trodAll_cons r0
  obtain ⟨v2, vs2, d2, ds2, p2, q2, rfl, rfl, rfl, h2, r2⟩ := trodAll_cons r1
  obtain ⟨rfl, rfl, rfl⟩ := trodAll_nil r2
  obtain rfl : args = #[v0, v1, v2] := by cases args; simp_all
  obtain ⟨rfl, rfl⟩ := trodVars_none hV
  obtain ⟨a0, rfl, rfl, rfl, w0⟩ := open_int Try.underlying3 (hval 0 3 v0 rfl rfl) h0
  obtain ⟨a1, rfl, rfl, rfl, w1⟩ := open_int Try.underlying3 (hval 1 3 v1 rfl rfl) h1
  obtain ⟨a2, rfl, rfl, rfl, w2⟩ := open_int Try.underlying3 (hval 2 3 v2 rfl rfl) h2
  clear hA0 hval0
  refine (walk a0 a1 a2 W w0 w1 w2).mono fun e W' ⟨he, bel⟩ => ?_
  subst he
  exact ⟨_, rfl, _, _, _, [], _, [], hW', trodAll_mk1 (shut_bool Try.underlying4 _), (trodAll_cons_mk (shut_int Try.underlying3 w0) (trodAll_cons_mk (shut_int Try.underlying3 w1) (trodAll_cons_mk (shut_int Try.underlying3 w2) trodAll_mk0))), rfl, bel.frame _, fun h => by cases h⟩

theorem over : Rows.reqNewerRow.holds Try.pinned (OpenSpec.ofChange Rows.reqNewerSpec) :=
  OpenClaim.holds_of_wide 5 Try.f5 rfl rfl rfl rfl rfl rfl rfl ⟨rfl, rfl, rfl, rfl, rfl⟩ rfl rfl rfl rfl rfl (by kernel_rfl) Try.func5 (by kernel_rfl)
    (of_decide_eq_true (by kernel_rfl)) (by unfold Func.isWrapper; first | (rw [if_pos (by decide +kernel)]; kernel_rfl) | (rw [if_neg (by decide +kernel)]; exact ⟨rfl, rfl⟩))
    (fun os started H enc _ => lifted os started H enc)
end Go.Proofs.Ytjgeopdcniameaa.ReqNewer

namespace Go.Proofs.Ytjgeopdcniameaa
theorem reqNewer_holds : Rows.ReqNewerSaid := ReqNewer.over
#print axioms reqNewer_holds
end Go.Proofs.Ytjgeopdcniameaa
