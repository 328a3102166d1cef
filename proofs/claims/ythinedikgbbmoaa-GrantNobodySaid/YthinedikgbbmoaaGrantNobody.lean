/-
  PROVED: casebooklaw15.GrantNobody answers true and leaves its arguments as they were, for any numbers: the row's own reading and nothing else is assumed.
-/
import Derived.Test.YthinedikgbbmoaaGrantT
import Derived.Test.YthinedikgbbmoaaPackT
namespace Go.Proofs.Ythinedikgbbmoaa.GrantNobody
open Go.ChangeShapes Go.WideShapes Go.ChangeAt Go.RowKit

set_option maxRecDepth 100000 in
set_option maxHeartbeats 4000000 in
theorem walk (x y : Int) (w : World) (_hx : (Lit.int .i64 x).wf = true) (_hy : (Lit.int .i64 y).wf = true) :
    Calls Try.prog 4 #[.int .i64 x, .int .i64 y] w fun e w' => e = .returned (.bool true) ∧ Below w.heap.size w w' := by
  have HT := Lib.hid (fun u => told15_any u)
  have HG := Lib.hid (fun u => grgive_nil x y u)
  have HU := Lib.hid (fun u => gruntil_nil y u)
  have HV := Lib.hid (fun a u => grveto_nil x 1 a 1 1 1 a 1 1 u)
  obtain ⟨W, hW⟩ : ∃ W, W = (w.alloc (.cells #[.int .i64 0] 3)).alloc (.cells #[.int .i64 1, .slice (some ⟨w.heap.size, 0, none⟩) 1 1] 29) := ⟨_, rfl⟩
  have C0 : ChT W (w.heap.size + 1) 1 (.slice (some ⟨w.heap.size, 0, none⟩) 1 1) := by
    have h := ChT.fresh (w.alloc (.cells #[.int .i64 0] 3)) 1 (.slice (some ⟨w.heap.size, 0, none⟩) 1 1)
    rw [World.size_alloc, ← hW] at h
    exact h
  have B0 : Below w.heap.size w W := by rw [hW]; exact ((Below.refl _ w).alloc (Nat.le_refl _) _).alloc (by simp) _
  have HC0 := Lib.hid C0
  have HB0 := Lib.hid B0
  have HW := Lib.hid hW
  clear hW C0 B0 _hx _hy
  go_enter Try.func4, Try.ntmps4
  go_wp2_with fail
  rw [← HW.out]
  refine (HT.out _).mono ?_
  rintro e w1 ⟨rfl, B1⟩
  have C1 := Lib.hid (HC0.out.keep B1 HC0.out.lt)
  have D1 := Lib.hid (HB0.out.trans (B1.mono HB0.out.size))
  clear B1
  go_wp2_with fail
  refine (HG.out _).mono ?_
  rintro e w2 ⟨rfl, rfl⟩
  go_wp2_with fail
  refine (HU.out _).mono ?_
  rintro e w3 ⟨rfl, rfl⟩
  obtain ⟨a0, a1, _, _⟩ := C1.out.cells
  go_wp2_with fail
  refine (HV.out _ _).mono ?_
  rintro e w4 ⟨rfl, B4⟩
  have D4 := Lib.hid (D1.out.trans (B4.mono D1.out.size))
  clear B4 a0 a1
  go_wp2
  go_returns
  exact ⟨by first | rfl | trivial, D4.out⟩

set_option maxRecDepth 100000 in
theorem lifted (os : Os) (started : os.Started) (H : Type) (enc : TypeId × Value → H) :
    ReturnsInHanded {} Try.checked os 4 .any (Rows.grantNobodySpec.pre6 enc Try.prog Try.f4 Rows.grantNobodyRow.domain false) (Rows.grantNobodySpec.post enc Try.prog Try.f4 false true false false) := by
  refine returnsInHanded_of_change (C := Try.checked) own started (by kernel_rfl) Try.func4
    (ChangeSpec.witness6 (enc := enc) (C := Try.checked) false ⟨#[], #[.int .i64 0, .int .i64 0], []⟩ 8 (by kernel_rfl) (by kernel_rfl) (by kernel_rfl) (by kernel_rfl)) ?_
  intro W base args ds gs before hval0 hW hcnd _
  have hval : ∀ (j : Nat) t v, Try.f4.params[j]? = some t → args[j]? = some v → Value.okWide Try.prog W .any base t v := hval0
  have hW' := hW
  obtain ⟨p, q, hA0, hV, rfl, hfz, hnd⟩ := hW
  have hA : DataW.TrodAll enc Try.prog W 0 (fun _ => true) true Try.f4.params.toList args.toList ds p := hA0
  rw [Try.params4] at hA hval
  obtain ⟨v0, vs0, d0, ds0, p0, q0, hargs, rfl, rfl, h0, r0⟩ := trodAll_cons hA
  obtain ⟨v1, vs1, d1, ds1, p1, q1, rfl, rfl, rfl, h1, r1⟩ := trodAll_cons r0
  obtain ⟨rfl, rfl, rfl⟩ := trodAll_nil r1
  obtain rfl : args = #[v0, v1] := by cases args; simp_all
  obtain ⟨rfl, rfl⟩ := trodVars_none hV
  obtain ⟨a0, rfl, rfl, rfl, w0⟩ := open_int Try.underlying3 (hval 0 3 v0 rfl rfl) h0
  obtain ⟨a1, rfl, rfl, rfl, w1⟩ := open_int Try.underlying3 (hval 1 3 v1 rfl rfl) h1
  clear hA0 hval0
  refine (walk a0 a1 W w0 w1).mono fun e W' ⟨he, bel⟩ => ?_
  subst he
  exact ⟨_, rfl, _, _, _, [], _, [], hW', trodAll_mk1 (shut_bool Try.underlying4 _), (trodAll_cons_mk (shut_int Try.underlying3 w0) (trodAll_cons_mk (shut_int Try.underlying3 w1) trodAll_mk0)), rfl, bel.frame _, fun h => by cases h⟩

theorem over : Rows.grantNobodyRow.holds Try.pinned (OpenSpec.ofChange Rows.grantNobodySpec) :=
  OpenClaim.holds_of_wide 4 Try.f4 rfl rfl rfl rfl rfl rfl rfl ⟨rfl, rfl, rfl, rfl, rfl⟩ rfl rfl rfl rfl rfl (by kernel_rfl) Try.func4 (by kernel_rfl)
    (of_decide_eq_true (by kernel_rfl)) (by unfold Func.isWrapper; first | (rw [if_pos (by decide +kernel)]; kernel_rfl) | (rw [if_neg (by decide +kernel)]; exact ⟨rfl, rfl⟩))
    (fun os started H enc _ => lifted os started H enc)
end Go.Proofs.Ythinedikgbbmoaa.GrantNobody

namespace Go.Proofs.Ythinedikgbbmoaa
theorem grantNobody_holds : Rows.GrantNobodySaid := GrantNobody.over
#print axioms grantNobody_holds
end Go.Proofs.Ythinedikgbbmoaa
