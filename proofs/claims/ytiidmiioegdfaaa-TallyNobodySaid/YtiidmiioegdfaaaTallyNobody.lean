/-
  PROVED: casebooklaw14.TallyNobody answers true and leaves its argument as it was, for any number: the row's own reading and nothing else is assumed.
-/
import Derived.Test.YtiidmiioegdfaaaTalT
import Derived.Test.YtiidmiioegdfaaaBallotArgs
namespace Go.Proofs.Ytiidmiioegdfaaa.TallyNobody
open Go.ChangeShapes Go.WideShapes Go.ChangeAt Go.RowKit

set_option maxRecDepth 100000 in
set_option maxHeartbeats 4000000 in
theorem walk (x : Int) (w : World) (_hw : (Lit.int .i64 x).wf = true) :
    Calls Try.prog 7 #[.int .i64 x] w fun e w' => e = .returned (.bool true) ∧ Below w.heap.size w w' := by
  have HT := Lib.hid (fun u => told14_any u)
  have HP : Hid (∀ u, Calls Try.prog 14 #[.pointer none, .int .i64 x, .agg #[.int .i64 0, .int .i64 0, .int .i64 0, .int .i64 0, .bool false, .int .i64 0, .slice none 0 0]] u fun e w' => e = .returned (.bool false) ∧ Below u.heap.size u w') := fun u => typro_nil x VoteV.zero (.slice none 0 0) u
  have HR := Lib.hid (fun u => tyready_nil u)
  have HY := Lib.hid (fun u => tyyes_nil x u)
  have HD := Lib.hid (fun u => tydone_nil u)
  have HC := Lib.hid (fun u => tychain_nil u)
  have kf0 : ∀ (u : World), (Instr.field 26 (.agg #[.int .i64 0, .slice none 0 0]) 0).run Try.prog u = .ok (.int .i64 0) u := fun u => by kernel_rfl
  have kf1 : ∀ (u : World), (Instr.field 26 (.agg #[.int .i64 0, .slice none 0 0]) 1).run Try.prog u = .ok (.slice none 0 0) u := fun u => by kernel_rfl
  go_enter Try.func7, Try.ntmps7
  go_wp2_with fail
  refine (HT.out _).mono ?_
  rintro e w1 ⟨rfl, B1⟩
  have C1 := Lib.hid B1
  clear B1
  go_wp2_with fail
  refine (HP.out _).mono ?_
  rintro e w2 ⟨rfl, B2⟩
  have C2 := Lib.hid (C1.out.trans (B2.mono C1.out.size))
  clear B2
  go_wp2_with fail
  refine (HR.out _).mono ?_
  rintro e w3 ⟨rfl, rfl⟩
  go_wp2_with fail
  refine (HY.out _).mono ?_
  rintro e w4 ⟨rfl, rfl⟩
  go_wp2_with fail
  refine (HD.out _).mono ?_
  rintro e w5 ⟨rfl, rfl⟩
  go_wp2_with fail
  refine (HC.out _).mono ?_
  rintro e w6 ⟨rfl, B6⟩
  have C6 := Lib.hid (C2.out.trans (B6.mono C2.out.size))
  clear B6
  go_wp2_with fail
  refine (HC.out _).mono ?_
  rintro e w7 ⟨rfl, B7⟩
  have C7 := Lib.hid (C6.out.trans (B7.mono C6.out.size))
  clear B7
  go_wp2
  go_returns
  exact ⟨by first | rfl | trivial, C7.out⟩

set_option maxRecDepth 100000 in
theorem lifted (os : Os) (started : os.Started) (H : Type) (enc : TypeId × Value → H) :
    ReturnsInHanded {} Try.checked os 7 .any (Rows.tallyNobodySpec.pre6 enc Try.prog Try.f7 Rows.tallyNobodyRow.domain false) (Rows.tallyNobodySpec.post enc Try.prog Try.f7 false true false false) := by
  refine returnsInHanded_of_change (C := Try.checked) own started (by kernel_rfl) Try.func7
    (ChangeSpec.witness6 (enc := enc) (C := Try.checked) false ⟨#[], #[.int .i64 0], []⟩ 8 (by kernel_rfl) (by kernel_rfl) (by kernel_rfl) (by kernel_rfl)) ?_
  intro W base args ds gs before hval0 hW hcnd _
  have hval : ∀ (j : Nat) t v, Try.f7.params[j]? = some t → args[j]? = some v → Value.okWide Try.prog W .any base t v := hval0
  have hW' := hW
  obtain ⟨p, q, hA0, hV, rfl, hfz, hnd⟩ := hW
  have hA : DataW.TrodAll enc Try.prog W 0 (fun _ => true) true Try.f7.params.toList args.toList ds p := hA0
  rw [Try.params7] at hA hval
  obtain ⟨v0, vs0, d0, ds0, p0, q0, hargs, rfl, rfl, h0, r0⟩ := trodAll_cons hA
  obtain ⟨rfl, rfl, rfl⟩ := trodAll_nil r0
  obtain rfl : args = #[v0] := by cases args; simp_all
  obtain ⟨rfl, rfl⟩ := trodVars_none hV
  obtain ⟨a0, rfl, rfl, rfl, w0⟩ := open_int Try.underlying3 (hval 0 3 v0 rfl rfl) h0
  clear hA0 hval0
  refine (walk a0 W w0).mono fun e W' ⟨he, bel⟩ => ?_
  subst he
  exact ⟨_, rfl, _, _, _, [], _, [], hW', trodAll_mk1 (shut_bool Try.underlying4 _), (trodAll_cons_mk (shut_int Try.underlying3 w0) trodAll_mk0), rfl, bel.frame _, fun h => by cases h⟩

theorem over : Rows.tallyNobodyRow.holds Try.pinned (OpenSpec.ofChange Rows.tallyNobodySpec) :=
  OpenClaim.holds_of_wide 7 Try.f7 rfl rfl rfl rfl rfl rfl rfl ⟨rfl, rfl, rfl, rfl, rfl⟩ rfl rfl rfl rfl rfl (by kernel_rfl) Try.func7 (by kernel_rfl)
    (of_decide_eq_true (by kernel_rfl)) (by unfold Func.isWrapper; first | (rw [if_pos (by decide +kernel)]; kernel_rfl) | (rw [if_neg (by decide +kernel)]; exact ⟨rfl, rfl⟩))
    (fun os started H enc _ => lifted os started H enc)
end Go.Proofs.Ytiidmiioegdfaaa.TallyNobody

namespace Go.Proofs.Ytiidmiioegdfaaa
theorem tallyNobody_holds : Rows.TallyNobodySaid := TallyNobody.over
#print axioms tallyNobody_holds
end Go.Proofs.Ytiidmiioegdfaaa
