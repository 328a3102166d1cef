/-
  PROVED: casebooklaw5.StoreNobody answers true and leaves its argument as it was, for any request: the row's own reading and nothing else is assumed.
-/
import Derived.Test.YticokpaegadbbaaStoreF
namespace Go.Proofs.Yticokpaegadbbaa.StoreNobody
open Go.ChangeShapes Go.WideShapes Go.ChangeAt Go.RowKit

set_option maxHeartbeats 400000 in
theorem sbytes_nil (w : World) : Calls Try.prog 20 #[.pointer none] w fun e w' => e = .returned (.slice none 0 0) ∧ w = w' := by
  go_enter Try.func20, Try.ntmps20
  go_wp2
  go_returns
  exact ⟨rfl, rfl⟩

set_option maxRecDepth 100000 in
set_option maxHeartbeats 4000000 in
theorem walk (cl sq kd id mt : Int) (dt : ByteArray) (w : World) (hd : dt.size ≤ maxLen) :
    Calls Try.prog 7 #[.agg #[.int .i64 cl, .int .i64 sq, .int .i64 kd, .int .i64 id, .int .i64 mt, .string dt]] w fun e w' => e = .returned (.bool true) ∧ Below w.heap.size w w' := by
  unfold maxLen at hd
  have HT := Lib.hid (fun u => told5_any u)
  have H1 := Lib.hid (fun u => sput_nil cl sq kd id mt dt u)
  have H2 := Lib.hid (fun u => sask_nil cl sq kd id mt dt u)
  have H3 := Lib.hid (fun u => slast_nil cl u)
  have H4 := Lib.hid (fun u => slen_nil u)
  have H5 := Lib.hid (fun u => sseq_nil 0 u)
  have H6 := Lib.hid (fun u => sids_nil u)
  have H7 := Lib.hid (fun u => sversions_nil id u)
  have H8 := Lib.hid (fun u => sbytes_nil u)
  by_cases h100 : 100 < dt.size
  · go_enter Try.func7, Try.ntmps7
    go_wp2_with fail
    refine (HT.out _).mono ?_
    rintro e w1 ⟨rfl, B1⟩
    have C1 := Lib.hid (((Below.refl _ w).alloc (Nat.le_refl _) _).trans (B1.mono (by simp)))
    clear B1
    go_wp2
    go_returns
    exact ⟨rfl, C1.out⟩
  · have h101 : dt.size ≤ 100 := by omega
    clear h100
    go_enter Try.func7, Try.ntmps7
    go_wp2_with fail
    refine (H1.out _).mono ?_
    rintro e w1 ⟨rfl, B1⟩
    have C1 : Hid (Below w.heap.size w w1) := ((Below.refl _ w).alloc (Nat.le_refl _) _).trans (B1.mono (by simp))
    have D1 : ReqB w1 w.heap.size cl sq kd id mt dt := (ReqB.fresh w cl sq kd id mt dt 40).keep B1 (by simp)
    have al1 : Below w1.heap.size w1 (w1.alloc (.cells #[.int .i64 0, .int .i64 0, .string ⟨#[]⟩, .slice none 0 0] 34)) := (Below.refl _ _).alloc (Nat.le_refl _) _
    have D2 := Lib.hid (D1.keep al1 D1.lt)
    have C2 := Lib.hid (C1.out.trans (al1.mono C1.out.size))
    obtain ⟨c0, c1, c2, c3, c4, c5⟩ := D2.out.cells
    clear B1 D1 al1 C1
    go_wp2_with fail
    refine (H2.out _).mono ?_
    rintro e w2 ⟨rfl, B2⟩
    have C3 := Lib.hid (C2.out.trans (B2.mono C2.out.size))
    have D3 := D2.out.keep B2 D2.out.lt
    have al2 : Below w2.heap.size w2 (w2.alloc (.cells #[.int .i64 0, .int .i64 0, .string ⟨#[]⟩, .slice none 0 0] 34)) := (Below.refl _ _).alloc (Nat.le_refl _) _
    have D4 := Lib.hid (D3.keep al2 D3.lt)
    have C4 := Lib.hid (C3.out.trans (al2.mono C3.out.size))
    clear B2 D3 al2 C3 C2 D2 c0 c1 c2 c3 c4 c5
    obtain ⟨c0, c1, c2, c3, c4, c5⟩ := D4.out.cells
    go_wp2_with fail
    refine (H3.out _).mono ?_
    rintro e w3 ⟨a3, p3, rfl, _, B3⟩
    have C5 := Lib.hid (C4.out.trans (B3.mono C4.out.size))
    have D5 := D4.out.keep B3 D4.out.lt
    have al3 : Below w3.heap.size w3 (w3.alloc (.cells #[.int .i64 0, .int .i64 0, .string ⟨#[]⟩, .slice a3 0 p3] 34)) := (Below.refl _ _).alloc (Nat.le_refl _) _
    have D6 := Lib.hid (D5.keep al3 D5.lt)
    have C6 := Lib.hid (C5.out.trans (al3.mono C5.out.size))
    clear B3 D5 al3 C5 C4 D4 c0 c1 c2 c3 c4 c5
    unfold zeroL
    go_wp2_with fail
    refine (HT.out _).mono ?_
    rintro e w4 ⟨rfl, B4⟩
    have C7 := Lib.hid (C6.out.trans (B4.mono C6.out.size))
    have D7 := Lib.hid (D6.out.keep B4 D6.out.lt)
    clear B4 C6 D6
    go_wp2_with fail
    refine (H4.out _).mono ?_
    rintro e w5 ⟨rfl, rfl⟩
    go_wp2_with fail
    refine (H5.out _).mono ?_
    rintro e w5 ⟨rfl, B5⟩
    have C8 := Lib.hid (C7.out.trans (B5.mono C7.out.size))
    have D8 := Lib.hid (D7.out.keep B5 D7.out.lt)
    clear B5 C7 D7
    go_wp2_with fail
    refine (H6.out _).mono ?_
    rintro e w6 ⟨rfl, rfl⟩
    obtain ⟨c0, c1, c2, c3, c4, c5⟩ := D8.out.cells
    go_wp2_with fail
    refine (H7.out _).mono ?_
    rintro e w7 ⟨rfl, rfl⟩
    go_wp2_with fail
    refine (H8.out _).mono ?_
    rintro e w8 ⟨rfl, rfl⟩
    go_wp2
    go_returns
    exact ⟨rfl, C8.out⟩


set_option maxRecDepth 100000 in
theorem lifted (os : Os) (started : os.Started) (H : Type) (enc : TypeId × Value → H) :
    ReturnsInHanded {} Try.checked os 7 .any (Rows.storeNobodySpec.pre6 enc Try.prog Try.f7 Rows.storeNobodyRow.domain false) (Rows.storeNobodySpec.post enc Try.prog Try.f7 false true false false) := by
  refine returnsInHanded_of_change (C := Try.checked) own started (by kernel_rfl) Try.func7
    (ChangeSpec.witness6 (enc := enc) (C := Try.checked) false ⟨#[], #[.agg #[.int .i64 0, .int .i64 0, .int .i64 0, .int .i64 0, .int .i64 0, .string ByteArray.empty]], []⟩ 8 (by kernel_rfl) (by kernel_rfl) (by kernel_rfl) (by kernel_rfl)) ?_
  intro W base args ds gs before hval0 hW hcnd _
  have hval : ∀ (j : Nat) t v, Try.f7.params[j]? = some t → args[j]? = some v → Value.okWide Try.prog W .any base t v := hval0
  have hW' := hW
  obtain ⟨p, q, hA0, hV, rfl, hfz, hnd⟩ := hW
  have hA : DataW.TrodAll enc Try.prog W 0 (fun _ => true) true Try.f7.params.toList args.toList ds p := hA0
  rw [Try.params7] at hA hval
  obtain ⟨v0, vs0, d0, ds0, p0, q0, hargs, rfl, rfl, h0, r0⟩ := trodAll_cons hA
  obtain ⟨rfl, rfl, rfl⟩ := trodAll_nil r0
  obtain rfl : args = #[v0] := by cases args; simp_all
  obtain ⟨rfl, rfl⟩ := trodVars_none hV
  have k0 := h0
  have lt0 : ∀ x ∈ p0, x.block < W.heap.size := by obtain ⟨m, hm⟩ := k0; exact DataW.trod_lt m _ _ _ hm
  obtain ⟨⟨xa0, xb0, xc0, xd0, xe0, xf0⟩, w0, rfl⟩ := req_open (hval 0 40 v0 rfl rfl) h0
  clear hA0 hval0
  refine (walk xa0 xb0 xc0 xd0 xe0 xf0 W w0).mono fun e W' ⟨he, bel⟩ => ?_
  subst he
  exact ⟨_, rfl, _, _, _, [], _, [], hW', trodAll_mk1 (shut_bool Try.underlying4 _), (trodAll_cons_mk (Below.trod laidOut (by kernel_rfl) (of_decide_eq_true (by kernel_rfl)) k0 bel lt0) trodAll_mk0), rfl, bel.frame _, fun h => by cases h⟩

theorem over : Rows.storeNobodyRow.holds Try.pinned (OpenSpec.ofChange Rows.storeNobodySpec) :=
  OpenClaim.holds_of_wide 7 Try.f7 rfl rfl rfl rfl rfl rfl rfl ⟨rfl, rfl, rfl, rfl, rfl⟩ rfl rfl rfl rfl rfl (by kernel_rfl) Try.func7 (by kernel_rfl)
    (of_decide_eq_true (by kernel_rfl)) (by unfold Func.isWrapper; first | (rw [if_pos (by decide +kernel)]; kernel_rfl) | (rw [if_neg (by decide +kernel)]; exact ⟨rfl, rfl⟩))
    (fun os started H enc _ => lifted os started H enc)
end Go.Proofs.Yticokpaegadbbaa.StoreNobody

namespace Go.Proofs.Yticokpaegadbbaa
theorem storeNobody_holds : Rows.StoreNobodySaid := StoreNobody.over
#print axioms storeNobody_holds
end Go.Proofs.Yticokpaegadbbaa
