/-
  PROVED: casebooklaw18.LineNobody answers true and leaves its arguments as they were, for any number and any request: the row's own reading and nothing else is assumed.
-/
import Derived.Test.YtkbjnhonopgffaaLnU
import Derived.Test.YtkbjnhonopgffaaDiskV
namespace Go.Proofs.Ytkbjnhonopgffaa.LineNobody
open Go.ChangeShapes Go.WideShapes Go.ChangeAt Go.RowKit

set_option maxHeartbeats 400000 in
theorem reqs0 (a a' : Option Addr) (c c' : Nat) (w : World) : Calls Try.prog 25 #[.slice a 0 c, .slice a' 0 c'] w fun e w' => e = .returned (.bool true) ∧ w = w' := by
  go_enter Try.func25, Try.ntmps25
  go_wp2
  go_loopw [5] (fun v w' => v = .int .i64 0 ∧ w = w') (fun _ _ => 0)
  case atStart => exact ⟨rfl, rfl⟩
  case round =>
    obtain ⟨rfl, rfl⟩ := hrel
    go_wp2
    go_returns
    exact ⟨rfl, rfl⟩
theorem since0 (n most : Int) (w : World) (hw : 0 < w.heap.size) : Calls Try.prog 22 #[.pointer none, .int .i64 n, .int .i64 most] w fun e w' => (∃ a c, e = .returned (.slice a 0 c)) ∧ Below w.heap.size w w' := by
  by_cases hn : n < 0
  · exact (lsince_neg none n most hn w).mono fun e w' ⟨he, hw'⟩ => ⟨⟨none, 0, he⟩, by rw [hw']; exact Below.refl _ _⟩
  · obtain ⟨k, rfl⟩ : ∃ k : Nat, n = k := ⟨n.toNat, by omega⟩
    refine (lsince_nil k most w hw).mono fun e w' ⟨v, he, ho, hb⟩ => ?_
    obtain ⟨a, c, rfl⟩ := own_shape ho
    exact ⟨⟨a, c, he⟩, hb⟩

set_option maxRecDepth 100000 in
set_option maxHeartbeats 4000000 in
theorem walk (n cl sq kd id mt : Int) (dt : ByteArray) (w : World) (_ : (Lit.int .i64 n).wf = true) (hd : dt.size ≤ maxLen) :
    Calls Try.prog 4 #[.int .i64 n, .agg #[.int .i64 cl, .int .i64 sq, .int .i64 kd, .int .i64 id, .int .i64 mt, .string dt]] w fun e w' => e = .returned (.bool true) ∧ Below w.heap.size w w' := by
  unfold maxLen at hd
  have HT := Lib.hid (fun u => told18_any u)
  have H1 := Lib.hid (fun u => lput_nil cl sq kd id mt dt u)
  have H2 := Lib.hid (fun u => lfind_nil n n u)
  have H3 := Lib.hid (fun u => lreply_nil n u)
  have H4 := Lib.hid (fun u => ltake_nil n cl sq kd id mt dt u)
  have H5 := Lib.hid (fun u => lcommit_nil n u)
  have H6 := Lib.hid (fun u => llen_nil u)
  have H7 := Lib.hid (fun u => lcom_nil u)
  have H8 := Lib.hid (fun (m k : Int) u (hu : w.heap.size < u.heap.size) => since0 m k u (by omega))
  have H9 := Lib.hid (fun u => lseq_nil n u)
  have H10 := Lib.hid (fun u => llast_nil n u)
  have H11 := Lib.hid (fun a c u => reqs0 a none c 0 u)
  by_cases h200 : 200 < dt.size
  · go_enter Try.func4, Try.ntmps4
    go_wp2_with fail
    refine (HT.out _).mono ?_
    rintro e w1 ⟨rfl, B1⟩
    have C1 := Lib.hid (((Below.refl _ w).alloc (Nat.le_refl _) _).trans (B1.mono (by simp)))
    clear B1
    go_wp2
    go_returns
    exact ⟨rfl, C1.out⟩
  · have h201 : dt.size ≤ 200 := by omega
    clear h200
    have hE : Hid (∀ u, Below w.heap.size w u → ReqB u w.heap.size cl sq kd id mt dt → ∀ u', Below u.heap.size u u' → Below w.heap.size w u' ∧ ReqB u' w.heap.size cl sq kd id mt dt) := fun u h r u' hb => ⟨h.trans (hb.mono h.size), r.keep hb r.lt⟩
    go_enter Try.func4, Try.ntmps4
    go_wp2_with fail
    refine (H1.out _).mono ?_
    rintro e w1 ⟨rfl, B1⟩
    have C1 : Hid (Below w.heap.size w w1 ∧ ReqB w1 w.heap.size cl sq kd id mt dt) := ⟨((Below.refl _ w).alloc (Nat.le_refl _) _).trans (B1.mono (by simp)), (ReqB.fresh w cl sq kd id mt dt 29).keep B1 (by simp)⟩
    clear B1
    go_wp2_with fail
    refine (H2.out _).mono ?_
    rintro e w2 ⟨rfl, B2⟩
    have C2 := Lib.hid (hE.out _ C1.out.1 C1.out.2 _ B2)
    clear B2 C1
    go_wp2_with fail
    refine (H3.out _).mono ?_
    rintro e w3 ⟨rfl, B3⟩
    have C3 := Lib.hid (hE.out _ C2.out.1 C2.out.2 _ B3)
    have C4 := Lib.hid (hE.out _ C3.out.1 C3.out.2 _ ((Below.refl _ _).alloc (Nat.le_refl _) (.cells #[.int .i64 0, .int .i64 0, .string ⟨#[]⟩, .slice none 0 0] 36)))
    clear B3 C2 C3
    go_wp2_with fail
    refine (HT.out _).mono ?_
    rintro e w4 ⟨rfl, B4⟩
    have C5 := Lib.hid (hE.out _ C4.out.1 C4.out.2 _ B4)
    clear B4 C4
    obtain ⟨c0, c1, c2, c3, c4, c5⟩ := C5.out.2.cells
    go_wp2_with fail
    refine (H4.out _).mono ?_
    rintro e w5 ⟨rfl, B5⟩
    have C6 := Lib.hid (hE.out _ C5.out.1 C5.out.2 _ B5)
    clear B5 C5 c0 c1 c2 c3 c4 c5
    go_wp2_with fail
    refine (H5.out _).mono ?_
    rintro e w6 ⟨rfl, B6⟩
    have C7 := Lib.hid (hE.out _ C6.out.1 C6.out.2 _ B6)
    clear B6 C6
    go_wp2_with fail
    refine (H6.out _).mono ?_
    rintro e w7 ⟨rfl, rfl⟩
    go_wp2_with fail
    refine (H7.out _).mono ?_
    rintro e w7 ⟨rfl, rfl⟩
    go_wp2_with fail
    refine (H8.out _ _ _ C7.out.2.lt).mono ?_
    rintro e w8 ⟨⟨a8, c8, rfl⟩, B8⟩
    have C8 := Lib.hid (hE.out _ C7.out.1 C7.out.2 _ B8)
    clear B8 C7
    go_wp2_with fail
    refine (H9.out _).mono ?_
    rintro e w9 ⟨rfl, B9⟩
    have C9 := Lib.hid (hE.out _ C8.out.1 C8.out.2 _ B9)
    clear B9 C8
    go_wp2_with fail
    refine (H10.out _).mono ?_
    rintro e w10 ⟨rfl, rfl⟩
    go_wp2_with fail
    refine (H8.out _ _ _ C9.out.2.lt).mono ?_
    rintro e w10 ⟨⟨a10, c10, rfl⟩, B10⟩
    have C10 := Lib.hid (hE.out _ C9.out.1 C9.out.2 _ B10).1
    clear B10 C9
    go_wp2_with fail
    refine (H11.out _ _ _).mono ?_
    rintro e w11 ⟨rfl, rfl⟩
    clear HT H1 H2 H3 H4 H5 H6 H7 H8 H9 H10 H11 hE
    go_wp2
    go_returns
    exact ⟨rfl, C10.out⟩

set_option maxRecDepth 100000 in
theorem lifted (os : Os) (started : os.Started) (H : Type) (enc : TypeId × Value → H) :
    ReturnsInHanded {} Try.checked os 4 .any (Rows.lineNobodySpec.pre6 enc Try.prog Try.f4 Rows.lineNobodyRow.domain false) (Rows.lineNobodySpec.post enc Try.prog Try.f4 false true false false) := by
  refine returnsInHanded_of_change (C := Try.checked) own started (by kernel_rfl) Try.func4
    (ChangeSpec.witness6 (enc := enc) (C := Try.checked) false ⟨#[], #[.int .i64 0, .agg #[.int .i64 0, .int .i64 0, .int .i64 0, .int .i64 0, .int .i64 0, .string ByteArray.empty]], []⟩ 8 (by kernel_rfl) (by kernel_rfl) (by kernel_rfl) (by kernel_rfl)) ?_
  intro W base args ds gs before hval0 hW hcnd _
  have hval : ∀ (j : Nat) t v, Try.f4.params[j]? = some t → args[j]? = some v → Value.okWide Try.prog W .any base t v := hval0
  have hW' := hW
  obtain ⟨p, q, hA0, hV, rfl, hfz, hnd⟩ := hW
  have hA : DataW.TrodAll enc Try.prog W 0 (fun _ => true) true Try.f4.params.toList args.toList ds p := hA0
  rw [Try.params4] at hA hval
  obtain ⟨v0, vs0, d0, ds0, p0, q0, hargs, rfl, rfl, h0, r0⟩ := trodAll_cons hA
  obtain ⟨v1, vs1, d1, ds1, p1, q1, rfl, rfl, rfl, h1, r1⟩ := trodAll_cons r0
  obtain ⟨rfl, rfl, rfl⟩ := trodAll_nil r1
  obtain rfl : args = #[v0, v1] := by cases args; simp_all
  obtain ⟨rfl, rfl⟩ := trodVars_none hV
  obtain ⟨a0, rfl, rfl, rfl, w0⟩ := open_int Try.underlying3 (hval 0 3 v0 rfl rfl) h0
  have k1 := h1
  have lt1 : ∀ x ∈ p1, x.block < W.heap.size := by obtain ⟨m, hm⟩ := k1; exact DataW.trod_lt m _ _ _ hm
  obtain ⟨⟨xa1, xb1, xc1, xd1, xe1, xf1⟩, w1, rfl⟩ := req_open (hval 1 29 v1 rfl rfl) h1
  clear hA0 hval0
  refine (walk a0 xa1 xb1 xc1 xd1 xe1 xf1 W w0 w1).mono fun e W' ⟨he, bel⟩ => ?_
  subst he
  exact ⟨_, rfl, _, _, _, [], _, [], hW', trodAll_mk1 (shut_bool Try.underlying4 _), (trodAll_cons_mk (shut_int Try.underlying3 w0) (trodAll_cons_mk (Below.trod laidOut (by kernel_rfl) (of_decide_eq_true (by kernel_rfl)) k1 bel lt1) trodAll_mk0)), rfl, bel.frame _, fun h => by cases h⟩

theorem over : Rows.lineNobodyRow.holds Try.pinned (OpenSpec.ofChange Rows.lineNobodySpec) :=
  OpenClaim.holds_of_wide 4 Try.f4 rfl rfl rfl rfl rfl rfl rfl ⟨rfl, rfl, rfl, rfl, rfl⟩ rfl rfl rfl rfl rfl (by kernel_rfl) Try.func4 (by kernel_rfl)
    (of_decide_eq_true (by kernel_rfl)) (by unfold Func.isWrapper; first | (rw [if_pos (by decide +kernel)]; kernel_rfl) | (rw [if_neg (by decide +kernel)]; exact ⟨rfl, rfl⟩))
    (fun os started H enc _ => lifted os started H enc)
end Go.Proofs.Ytkbjnhonopgffaa.LineNobody

namespace Go.Proofs.Ytkbjnhonopgffaa
theorem lineNobody_holds : Rows.LineNobodySaid := LineNobody.over
#print axioms lineNobody_holds
end Go.Proofs.Ytkbjnhonopgffaa
