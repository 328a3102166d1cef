/-
  PROVED: casebooklaw13.AcceptNobody answers true and leaves its arguments as they were, for any epoch and any chain: the row's own reading and nothing else is assumed.
-/
import Derived.Test.YtaaffceanjpmbaaAccT
import Derived.Test.YtaaffceanjpmbaaItemArgs
namespace Go.Proofs.Ytaaffceanjpmbaa.AcceptNobody
open Go.ChangeShapes Go.WideShapes Go.ChangeAt Go.RowKit

set_option maxRecDepth 100000 in
set_option maxHeartbeats 1000000 in
theorem prep_nil (ep r k : Int) (w : World) : Calls Try.prog 10 #[.pointer none, .int .i64 ep, .agg #[.int .i64 r, .int .i64 k]] w fun e w' => e = .returned (.tuple #[.agg #[.int .i64 0, .int .i64 0, .int .i64 0, .int .i64 0, .bool false, .int .i64 0, .slice none 0 0], .int .i64 1]) ∧ Below w.heap.size w w' := by
  go_enter Try.func10, Try.ntmps10
  go_wp2
  go_returns
  exact ⟨rfl, by go_grown⟩
set_option maxHeartbeats 400000 in
theorem acc_nil (ec : Int) (a : Option Addr) (n c : Nat) (r k : Int) (b : Bool) (w : World) : Calls Try.prog 16 #[.pointer none, .agg #[.int .i64 ec, .slice a n c], .agg #[.int .i64 r, .int .i64 k], .bool b] w fun e w' => e = .returned (.int .i64 1) ∧ Below w.heap.size w w' := by
  go_enter Try.func16, Try.ntmps16
  go_wp2
  go_returns
  exact ⟨rfl, by go_grown⟩
set_option maxHeartbeats 400000 in
theorem lrn_nil (ec : Int) (a : Option Addr) (n c : Nat) (w : World) : Calls Try.prog 11 #[.pointer none, .agg #[.int .i64 ec, .slice a n c]] w fun e w' => e = .returned (.int .i64 1) ∧ Below w.heap.size w w' := by
  go_enter Try.func11, Try.ntmps11
  go_wp2
  go_returns
  exact ⟨rfl, by go_grown⟩
set_option maxHeartbeats 400000 in
theorem bytes_nil (w : World) : Calls Try.prog 17 #[.pointer none] w fun e w' => e = .returned (.slice none 0 0) ∧ w = w' := by
  go_enter Try.func17, Try.ntmps17
  go_wp2
  go_returns
  exact ⟨rfl, rfl⟩
set_option maxHeartbeats 1000000 in
set_option maxRecDepth 100000 in
theorem known_nil (w : World) : Calls Try.prog 14 #[.pointer none] w fun e w' => e = .returned (.agg #[.int .i64 0, .slice none 0 0]) ∧ Below w.heap.size w w' := by
  go_enter Try.func14, Try.ntmps14
  go_wp2
  go_returns
  exact ⟨rfl, by go_grown⟩
set_option maxHeartbeats 1000000 in
set_option maxRecDepth 100000 in
theorem vote_nil (w : World) : Calls Try.prog 12 #[.pointer none] w fun e w' => e = .returned (.agg #[.int .i64 0, .int .i64 0, .int .i64 0, .int .i64 0, .bool false, .int .i64 0, .slice none 0 0]) ∧ Below w.heap.size w w' := by
  go_enter Try.func12, Try.ntmps12
  go_wp2
  go_returns
  exact ⟨rfl, by go_grown⟩
set_option maxRecDepth 100000 in
set_option maxHeartbeats 4000000 in
theorem walk (ep ec : Int) (v : Value) (l : List Int) (w : World) (_hw : (Lit.int .i64 ep).wf = true) (hI : Ints w w.heap.size v l) :
    Calls Try.prog 4 #[.int .i64 ep, .agg #[.int .i64 ec, v]] w fun e w' => e = .returned (.bool true) ∧ Below w.heap.size w w' := by
  have HT := Lib.hid (fun u => told13_any u)
  obtain ⟨a0, c0, rfl⟩ : ∃ a c, v = .slice a l.length c := by obtain ⟨a, c, h, _⟩ := hI; exact ⟨a, c, h⟩
  obtain ⟨m, hm⟩ : ∃ m, m = l.length := ⟨_, rfl⟩
  rw [← hm]
  clear hI hm
  have HP := Lib.hid (fun u => prep_nil ep 0 0 u)
  have HA := Lib.hid (fun u => acc_nil ec a0 m c0 0 0 false u)
  have HL := Lib.hid (fun u => lrn_nil ec a0 m c0 u)
  have HB := Lib.hid (fun u => bytes_nil u)
  have HK := Lib.hid (fun u => known_nil u)
  have HV := Lib.hid (fun u => vote_nil u)
  have kf1 : ∀ (u : World), (Instr.field 28 (.agg #[.int .i64 0, .slice none 0 0]) 1).run Try.prog u = .ok (.slice none 0 0) u := fun u => by kernel_rfl
  have kf2 : ∀ (u : World), (Instr.field 32 (.agg #[.int .i64 0, .int .i64 0, .int .i64 0, .int .i64 0, .bool false, .int .i64 0, .slice none 0 0]) 2).run Try.prog u = .ok (.bool false) u := fun u => by kernel_rfl
  have C0 : Hid (ChT (w.alloc (.cells #[.int .i64 ec, .slice a0 m c0] 28)) w.heap.size ec (.slice a0 m c0)) := ChT.fresh w _ _
  have B0 : Hid (Below w.heap.size w (w.alloc (.cells #[.int .i64 ec, .slice a0 m c0] 28))) := (Below.refl _ w).alloc (Nat.le_refl _) _
  by_cases h8 : (8 : Int) < (m : Int)
  · go_enter Try.func4, Try.ntmps4
    go_wp2_with fail
    refine (HT.out _).mono ?_
    rintro e w1 ⟨rfl, B1⟩
    have C1 := Lib.hid (B0.out.trans (B1.mono (by simp)))
    clear B1
    go_wp2
    go_returns
    exact ⟨rfl, C1.out⟩
  · go_enter Try.func4, Try.ntmps4
    go_wp2_with fail
    refine (HP.out _).mono ?_
    rintro e w1 ⟨rfl, B1⟩
    obtain ⟨y, hy⟩ : ∃ y, y = w1.alloc (.cells #[.int .i64 0, .int .i64 0, .int .i64 0, .int .i64 0, .bool false, .int .i64 0, .slice none 0 0] 32) := ⟨_, rfl⟩
    have b1 : Below w1.heap.size w1 y := by rw [hy]; exact (Below.refl _ _).alloc (Nat.le_refl _) _
    have B2 := Lib.hid (B0.out.trans ((B1.trans (b1.mono B1.size)).mono B0.out.size))
    have C2 := Lib.hid ((C0.out.keep B1 C0.out.lt).keep b1 (C0.out.keep B1 C0.out.lt).lt)
    have HY := Lib.hid hy
    clear B1 b1 hy
    go_wp2_with fail
    rw [← HY.out]
    refine (HT.out _).mono ?_
    rintro e w3 ⟨rfl, B3⟩
    have D3 := Lib.hid (B2.out.trans (B3.mono B2.out.size))
    have C3 := Lib.hid (C2.out.keep B3 C2.out.lt)
    clear B3
    obtain ⟨g0, g1, _, _⟩ := C3.out.cells
    go_wp2_with fail
    refine (HA.out _).mono ?_
    rintro e w4 ⟨rfl, B4⟩
    have D4 := Lib.hid (D3.out.trans (B4.mono D3.out.size))
    have C4 := Lib.hid (C3.out.keep B4 C3.out.lt)
    clear B4 g0 g1
    obtain ⟨g0, g1, _, _⟩ := C4.out.cells
    go_wp2_with fail
    refine (HL.out _).mono ?_
    rintro e w5 ⟨rfl, B5⟩
    have D5 := Lib.hid (D4.out.trans (B5.mono D4.out.size))
    clear B5 g0 g1
    go_wp2_with fail
    refine (HB.out _).mono ?_
    rintro e w6 ⟨rfl, rfl⟩
    go_wp2_with fail
    refine (HK.out _).mono ?_
    rintro e w7 ⟨rfl, B7⟩
    have D7 := Lib.hid (D5.out.trans (B7.mono D5.out.size))
    clear B7
    go_wp2_with fail
    refine (HV.out _).mono ?_
    rintro e w8 ⟨rfl, B8⟩
    have D8 := Lib.hid (D7.out.trans (B8.mono D7.out.size))
    clear B8
    go_wp2
    go_returns
    exact ⟨rfl, D8.out⟩

set_option maxRecDepth 100000 in
theorem lifted (os : Os) (started : os.Started) (H : Type) (enc : TypeId × Value → H) :
    ReturnsInHanded {} Try.checked os 4 .any (Rows.acceptNobodySpec.pre6 enc Try.prog Try.f4 Rows.acceptNobodyRow.domain false) (Rows.acceptNobodySpec.post enc Try.prog Try.f4 false true false false) := by
  refine returnsInHanded_of_change (C := Try.checked) own started (by kernel_rfl) Try.func4
    (ChangeSpec.witness6 (enc := enc) (C := Try.checked) false ⟨#[], #[.int .i64 0, .agg #[.int .i64 0, .slice none 0 0]], []⟩ 8 (by kernel_rfl) (by kernel_rfl) (by kernel_rfl) (by kernel_rfl)) ?_
  intro W base args ds gs before hval0 hW hcnd _
  have hval : ∀ (j : Nat) t v, Try.f4.params[j]? = some t → args[j]? = some v → Value.okWide Try.prog W .any base t v := hval0
  have hW' := hW
  obtain ⟨p, q, hA0, hV, rfl, hfz, hnd⟩ := hW
  have hA : DataW.TrodAll enc Try.prog W 0 (fun _ => true) true Try.f4.params.toList args.toList ds p := hA0
  rw [Try.params4] at hA hval
  obtain ⟨v0, vs0, d0, ds0, p0, q0, hargs, rfl, rfl, h0, r0⟩ := trodAll_cons hA
  obtain ⟨v1, vs1, d1, ds1, p1, q1, rfl, rfl, rfl, h1, r1⟩ := trodAll_cons r0
  obtain ⟨rfl, rfl, rfl⟩ := trodAll_nil r1
  obtain rfl : args = #[v0, v1] := by cases args; simp_all
  obtain ⟨rfl, rfl⟩ := trodVars_none hV
  obtain ⟨a0, rfl, rfl, rfl, w0⟩ := open_int Try.underlying3 (hval 0 3 v0 rfl rfl) h0
  have k1 := h1
  have lt1 : ∀ x ∈ p1, x.block < W.heap.size := by obtain ⟨m, hm⟩ := k1; exact DataW.trod_lt m _ _ _ hm
  obtain ⟨xa1, xb1, xc1, xd1, l1, rfl, w1⟩ := chain_open (hval 1 28 v1 rfl rfl) h1
  clear hA0 hval0
  refine (walk a0 xa1 (.slice xb1 xc1 xd1) l1 W w0 w1).mono fun e W' ⟨he, bel⟩ => ?_
  subst he
  exact ⟨_, rfl, _, _, _, [], _, [], hW', trodAll_mk1 (shut_bool Try.underlying4 _), (trodAll_cons_mk (shut_int Try.underlying3 w0) (trodAll_cons_mk (Below.trod laidOut (by kernel_rfl) (of_decide_eq_true (by kernel_rfl)) k1 bel lt1) trodAll_mk0)), rfl, bel.frame _, fun h => by cases h⟩

theorem over : Rows.acceptNobodyRow.holds Try.pinned (OpenSpec.ofChange Rows.acceptNobodySpec) :=
  OpenClaim.holds_of_wide 4 Try.f4 rfl rfl rfl rfl rfl rfl rfl ⟨rfl, rfl, rfl, rfl, rfl⟩ rfl rfl rfl rfl rfl (by kernel_rfl) Try.func4 (by kernel_rfl)
    (of_decide_eq_true (by kernel_rfl)) (by unfold Func.isWrapper; first | (rw [if_pos (by decide +kernel)]; kernel_rfl) | (rw [if_neg (by decide +kernel)]; exact ⟨rfl, rfl⟩))
    (fun os started H enc _ => lifted os started H enc)
end Go.Proofs.Ytaaffceanjpmbaa.AcceptNobody

namespace Go.Proofs.Ytaaffceanjpmbaa
theorem acceptNobody_holds : Rows.AcceptNobodySaid := AcceptNobody.over
#print axioms acceptNobody_holds
end Go.Proofs.Ytaaffceanjpmbaa
