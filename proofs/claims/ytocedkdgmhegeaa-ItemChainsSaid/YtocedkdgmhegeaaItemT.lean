/-
  TWO REQUESTS COMPARED; THE LAW's told(): true, whatever the memory. No condition.
-/
import Derived.Test.YtocedkdgmhegeaaItemCGet2
namespace Go.Proofs.Ytocedkdgmhegeaa
open Go.RowKit

set_option maxHeartbeats 1000000 in
theorem run_eq_req (cl sq kd id mt cl' sq' kd' id' mt' : Int) (dt dt' : ByteArray) (w : World) :
    (binOp .eql 23 (.agg #[.int .i64 cl, .int .i64 sq, .int .i64 kd, .int .i64 id, .int .i64 mt, .string dt]) (.agg #[.int .i64 cl', .int .i64 sq', .int .i64 kd', .int .i64 id', .int .i64 mt', .string dt'])).run Try.prog w =
      .ok (.bool (cl == cl' && sq == sq' && kd == kd' && id == id' && mt == mt' && dt.toList == dt'.toList)) w := by
  rw [run_eql_struct, run_equalIn_agg _ _ _ _ _ (by kernel_rfl) (by kernel_rfl)]
  simp [Program.fieldsOf, Try.underlying23, Op.eqFields, go_sem]
  repeat' split
  all_goals simp_all

theorem run_eq_same (cl sq kd id mt : Int) (dt : ByteArray) (w : World) :
    (binOp .eql 23 (.agg #[.int .i64 cl, .int .i64 sq, .int .i64 kd, .int .i64 id, .int .i64 mt, .string dt]) (.agg #[.int .i64 cl, .int .i64 sq, .int .i64 kd, .int .i64 id, .int .i64 mt, .string dt])).run Try.prog w =
      .ok (.bool true) w := by
  rw [run_eq_req]
  simp

theorem ints_two (w : World) (a b : Int) (e : TypeId) : Ints (w.alloc (.cells #[.int .i64 a, .int .i64 b] e)) (w.alloc (.cells #[.int .i64 a, .int .i64 b] e)).heap.size (.slice (some ⟨w.heap.size, 0, none⟩) 2 2) [a, b] := by
  refine ⟨_, _, rfl, Nat.le_refl _, by decide, fun h => (by cases h), fun _ => ⟨w.heap.size, 0, rfl, by simp, fun j hj => ?_⟩⟩
  have hb := heap_alloc_new w (.cells #[.int .i64 a, .int .i64 b] e)
  match j, hj with
  | 0, _ => exact cell_of_two0 hb
  | 1, _ => exact cell_of_two1 hb

def tq : Got := ⟨1, 2, 1, 3, 0, [120]⟩
def tc : GotC := ⟨1, [0, 2]⟩
theorem tq_may : tq.req.may := by decide
theorem tc_may : tc.chain.may := by decide

set_option maxHeartbeats 2000000 in
set_option maxRecDepth 100000 in
theorem told2_any (w : World) : Calls Try.prog 10 #[] w fun e w' => e = .returned (.bool true) ∧ Below w.heap.size w w' := by
  have hlq : tq.bytes.length ≤ 140737488355328 := Nat.le_trans (req_len tq tq_may) (by decide)
  have hlc : tc.bytes.length ≤ 140737488355328 := Nat.le_trans (chain_len tc tc_may) (by decide)
  have HP : Hid (∀ u, Calls Try.prog 12 #[.agg #[.int .i64 1, .int .i64 2, .int .i64 1, .int .i64 3, .int .i64 0, .string ⟨#[120]⟩]] u fun e w' => ∃ v, e = .returned (.tuple #[v, .int .i64 0]) ∧
      w'.ownsRow u.heap.size 5 1 v tq.bytes.length (Lib.byteCells tq.bytes) ∧ Below u.heap.size u w') := fun u => putreq_yes 1 2 1 3 0 ⟨#[120]⟩ (by decide) u
  have HG : Hid (∀ v u, Byt u u.heap.size v tq.bytes → Calls Try.prog 17 #[v] u fun e w' => e = .returned (.tuple #[.agg #[.int .i64 1, .int .i64 2, .int .i64 1, .int .i64 3, .int .i64 0, .string ⟨#[120]⟩], .int .i64 0]) ∧ Below u.heap.size u w') := by
    intro v u hb
    have h := good_put progB_wide tq tq_may
    have := getreq_good v _ tq.bytes u hb (Nat.le_refl _) hlq h.1
    rw [h.2] at this
    exact this
  have HZ : Hid (∀ u, Calls Try.prog 17 #[.slice none 0 0] u fun e w' => e = .returned (.tuple #[.agg #[.int .i64 0, .int .i64 0, .int .i64 0, .int .i64 0, .int .i64 0, .string ⟨#[]⟩], .int .i64 2]) ∧ Below u.heap.size u w') :=
    fun u => getreq_bad _ _ [] u (Byt.none u u.heap.size) (Nat.le_refl _) (by decide) (by decide)
  have HPC : Hid (∀ v u, Ints u u.heap.size v [0, 2] → Calls Try.prog 20 #[.agg #[.int .i64 1, v]] u fun e w' => ∃ v', e = .returned (.tuple #[v', .int .i64 0]) ∧
      w'.ownsRow u.heap.size 5 1 v' tc.bytes.length (Lib.byteCells tc.bytes) ∧ Below u.heap.size u w') := fun v u hi => putchain_yes 1 v [0, 2] _ u hi (Nat.le_refl _) (by decide)
  have HGC : Hid (∀ v u, Byt u u.heap.size v tc.bytes → Calls Try.prog 23 #[v] u fun e w' => ∃ v', e = .returned (.tuple #[.agg #[.int .i64 1, v'], .int .i64 0]) ∧
      w'.ownsRow u.heap.size 3 1 v' 2 (intCells (ofNats [0, 2])) ∧ Below u.heap.size u w') := by
    intro v u hb
    have h := goodC_put progC_wide tc tc_may
    have := getchain_good v _ tc.bytes u hb (Nat.le_refl _) hlc h.1
    rw [h.2] at this
    exact this
  have HW : Hid (∀ u, Calls Try.prog 14 #[.agg #[.int .i64 1, .int .i64 2, .int .i64 1, .int .i64 3, .int .i64 0, .string ⟨#[120]⟩]] u fun e w' => e = .returned (.bool true) ∧ Below u.heap.size u w') := fun u => writes_any 1 2 1 3 0 ⟨#[120]⟩ u
  have HM : Hid (∀ u, Calls Try.prog 13 #[.agg #[.int .i64 1, .int .i64 2, .int .i64 1, .int .i64 3, .int .i64 0, .string ⟨#[120]⟩]] u fun e w' => e = .returned (.bool true) ∧ Below u.heap.size u w') := fun u => mayreq_r 1 2 1 3 0 ⟨#[120]⟩ (by decide) true (show _ = _ by decide) u
  have HM0 : Hid (∀ u, Calls Try.prog 13 #[.agg #[.int .i64 0, .int .i64 0, .int .i64 0, .int .i64 0, .int .i64 0, .string ⟨#[]⟩]] u fun e w' => e = .returned (.bool false) ∧ Below u.heap.size u w') := fun u => mayreq_r 0 0 0 0 0 ⟨#[]⟩ (by decide) false (show _ = _ by decide) u
  clear hlq hlc
  go_enter Try.func10, Try.ntmps10
  go_wp2_with fail
  refine (HP.out _).mono ?_
  rintro e w1 ⟨b1, rfl, O1, B1⟩
  have D1 : Hid (ReqB w1 w.heap.size 1 2 1 3 0 ⟨#[120]⟩) := (ReqB.fresh w _ _ _ _ _ _ 23).keep B1 (by simp)
  have C1 : Hid (Below w.heap.size w w1) := ((Below.refl _ w).alloc (Nat.le_refl _) _).trans (B1.mono (by simp))
  have Y1 := Lib.hid (byt_own O1 (Nat.le_refl _))
  obtain ⟨a1, k1, rfl⟩ := own_shape O1
  clear O1 B1
  go_wp2_with fail
  refine (HG.out _ _ Y1.out).mono ?_
  rintro e w2 ⟨rfl, B2⟩
  have D2 : Hid (ReqB w2 w.heap.size 1 2 1 3 0 ⟨#[120]⟩) := D1.out.keep B2 D1.out.lt
  have C2 : Hid (Below w.heap.size w w2) := C1.out.trans (B2.mono C1.out.size)
  clear B2
  go_wp2_with fail
  refine (HZ.out _).mono ?_
  rintro e w3 ⟨rfl, B3⟩
  have E3 : Hid (ReqB w3 w2.heap.size 1 2 1 3 0 ⟨#[120]⟩) := (ReqB.fresh w2 _ _ _ _ _ _ 23).keep B3 (by simp)
  have B23 := ((Below.refl _ w2).alloc (Nat.le_refl _) (.cells #[.int .i64 1, .int .i64 2, .int .i64 1, .int .i64 3, .int .i64 0, .string ⟨#[120]⟩] 23)).trans (B3.mono (by simp))
  have D3 : Hid (ReqB w3 w.heap.size 1 2 1 3 0 ⟨#[120]⟩) := D2.out.keep B23 D2.out.lt
  have C3 : Hid (Below w.heap.size w w3) := C2.out.trans (B23.mono C2.out.size)
  clear B3 B23
  have I3 : Hid (∀ o, Ints ((w3.alloc o).alloc (.cells #[.int .i64 0, .int .i64 2] 3)) ((w3.alloc o).alloc (.cells #[.int .i64 0, .int .i64 2] 3)).heap.size (.slice (some ⟨w3.heap.size + 1, 0, none⟩) 2 2) [0, 2]) := by
    intro o
    have := ints_two (w3.alloc o) 0 2 3
    rwa [show (w3.alloc o).heap.size = w3.heap.size + 1 by simp] at this
  go_wp2_with fail
  refine (HPC.out _ _ (I3.out _)).mono ?_
  rintro e w4 ⟨b4, rfl, O4, B4⟩
  have B34 : Below w3.heap.size w3 w4 := (((Below.refl _ w3).alloc (Nat.le_refl _) _).alloc (by simp) _).trans (B4.mono (by simp; omega))
  have D4 : Hid (ReqB w4 w.heap.size 1 2 1 3 0 ⟨#[120]⟩) := D3.out.keep B34 D3.out.lt
  have E4 : Hid (ReqB w4 w2.heap.size 1 2 1 3 0 ⟨#[120]⟩) := E3.out.keep B34 E3.out.lt
  have C4 : Hid (Below w.heap.size w w4) := C3.out.trans (B34.mono C3.out.size)
  have Y4 := Lib.hid (byt_own O4 (Nat.le_refl _))
  obtain ⟨a4, k4, rfl⟩ := own_shape O4
  clear O4 B4 B34
  go_wp2_with fail
  refine (HGC.out _ _ Y4.out).mono ?_
  rintro e w5 ⟨v5, rfl, O5, B5⟩
  have D5 : Hid (ReqB w5 w.heap.size 1 2 1 3 0 ⟨#[120]⟩) := D4.out.keep B5 D4.out.lt
  have E5 : Hid (ReqB w5 w2.heap.size 1 2 1 3 0 ⟨#[120]⟩) := E4.out.keep B5 E4.out.lt
  have C5 : Hid (Below w.heap.size w w5) := C4.out.trans (B5.mono C4.out.size)
  obtain ⟨a5, k5, rfl⟩ := own_shape O5
  clear O5 B5 D1 D2 D3 D4 E3 E4 C1 C2 C3 C4 Y1 Y4 I3
  have D6 : Hid (∀ o, ReqB (w5.alloc o) w.heap.size 1 2 1 3 0 ⟨#[120]⟩) := fun o => D5.out.keep ((Below.refl _ _).alloc (Nat.le_refl _) _) D5.out.lt
  have C6 : Hid (∀ o, Below w.heap.size w (w5.alloc o)) := fun o => C5.out.alloc C5.out.size _
  obtain ⟨c0, c1, c2, c3, c4, c5⟩ := D5.out.cells
  obtain ⟨d0, d1, d2, d3, d4, d5⟩ := E5.out.cells
  have hlD := D5.out.lt
  have hlE := E5.out.lt
  go_wp2_with fail
  refine (HW.out _).mono ?_
  rintro e w6 ⟨rfl, B6⟩
  have D7 := Lib.hid ((D6.out _).keep B6 (D6.out _).lt)
  have C7 := Lib.hid ((C6.out _).trans (B6.mono (C6.out _).size))
  clear B6 c0 c1 c2 c3 c4 c5 d0 d1 d2 d3 d4 d5
  obtain ⟨c0, c1, c2, c3, c4, c5⟩ := D7.out.cells
  go_wp2_with fail
  refine (HM.out _).mono ?_
  rintro e w7 ⟨rfl, B7⟩
  have C8 := Lib.hid (C7.out.trans (B7.mono C7.out.size))
  clear B7
  go_wp2_with fail
  refine (HM0.out _).mono ?_
  rintro e w8 ⟨rfl, B8⟩
  have C9 := Lib.hid (C8.out.trans (B8.mono C8.out.size))
  clear B8
  go_wp2
  go_returns
  exact ⟨rfl, C9.out⟩
end Go.Proofs.Ytocedkdgmhegeaa
