/-
  What lies just beyond each bound may not be (2.1), as ItemBounds says: for any request, any part. No condition.
-/
import Derived.Test.YtocedkdgmhegeaaItemArgs
namespace Go.Proofs.Ytocedkdgmhegeaa.ItemBounds
open Go.ChangeShapes Go.WideShapes Go.ChangeAt Go.RowKit

def zrow : Array Value := Array.replicate 65 (.int .u8 0)
def zeros : ByteArray := ⟨Array.replicate 65 0⟩
theorem zeros_size : zeros.size = 65 := by show (Array.replicate 65 (0 : UInt8)).size = 65; rw [Array.size_replicate]
theorem zrow_get (j : Nat) (h : j < 65) : zrow[j]? = some (.int .u8 0) := by
  unfold zrow
  rw [Array.getElem?_replicate, if_pos h]
theorem conv_zeros (u : World) : (convert 24 9 (.slice (some ⟨u.heap.size, 0, none⟩) 65 65)).run Try.prog (u.alloc (.cells zrow 5)) = .ok (.string zeros) (u.alloc (.cells zrow 5)) := by
  have hb : Byt (u.alloc (.cells zrow 5)) (u.heap.size + 1) (.slice (some ⟨u.heap.size, 0, none⟩) 65 65) (List.replicate 65 0) := by
    refine ⟨_, _, rfl, by decide, by decide, fun h => (by cases h), fun _ => ⟨u.heap.size, 0, rfl, Nat.lt_succ_self _, fun j hj => ?_⟩⟩
    have hj' : j < 65 := by rwa [List.length_replicate] at hj
    have hg : (List.replicate 65 (0 : UInt8)).getD j 0 = 0 := by rw [List.getD, List.getElem?_replicate, if_pos hj']; rfl
    rw [Nat.zero_add, cell_of_row _ _ j _ _ _ (heap_alloc_new u _), zrow_get j hj', hg]
    rfl
  rw [run_conv_byt hb]
  rfl

set_option maxHeartbeats 1000000 in
set_option maxRecDepth 100000 in
theorem many (cl sq kd id mt : Int) (dt : ByteArray) (p : Int) (w : World) (hd : dt.size ≤ 9223372036854775807) (hf : ¬ dt.size ≤ 300) :
    Calls Try.prog 6 #[.agg #[.int .i64 cl, .int .i64 sq, .int .i64 kd, .int .i64 id, .int .i64 mt, .string dt], .int .i64 p] w fun e w' => e = .returned (.bool true) ∧ Below w.heap.size w w' := by
  have HT := Lib.hid (fun u => told2_any u)
  have HF := Lib.hid (fun u => few_any cl sq kd id mt dt hd false (show _ = _ from (decide_eq_false hf).symm) u)
  clear hf
  go_enter Try.func6, Try.ntmps6
  go_wp2_with fail
  refine (HF.out _).mono ?_
  rintro e w1 ⟨rfl, B1⟩
  have C1 : Hid (Below w.heap.size w w1) := ((Below.refl _ w).alloc (Nat.le_refl _) _).trans (B1.mono (by simp))
  clear B1
  go_wp2_with fail
  refine (HT.out _).mono ?_
  rintro e w2 ⟨rfl, B2⟩
  have C2 : Hid (Below w.heap.size w w2) := C1.out.trans (B2.mono C1.out.size)
  clear B2
  go_wp2
  go_returns
  exact ⟨rfl, C2.out⟩

set_option maxHeartbeats 1000000 in
set_option maxRecDepth 100000 in
theorem wrong (cl sq kd id mt : Int) (dt : ByteArray) (p : Int) (w : World) (hd : dt.size ≤ 9223372036854775807) (hf : dt.size ≤ 300) (hm : ¬ ReqV.may ⟨cl, sq, kd, id, mt, dt⟩) :
    Calls Try.prog 6 #[.agg #[.int .i64 cl, .int .i64 sq, .int .i64 kd, .int .i64 id, .int .i64 mt, .string dt], .int .i64 p] w fun e w' => e = .returned (.bool true) ∧ Below w.heap.size w w' := by
  have HT := Lib.hid (fun u => told2_any u)
  have HF := Lib.hid (fun u => few_any cl sq kd id mt dt hd true (show _ = _ from (decide_eq_true hf).symm) u)
  have HM := Lib.hid (fun u => mayreq_r cl sq kd id mt dt hd false (show _ = _ from (decide_eq_false hm).symm) u)
  clear hf hm
  go_enter Try.func6, Try.ntmps6
  go_wp2_with fail
  refine (HF.out _).mono ?_
  rintro e w1 ⟨rfl, B1⟩
  have D1 : Hid (ReqB w1 w.heap.size cl sq kd id mt dt) := (ReqB.fresh w _ _ _ _ _ _ 23).keep B1 (by simp)
  have C1 : Hid (Below w.heap.size w w1) := ((Below.refl _ w).alloc (Nat.le_refl _) _).trans (B1.mono (by simp))
  clear B1
  obtain ⟨c0, c1, c2, c3, c4, c5⟩ := D1.out.cells
  go_wp2_with fail
  refine (HM.out _).mono ?_
  rintro e w2 ⟨rfl, B2⟩
  have C2 : Hid (Below w.heap.size w w2) := C1.out.trans (B2.mono C1.out.size)
  clear B2
  go_wp2_with fail
  refine (HT.out _).mono ?_
  rintro e w3 ⟨rfl, B3⟩
  have C3 : Hid (Below w.heap.size w w3) := C2.out.trans (B3.mono C2.out.size)
  clear B3
  go_wp2
  go_returns
  exact ⟨rfl, C3.out⟩

set_option maxHeartbeats 1000000 in
set_option maxRecDepth 100000 in
theorem part0 (cl sq kd id mt : Int) (dt : ByteArray) (p : Int) (w : World) (hp : (IntKind.u64.wrap p).tmod 9 = 0) (hm : ReqV.may ⟨cl, sq, kd, id, mt, dt⟩) :
    Calls Try.prog 6 #[.agg #[.int .i64 cl, .int .i64 sq, .int .i64 kd, .int .i64 id, .int .i64 mt, .string dt], .int .i64 p] w fun e w' => e = .returned (.bool true) ∧ Below w.heap.size w w' := by
  have hd : dt.size ≤ 300 := by unfold ReqV.may at hm; simp only at hm; omega
  have hd2 : dt.size ≤ 9223372036854775807 := by omega
  have hx : ¬ ReqV.may ⟨4, sq, kd, id, mt, dt⟩ := by
    unfold ReqV.may
    simp only
    skip
    omega
  have HT := Lib.hid (fun u => told2_any u)
  have HF := Lib.hid (fun u => few_any cl sq kd id mt dt hd2 true (show _ = _ from (decide_eq_true hd).symm) u)
  have HM := Lib.hid (fun u => mayreq_r cl sq kd id mt dt hd2 true (show _ = _ from (decide_eq_true hm).symm) u)
  have HP := Lib.hid (fun u => putreq_no 4 sq kd id mt dt hd2 hx u)
  have HX := Lib.hid (fun u => mayreq_r 4 sq kd id mt dt hd2 false (show _ = _ from (decide_eq_false hx).symm) u)
  clear hd hm hx
  go_enter Try.func6, Try.ntmps6
  go_wp2_with fail
  refine (HF.out _).mono ?_
  rintro e w1 ⟨rfl, B1⟩
  have D1 : Hid (ReqB w1 w.heap.size cl sq kd id mt dt) := (ReqB.fresh w _ _ _ _ _ _ 23).keep B1 (by simp)
  have C1 : Hid (Below w.heap.size w w1) := ((Below.refl _ w).alloc (Nat.le_refl _) _).trans (B1.mono (by simp))
  clear B1
  obtain ⟨c0, c1, c2, c3, c4, c5⟩ := D1.out.cells
  go_wp2_with fail
  refine (HM.out _).mono ?_
  rintro e w2 ⟨rfl, B2⟩
  have C2 : Hid (Below w.heap.size w w2) := C1.out.trans (B2.mono C1.out.size)
  have D2 : Hid (ReqB w2 w.heap.size cl sq kd id mt dt) := D1.out.keep B2 D1.out.lt
  have lt2 := D2.out.lt
  clear B2 c0 c1 c2 c3 c4 c5
  obtain ⟨c0, c1, c2, c3, c4, c5⟩ := D2.out.cells
  go_wp2_with fail
  refine (HP.out _).mono ?_
  rintro e w3 ⟨rfl, B3⟩
  have D3 : Hid (ReqB w3 w2.heap.size 4 sq kd id mt dt) := (ReqB.fresh w2 _ _ _ _ _ _ 23).keep B3 (by simp)
  have C3 : Hid (Below w.heap.size w w3) := (C2.out.alloc C2.out.size _).trans (B3.mono (by have := C2.out.size; simp; omega))
  clear B3 c0 c1 c2 c3 c4 c5
  go_wp2_with fail
  refine (HT.out _).mono ?_
  rintro e w4 ⟨rfl, B4⟩
  have D4 : Hid (ReqB w4 w2.heap.size 4 sq kd id mt dt) := D3.out.keep B4 D3.out.lt
  have C4 : Hid (Below w.heap.size w w4) := C3.out.trans (B4.mono C3.out.size)
  clear B4
  obtain ⟨c0, c1, c2, c3, c4, c5⟩ := D4.out.cells
  go_wp2_with fail
  refine (HX.out _).mono ?_
  rintro e w5 ⟨rfl, B5⟩
  have C5 : Hid (Below w.heap.size w w5) := C4.out.trans (B5.mono C4.out.size)
  clear B5
  go_wp2
  go_returns
  exact ⟨rfl, C5.out⟩

set_option maxHeartbeats 1000000 in
set_option maxRecDepth 100000 in
theorem part1 (cl sq kd id mt : Int) (dt : ByteArray) (p : Int) (w : World) (hp : (IntKind.u64.wrap p).tmod 9 = 1) (hm : ReqV.may ⟨cl, sq, kd, id, mt, dt⟩) :
    Calls Try.prog 6 #[.agg #[.int .i64 cl, .int .i64 sq, .int .i64 kd, .int .i64 id, .int .i64 mt, .string dt], .int .i64 p] w fun e w' => e = .returned (.bool true) ∧ Below w.heap.size w w' := by
  have hd : dt.size ≤ 300 := by unfold ReqV.may at hm; simp only at hm; omega
  have hd2 : dt.size ≤ 9223372036854775807 := by omega
  have hx : ¬ ReqV.may ⟨(-1), sq, kd, id, mt, dt⟩ := by
    unfold ReqV.may
    simp only
    skip
    omega
  have HT := Lib.hid (fun u => told2_any u)
  have HF := Lib.hid (fun u => few_any cl sq kd id mt dt hd2 true (show _ = _ from (decide_eq_true hd).symm) u)
  have HM := Lib.hid (fun u => mayreq_r cl sq kd id mt dt hd2 true (show _ = _ from (decide_eq_true hm).symm) u)
  have HP := Lib.hid (fun u => putreq_no (-1) sq kd id mt dt hd2 hx u)
  have HX := Lib.hid (fun u => mayreq_r (-1) sq kd id mt dt hd2 false (show _ = _ from (decide_eq_false hx).symm) u)
  clear hd hm hx
  go_enter Try.func6, Try.ntmps6
  go_wp2_with fail
  refine (HF.out _).mono ?_
  rintro e w1 ⟨rfl, B1⟩
  have D1 : Hid (ReqB w1 w.heap.size cl sq kd id mt dt) := (ReqB.fresh w _ _ _ _ _ _ 23).keep B1 (by simp)
  have C1 : Hid (Below w.heap.size w w1) := ((Below.refl _ w).alloc (Nat.le_refl _) _).trans (B1.mono (by simp))
  clear B1
  obtain ⟨c0, c1, c2, c3, c4, c5⟩ := D1.out.cells
  go_wp2_with fail
  refine (HM.out _).mono ?_
  rintro e w2 ⟨rfl, B2⟩
  have C2 : Hid (Below w.heap.size w w2) := C1.out.trans (B2.mono C1.out.size)
  have D2 : Hid (ReqB w2 w.heap.size cl sq kd id mt dt) := D1.out.keep B2 D1.out.lt
  have lt2 := D2.out.lt
  clear B2 c0 c1 c2 c3 c4 c5
  obtain ⟨c0, c1, c2, c3, c4, c5⟩ := D2.out.cells
  go_wp2_with fail
  refine (HP.out _).mono ?_
  rintro e w3 ⟨rfl, B3⟩
  have D3 : Hid (ReqB w3 w2.heap.size (-1) sq kd id mt dt) := (ReqB.fresh w2 _ _ _ _ _ _ 23).keep B3 (by simp)
  have C3 : Hid (Below w.heap.size w w3) := (C2.out.alloc C2.out.size _).trans (B3.mono (by have := C2.out.size; simp; omega))
  clear B3 c0 c1 c2 c3 c4 c5
  go_wp2_with fail
  refine (HT.out _).mono ?_
  rintro e w4 ⟨rfl, B4⟩
  have D4 : Hid (ReqB w4 w2.heap.size (-1) sq kd id mt dt) := D3.out.keep B4 D3.out.lt
  have C4 : Hid (Below w.heap.size w w4) := C3.out.trans (B4.mono C3.out.size)
  clear B4
  obtain ⟨c0, c1, c2, c3, c4, c5⟩ := D4.out.cells
  go_wp2_with fail
  refine (HX.out _).mono ?_
  rintro e w5 ⟨rfl, B5⟩
  have C5 : Hid (Below w.heap.size w w5) := C4.out.trans (B5.mono C4.out.size)
  clear B5
  go_wp2
  go_returns
  exact ⟨rfl, C5.out⟩

set_option maxHeartbeats 1000000 in
set_option maxRecDepth 100000 in
theorem part2 (cl sq kd id mt : Int) (dt : ByteArray) (p : Int) (w : World) (hp : (IntKind.u64.wrap p).tmod 9 = 2) (hm : ReqV.may ⟨cl, sq, kd, id, mt, dt⟩) :
    Calls Try.prog 6 #[.agg #[.int .i64 cl, .int .i64 sq, .int .i64 kd, .int .i64 id, .int .i64 mt, .string dt], .int .i64 p] w fun e w' => e = .returned (.bool true) ∧ Below w.heap.size w w' := by
  have hd : dt.size ≤ 300 := by unfold ReqV.may at hm; simp only at hm; omega
  have hd2 : dt.size ≤ 9223372036854775807 := by omega
  have hx : ¬ ReqV.may ⟨cl, 0, kd, id, mt, dt⟩ := by
    unfold ReqV.may
    simp only
    skip
    omega
  have HT := Lib.hid (fun u => told2_any u)
  have HF := Lib.hid (fun u => few_any cl sq kd id mt dt hd2 true (show _ = _ from (decide_eq_true hd).symm) u)
  have HM := Lib.hid (fun u => mayreq_r cl sq kd id mt dt hd2 true (show _ = _ from (decide_eq_true hm).symm) u)
  have HP := Lib.hid (fun u => putreq_no cl 0 kd id mt dt hd2 hx u)
  have HX := Lib.hid (fun u => mayreq_r cl 0 kd id mt dt hd2 false (show _ = _ from (decide_eq_false hx).symm) u)
  clear hd hm hx
  go_enter Try.func6, Try.ntmps6
  go_wp2_with fail
  refine (HF.out _).mono ?_
  rintro e w1 ⟨rfl, B1⟩
  have D1 : Hid (ReqB w1 w.heap.size cl sq kd id mt dt) := (ReqB.fresh w _ _ _ _ _ _ 23).keep B1 (by simp)
  have C1 : Hid (Below w.heap.size w w1) := ((Below.refl _ w).alloc (Nat.le_refl _) _).trans (B1.mono (by simp))
  clear B1
  obtain ⟨c0, c1, c2, c3, c4, c5⟩ := D1.out.cells
  go_wp2_with fail
  refine (HM.out _).mono ?_
  rintro e w2 ⟨rfl, B2⟩
  have C2 : Hid (Below w.heap.size w w2) := C1.out.trans (B2.mono C1.out.size)
  have D2 : Hid (ReqB w2 w.heap.size cl sq kd id mt dt) := D1.out.keep B2 D1.out.lt
  have lt2 := D2.out.lt
  clear B2 c0 c1 c2 c3 c4 c5
  obtain ⟨c0, c1, c2, c3, c4, c5⟩ := D2.out.cells
  go_wp2_with fail
  refine (HP.out _).mono ?_
  rintro e w3 ⟨rfl, B3⟩
  have D3 : Hid (ReqB w3 w2.heap.size cl 0 kd id mt dt) := (ReqB.fresh w2 _ _ _ _ _ _ 23).keep B3 (by simp)
  have C3 : Hid (Below w.heap.size w w3) := (C2.out.alloc C2.out.size _).trans (B3.mono (by have := C2.out.size; simp; omega))
  clear B3 c0 c1 c2 c3 c4 c5
  go_wp2_with fail
  refine (HT.out _).mono ?_
  rintro e w4 ⟨rfl, B4⟩
  have D4 : Hid (ReqB w4 w2.heap.size cl 0 kd id mt dt) := D3.out.keep B4 D3.out.lt
  have C4 : Hid (Below w.heap.size w w4) := C3.out.trans (B4.mono C3.out.size)
  clear B4
  obtain ⟨c0, c1, c2, c3, c4, c5⟩ := D4.out.cells
  go_wp2_with fail
  refine (HX.out _).mono ?_
  rintro e w5 ⟨rfl, B5⟩
  have C5 : Hid (Below w.heap.size w w5) := C4.out.trans (B5.mono C4.out.size)
  clear B5
  go_wp2
  go_returns
  exact ⟨rfl, C5.out⟩

set_option maxHeartbeats 1000000 in
set_option maxRecDepth 100000 in
theorem part3 (cl sq kd id mt : Int) (dt : ByteArray) (p : Int) (w : World) (hp : (IntKind.u64.wrap p).tmod 9 = 3) (hm : ReqV.may ⟨cl, sq, kd, id, mt, dt⟩) :
    Calls Try.prog 6 #[.agg #[.int .i64 cl, .int .i64 sq, .int .i64 kd, .int .i64 id, .int .i64 mt, .string dt], .int .i64 p] w fun e w' => e = .returned (.bool true) ∧ Below w.heap.size w w' := by
  have hd : dt.size ≤ 300 := by unfold ReqV.may at hm; simp only at hm; omega
  have hd2 : dt.size ≤ 9223372036854775807 := by omega
  have hx : ¬ ReqV.may ⟨cl, 1073741825, kd, id, mt, dt⟩ := by
    unfold ReqV.may
    simp only
    skip
    omega
  have HT := Lib.hid (fun u => told2_any u)
  have HF := Lib.hid (fun u => few_any cl sq kd id mt dt hd2 true (show _ = _ from (decide_eq_true hd).symm) u)
  have HM := Lib.hid (fun u => mayreq_r cl sq kd id mt dt hd2 true (show _ = _ from (decide_eq_true hm).symm) u)
  have HP := Lib.hid (fun u => putreq_no cl 1073741825 kd id mt dt hd2 hx u)
  have HX := Lib.hid (fun u => mayreq_r cl 1073741825 kd id mt dt hd2 false (show _ = _ from (decide_eq_false hx).symm) u)
  clear hd hm hx
  go_enter Try.func6, Try.ntmps6
  go_wp2_with fail
  refine (HF.out _).mono ?_
  rintro e w1 ⟨rfl, B1⟩
  have D1 : Hid (ReqB w1 w.heap.size cl sq kd id mt dt) := (ReqB.fresh w _ _ _ _ _ _ 23).keep B1 (by simp)
  have C1 : Hid (Below w.heap.size w w1) := ((Below.refl _ w).alloc (Nat.le_refl _) _).trans (B1.mono (by simp))
  clear B1
  obtain ⟨c0, c1, c2, c3, c4, c5⟩ := D1.out.cells
  go_wp2_with fail
  refine (HM.out _).mono ?_
  rintro e w2 ⟨rfl, B2⟩
  have C2 : Hid (Below w.heap.size w w2) := C1.out.trans (B2.mono C1.out.size)
  have D2 : Hid (ReqB w2 w.heap.size cl sq kd id mt dt) := D1.out.keep B2 D1.out.lt
  have lt2 := D2.out.lt
  clear B2 c0 c1 c2 c3 c4 c5
  obtain ⟨c0, c1, c2, c3, c4, c5⟩ := D2.out.cells
  go_wp2_with fail
  refine (HP.out _).mono ?_
  rintro e w3 ⟨rfl, B3⟩
  have D3 : Hid (ReqB w3 w2.heap.size cl 1073741825 kd id mt dt) := (ReqB.fresh w2 _ _ _ _ _ _ 23).keep B3 (by simp)
  have C3 : Hid (Below w.heap.size w w3) := (C2.out.alloc C2.out.size _).trans (B3.mono (by have := C2.out.size; simp; omega))
  clear B3 c0 c1 c2 c3 c4 c5
  go_wp2_with fail
  refine (HT.out _).mono ?_
  rintro e w4 ⟨rfl, B4⟩
  have D4 : Hid (ReqB w4 w2.heap.size cl 1073741825 kd id mt dt) := D3.out.keep B4 D3.out.lt
  have C4 : Hid (Below w.heap.size w w4) := C3.out.trans (B4.mono C3.out.size)
  clear B4
  obtain ⟨c0, c1, c2, c3, c4, c5⟩ := D4.out.cells
  go_wp2_with fail
  refine (HX.out _).mono ?_
  rintro e w5 ⟨rfl, B5⟩
  have C5 : Hid (Below w.heap.size w w5) := C4.out.trans (B5.mono C4.out.size)
  clear B5
  go_wp2
  go_returns
  exact ⟨rfl, C5.out⟩

set_option maxHeartbeats 1000000 in
set_option maxRecDepth 100000 in
theorem part4 (cl sq kd id mt : Int) (dt : ByteArray) (p : Int) (w : World) (hp : (IntKind.u64.wrap p).tmod 9 = 4) (hm : ReqV.may ⟨cl, sq, kd, id, mt, dt⟩) :
    Calls Try.prog 6 #[.agg #[.int .i64 cl, .int .i64 sq, .int .i64 kd, .int .i64 id, .int .i64 mt, .string dt], .int .i64 p] w fun e w' => e = .returned (.bool true) ∧ Below w.heap.size w w' := by
  have hd : dt.size ≤ 300 := by unfold ReqV.may at hm; simp only at hm; omega
  have hd2 : dt.size ≤ 9223372036854775807 := by omega
  have hx : ¬ ReqV.may ⟨cl, sq, 7, id, mt, dt⟩ := by
    unfold ReqV.may
    simp only
    skip
    omega
  have HT := Lib.hid (fun u => told2_any u)
  have HF := Lib.hid (fun u => few_any cl sq kd id mt dt hd2 true (show _ = _ from (decide_eq_true hd).symm) u)
  have HM := Lib.hid (fun u => mayreq_r cl sq kd id mt dt hd2 true (show _ = _ from (decide_eq_true hm).symm) u)
  have HP := Lib.hid (fun u => putreq_no cl sq 7 id mt dt hd2 hx u)
  have HX := Lib.hid (fun u => mayreq_r cl sq 7 id mt dt hd2 false (show _ = _ from (decide_eq_false hx).symm) u)
  clear hd hm hx
  go_enter Try.func6, Try.ntmps6
  go_wp2_with fail
  refine (HF.out _).mono ?_
  rintro e w1 ⟨rfl, B1⟩
  have D1 : Hid (ReqB w1 w.heap.size cl sq kd id mt dt) := (ReqB.fresh w _ _ _ _ _ _ 23).keep B1 (by simp)
  have C1 : Hid (Below w.heap.size w w1) := ((Below.refl _ w).alloc (Nat.le_refl _) _).trans (B1.mono (by simp))
  clear B1
  obtain ⟨c0, c1, c2, c3, c4, c5⟩ := D1.out.cells
  go_wp2_with fail
  refine (HM.out _).mono ?_
  rintro e w2 ⟨rfl, B2⟩
  have C2 : Hid (Below w.heap.size w w2) := C1.out.trans (B2.mono C1.out.size)
  have D2 : Hid (ReqB w2 w.heap.size cl sq kd id mt dt) := D1.out.keep B2 D1.out.lt
  have lt2 := D2.out.lt
  clear B2 c0 c1 c2 c3 c4 c5
  obtain ⟨c0, c1, c2, c3, c4, c5⟩ := D2.out.cells
  go_wp2_with fail
  refine (HP.out _).mono ?_
  rintro e w3 ⟨rfl, B3⟩
  have D3 : Hid (ReqB w3 w2.heap.size cl sq 7 id mt dt) := (ReqB.fresh w2 _ _ _ _ _ _ 23).keep B3 (by simp)
  have C3 : Hid (Below w.heap.size w w3) := (C2.out.alloc C2.out.size _).trans (B3.mono (by have := C2.out.size; simp; omega))
  clear B3 c0 c1 c2 c3 c4 c5
  go_wp2_with fail
  refine (HT.out _).mono ?_
  rintro e w4 ⟨rfl, B4⟩
  have D4 : Hid (ReqB w4 w2.heap.size cl sq 7 id mt dt) := D3.out.keep B4 D3.out.lt
  have C4 : Hid (Below w.heap.size w w4) := C3.out.trans (B4.mono C3.out.size)
  clear B4
  obtain ⟨c0, c1, c2, c3, c4, c5⟩ := D4.out.cells
  go_wp2_with fail
  refine (HX.out _).mono ?_
  rintro e w5 ⟨rfl, B5⟩
  have C5 : Hid (Below w.heap.size w w5) := C4.out.trans (B5.mono C4.out.size)
  clear B5
  go_wp2
  go_returns
  exact ⟨rfl, C5.out⟩

set_option maxHeartbeats 1000000 in
set_option maxRecDepth 100000 in
theorem part5 (cl sq kd id mt : Int) (dt : ByteArray) (p : Int) (w : World) (hp : (IntKind.u64.wrap p).tmod 9 = 5) (hm : ReqV.may ⟨cl, sq, kd, id, mt, dt⟩) :
    Calls Try.prog 6 #[.agg #[.int .i64 cl, .int .i64 sq, .int .i64 kd, .int .i64 id, .int .i64 mt, .string dt], .int .i64 p] w fun e w' => e = .returned (.bool true) ∧ Below w.heap.size w w' := by
  have hd : dt.size ≤ 300 := by unfold ReqV.may at hm; simp only at hm; omega
  have hd2 : dt.size ≤ 9223372036854775807 := by omega
  have hx : ¬ ReqV.may ⟨cl, sq, kd, 32, mt, dt⟩ := by
    unfold ReqV.may
    simp only
    skip
    omega
  have HT := Lib.hid (fun u => told2_any u)
  have HF := Lib.hid (fun u => few_any cl sq kd id mt dt hd2 true (show _ = _ from (decide_eq_true hd).symm) u)
  have HM := Lib.hid (fun u => mayreq_r cl sq kd id mt dt hd2 true (show _ = _ from (decide_eq_true hm).symm) u)
  have HP := Lib.hid (fun u => putreq_no cl sq kd 32 mt dt hd2 hx u)
  have HX := Lib.hid (fun u => mayreq_r cl sq kd 32 mt dt hd2 false (show _ = _ from (decide_eq_false hx).symm) u)
  clear hd hm hx
  go_enter Try.func6, Try.ntmps6
  go_wp2_with fail
  refine (HF.out _).mono ?_
  rintro e w1 ⟨rfl, B1⟩
  have D1 : Hid (ReqB w1 w.heap.size cl sq kd id mt dt) := (ReqB.fresh w _ _ _ _ _ _ 23).keep B1 (by simp)
  have C1 : Hid (Below w.heap.size w w1) := ((Below.refl _ w).alloc (Nat.le_refl _) _).trans (B1.mono (by simp))
  clear B1
  obtain ⟨c0, c1, c2, c3, c4, c5⟩ := D1.out.cells
  go_wp2_with fail
  refine (HM.out _).mono ?_
  rintro e w2 ⟨rfl, B2⟩
  have C2 : Hid (Below w.heap.size w w2) := C1.out.trans (B2.mono C1.out.size)
  have D2 : Hid (ReqB w2 w.heap.size cl sq kd id mt dt) := D1.out.keep B2 D1.out.lt
  have lt2 := D2.out.lt
  clear B2 c0 c1 c2 c3 c4 c5
  obtain ⟨c0, c1, c2, c3, c4, c5⟩ := D2.out.cells
  go_wp2_with fail
  refine (HP.out _).mono ?_
  rintro e w3 ⟨rfl, B3⟩
  have D3 : Hid (ReqB w3 w2.heap.size cl sq kd 32 mt dt) := (ReqB.fresh w2 _ _ _ _ _ _ 23).keep B3 (by simp)
  have C3 : Hid (Below w.heap.size w w3) := (C2.out.alloc C2.out.size _).trans (B3.mono (by have := C2.out.size; simp; omega))
  clear B3 c0 c1 c2 c3 c4 c5
  go_wp2_with fail
  refine (HT.out _).mono ?_
  rintro e w4 ⟨rfl, B4⟩
  have D4 : Hid (ReqB w4 w2.heap.size cl sq kd 32 mt dt) := D3.out.keep B4 D3.out.lt
  have C4 : Hid (Below w.heap.size w w4) := C3.out.trans (B4.mono C3.out.size)
  clear B4
  obtain ⟨c0, c1, c2, c3, c4, c5⟩ := D4.out.cells
  go_wp2_with fail
  refine (HX.out _).mono ?_
  rintro e w5 ⟨rfl, B5⟩
  have C5 : Hid (Below w.heap.size w w5) := C4.out.trans (B5.mono C4.out.size)
  clear B5
  go_wp2
  go_returns
  exact ⟨rfl, C5.out⟩

set_option maxHeartbeats 1000000 in
set_option maxRecDepth 100000 in
theorem part6 (cl sq kd id mt : Int) (dt : ByteArray) (p : Int) (w : World) (hp : (IntKind.u64.wrap p).tmod 9 = 6) (hm : ReqV.may ⟨cl, sq, kd, id, mt, dt⟩) :
    Calls Try.prog 6 #[.agg #[.int .i64 cl, .int .i64 sq, .int .i64 kd, .int .i64 id, .int .i64 mt, .string dt], .int .i64 p] w fun e w' => e = .returned (.bool true) ∧ Below w.heap.size w w' := by
  have hd : dt.size ≤ 300 := by unfold ReqV.may at hm; simp only at hm; omega
  have hd2 : dt.size ≤ 9223372036854775807 := by omega
  have hx : ¬ ReqV.may ⟨cl, sq, kd, id, 101, dt⟩ := by
    unfold ReqV.may
    simp only
    skip
    omega
  have HT := Lib.hid (fun u => told2_any u)
  have HF := Lib.hid (fun u => few_any cl sq kd id mt dt hd2 true (show _ = _ from (decide_eq_true hd).symm) u)
  have HM := Lib.hid (fun u => mayreq_r cl sq kd id mt dt hd2 true (show _ = _ from (decide_eq_true hm).symm) u)
  have HP := Lib.hid (fun u => putreq_no cl sq kd id 101 dt hd2 hx u)
  have HX := Lib.hid (fun u => mayreq_r cl sq kd id 101 dt hd2 false (show _ = _ from (decide_eq_false hx).symm) u)
  clear hd hm hx
  go_enter Try.func6, Try.ntmps6
  go_wp2_with fail
  refine (HF.out _).mono ?_
  rintro e w1 ⟨rfl, B1⟩
  have D1 : Hid (ReqB w1 w.heap.size cl sq kd id mt dt) := (ReqB.fresh w _ _ _ _ _ _ 23).keep B1 (by simp)
  have C1 : Hid (Below w.heap.size w w1) := ((Below.refl _ w).alloc (Nat.le_refl _) _).trans (B1.mono (by simp))
  clear B1
  obtain ⟨c0, c1, c2, c3, c4, c5⟩ := D1.out.cells
  go_wp2_with fail
  refine (HM.out _).mono ?_
  rintro e w2 ⟨rfl, B2⟩
  have C2 : Hid (Below w.heap.size w w2) := C1.out.trans (B2.mono C1.out.size)
  have D2 : Hid (ReqB w2 w.heap.size cl sq kd id mt dt) := D1.out.keep B2 D1.out.lt
  have lt2 := D2.out.lt
  clear B2 c0 c1 c2 c3 c4 c5
  obtain ⟨c0, c1, c2, c3, c4, c5⟩ := D2.out.cells
  go_wp2_with fail
  refine (HP.out _).mono ?_
  rintro e w3 ⟨rfl, B3⟩
  have D3 : Hid (ReqB w3 w2.heap.size cl sq kd id 101 dt) := (ReqB.fresh w2 _ _ _ _ _ _ 23).keep B3 (by simp)
  have C3 : Hid (Below w.heap.size w w3) := (C2.out.alloc C2.out.size _).trans (B3.mono (by have := C2.out.size; simp; omega))
  clear B3 c0 c1 c2 c3 c4 c5
  go_wp2_with fail
  refine (HT.out _).mono ?_
  rintro e w4 ⟨rfl, B4⟩
  have D4 : Hid (ReqB w4 w2.heap.size cl sq kd id 101 dt) := D3.out.keep B4 D3.out.lt
  have C4 : Hid (Below w.heap.size w w4) := C3.out.trans (B4.mono C3.out.size)
  clear B4
  obtain ⟨c0, c1, c2, c3, c4, c5⟩ := D4.out.cells
  go_wp2_with fail
  refine (HX.out _).mono ?_
  rintro e w5 ⟨rfl, B5⟩
  have C5 : Hid (Below w.heap.size w w5) := C4.out.trans (B5.mono C4.out.size)
  clear B5
  go_wp2
  go_returns
  exact ⟨rfl, C5.out⟩

set_option maxHeartbeats 1000000 in
set_option maxRecDepth 100000 in
theorem part7 (cl sq kd id mt : Int) (dt : ByteArray) (p : Int) (w : World) (hp : (IntKind.u64.wrap p).tmod 9 = 7) (hm : ReqV.may ⟨cl, sq, kd, id, mt, dt⟩) :
    Calls Try.prog 6 #[.agg #[.int .i64 cl, .int .i64 sq, .int .i64 kd, .int .i64 id, .int .i64 mt, .string dt], .int .i64 p] w fun e w' => e = .returned (.bool true) ∧ Below w.heap.size w w' := by
  have hd : dt.size ≤ 300 := by unfold ReqV.may at hm; simp only at hm; omega
  have hd2 : dt.size ≤ 9223372036854775807 := by omega
  have hx : ¬ ReqV.may ⟨cl, sq, kd, id, mt, zeros⟩ := by
    unfold ReqV.may
    simp only
    rw [zeros_size]
    omega
  have HT := Lib.hid (fun u => told2_any u)
  have HF := Lib.hid (fun u => few_any cl sq kd id mt dt hd2 true (show _ = _ from (decide_eq_true hd).symm) u)
  have HM := Lib.hid (fun u => mayreq_r cl sq kd id mt dt hd2 true (show _ = _ from (decide_eq_true hm).symm) u)
  have HP := Lib.hid (fun u => putreq_no cl sq kd id mt zeros (by rw [zeros_size]; decide) hx u)
  have HX := Lib.hid (fun u => mayreq_r cl sq kd id mt zeros (by rw [zeros_size]; decide) false (show _ = _ from (decide_eq_false hx).symm) u)
  clear hd hm hx
  go_enter Try.func6, Try.ntmps6
  go_wp2_with fail
  refine (HF.out _).mono ?_
  rintro e w1 ⟨rfl, B1⟩
  have D1 : Hid (ReqB w1 w.heap.size cl sq kd id mt dt) := (ReqB.fresh w _ _ _ _ _ _ 23).keep B1 (by simp)
  have C1 : Hid (Below w.heap.size w w1) := ((Below.refl _ w).alloc (Nat.le_refl _) _).trans (B1.mono (by simp))
  clear B1
  obtain ⟨c0, c1, c2, c3, c4, c5⟩ := D1.out.cells
  go_wp2_with fail
  refine (HM.out _).mono ?_
  rintro e w2 ⟨rfl, B2⟩
  have C2 : Hid (Below w.heap.size w w2) := C1.out.trans (B2.mono C1.out.size)
  have D2 : Hid (ReqB w2 w.heap.size cl sq kd id mt dt) := D1.out.keep B2 D1.out.lt
  have lt2 := D2.out.lt
  clear B2 c0 c1 c2 c3 c4 c5
  obtain ⟨c0, c1, c2, c3, c4, c5⟩ := D2.out.cells
  have hmk : ∀ u, (Instr.makeSlice 24 (.int .i64 65) (.int .i64 65)).run Try.prog u = .ok (.slice (some ⟨u.heap.size, 0, none⟩) 65 65) (u.alloc (.cells zrow 5)) := fun _ => by kernel_rfl
  have hcv : (convert 24 9 (.slice (some ⟨w2.heap.size + 1, 0, none⟩) 65 65)).run Try.prog ((w2.alloc (.cells #[.int .i64 cl, .int .i64 sq, .int .i64 kd, .int .i64 id, .int .i64 mt, .string dt] 23)).alloc (.cells zrow 5)) = .ok (.string zeros) ((w2.alloc (.cells #[.int .i64 cl, .int .i64 sq, .int .i64 kd, .int .i64 id, .int .i64 mt, .string dt] 23)).alloc (.cells zrow 5)) := by
    have := conv_zeros (w2.alloc (.cells #[.int .i64 cl, .int .i64 sq, .int .i64 kd, .int .i64 id, .int .i64 mt, .string dt] 23))
    rwa [show (w2.alloc (.cells #[.int .i64 cl, .int .i64 sq, .int .i64 kd, .int .i64 id, .int .i64 mt, .string dt] 23)).heap.size = w2.heap.size + 1 by simp] at this
  go_wp2_with fail
  refine (HP.out _).mono ?_
  rintro e w3 ⟨rfl, B3⟩
  have D3 : Hid (ReqB w3 w2.heap.size cl sq kd id mt zeros) := ((ReqB.fresh w2 _ _ _ _ _ _ 23).keep ((Below.refl _ _).alloc (Nat.le_refl _) _) (by simp)).keep B3 (by simp; omega)
  have C3 : Hid (Below w.heap.size w w3) := ((C2.out.alloc C2.out.size _).alloc (by have := C2.out.size; simp; omega) _).trans (B3.mono (by have := C2.out.size; simp; omega))
  clear B3 c0 c1 c2 c3 c4 c5
  go_wp2_with fail
  refine (HT.out _).mono ?_
  rintro e w4 ⟨rfl, B4⟩
  have D4 : Hid (ReqB w4 w2.heap.size cl sq kd id mt zeros) := D3.out.keep B4 D3.out.lt
  have C4 : Hid (Below w.heap.size w w4) := C3.out.trans (B4.mono C3.out.size)
  clear B4
  obtain ⟨c0, c1, c2, c3, c4, c5⟩ := D4.out.cells
  go_wp2_with fail
  refine (HX.out _).mono ?_
  rintro e w5 ⟨rfl, B5⟩
  have C5 : Hid (Below w.heap.size w w5) := C4.out.trans (B5.mono C4.out.size)
  clear B5
  go_wp2
  go_returns
  exact ⟨rfl, C5.out⟩

set_option maxHeartbeats 1000000 in
set_option maxRecDepth 100000 in
theorem part8 (cl sq kd id mt : Int) (dt : ByteArray) (p : Int) (w : World) (hp : (IntKind.u64.wrap p).tmod 9 = 8) (hm : ReqV.may ⟨cl, sq, kd, id, mt, dt⟩) :
    Calls Try.prog 6 #[.agg #[.int .i64 cl, .int .i64 sq, .int .i64 kd, .int .i64 id, .int .i64 mt, .string dt], .int .i64 p] w fun e w' => e = .returned (.bool true) ∧ Below w.heap.size w w' := by
  have hd : dt.size ≤ 300 := by unfold ReqV.may at hm; simp only at hm; omega
  have hd2 : dt.size ≤ 9223372036854775807 := by omega
  have hx : ¬ ReqV.may ⟨cl, sq, 0, id, mt, dt⟩ := by
    unfold ReqV.may
    simp only
    skip
    omega
  have HT := Lib.hid (fun u => told2_any u)
  have HF := Lib.hid (fun u => few_any cl sq kd id mt dt hd2 true (show _ = _ from (decide_eq_true hd).symm) u)
  have HM := Lib.hid (fun u => mayreq_r cl sq kd id mt dt hd2 true (show _ = _ from (decide_eq_true hm).symm) u)
  have HP := Lib.hid (fun u => putreq_no cl sq 0 id mt dt hd2 hx u)
  have HX := Lib.hid (fun u => mayreq_r cl sq 0 id mt dt hd2 false (show _ = _ from (decide_eq_false hx).symm) u)
  clear hd hm hx
  go_enter Try.func6, Try.ntmps6
  go_wp2_with fail
  refine (HF.out _).mono ?_
  rintro e w1 ⟨rfl, B1⟩
  have D1 : Hid (ReqB w1 w.heap.size cl sq kd id mt dt) := (ReqB.fresh w _ _ _ _ _ _ 23).keep B1 (by simp)
  have C1 : Hid (Below w.heap.size w w1) := ((Below.refl _ w).alloc (Nat.le_refl _) _).trans (B1.mono (by simp))
  clear B1
  obtain ⟨c0, c1, c2, c3, c4, c5⟩ := D1.out.cells
  go_wp2_with fail
  refine (HM.out _).mono ?_
  rintro e w2 ⟨rfl, B2⟩
  have C2 : Hid (Below w.heap.size w w2) := C1.out.trans (B2.mono C1.out.size)
  have D2 : Hid (ReqB w2 w.heap.size cl sq kd id mt dt) := D1.out.keep B2 D1.out.lt
  have lt2 := D2.out.lt
  clear B2 c0 c1 c2 c3 c4 c5
  obtain ⟨c0, c1, c2, c3, c4, c5⟩ := D2.out.cells
  go_wp2_with fail
  refine (HP.out _).mono ?_
  rintro e w3 ⟨rfl, B3⟩
  have D3 : Hid (ReqB w3 w2.heap.size cl sq 0 id mt dt) := (ReqB.fresh w2 _ _ _ _ _ _ 23).keep B3 (by simp)
  have C3 : Hid (Below w.heap.size w w3) := (C2.out.alloc C2.out.size _).trans (B3.mono (by have := C2.out.size; simp; omega))
  clear B3 c0 c1 c2 c3 c4 c5
  go_wp2_with fail
  refine (HT.out _).mono ?_
  rintro e w4 ⟨rfl, B4⟩
  have D4 : Hid (ReqB w4 w2.heap.size cl sq 0 id mt dt) := D3.out.keep B4 D3.out.lt
  have C4 : Hid (Below w.heap.size w w4) := C3.out.trans (B4.mono C3.out.size)
  clear B4
  obtain ⟨c0, c1, c2, c3, c4, c5⟩ := D4.out.cells
  go_wp2_with fail
  refine (HX.out _).mono ?_
  rintro e w5 ⟨rfl, B5⟩
  have C5 : Hid (Below w.heap.size w w5) := C4.out.trans (B5.mono C4.out.size)
  clear B5
  go_wp2
  go_returns
  exact ⟨rfl, C5.out⟩

theorem walk (cl sq kd id mt : Int) (dt : ByteArray) (p : Int) (w : World) (hd : dt.size ≤ maxLen) (_ : (Lit.int .i64 p).wf = true) :
    Calls Try.prog 6 #[.agg #[.int .i64 cl, .int .i64 sq, .int .i64 kd, .int .i64 id, .int .i64 mt, .string dt], .int .i64 p] w fun e w' => e = .returned (.bool true) ∧ Below w.heap.size w w' := by
  unfold maxLen at hd
  by_cases hf : dt.size ≤ 300
  case neg => exact many cl sq kd id mt dt p w hd hf
  by_cases hm : ReqV.may ⟨cl, sq, kd, id, mt, dt⟩
  case neg => exact wrong cl sq kd id mt dt p w hd hf hm
  have hu : ∀ x, 0 ≤ IntKind.u64.wrap x := fun x => by simp [IntKind.wrap, IntKind.bits, IntKind.signed]; omega
  obtain ⟨K, hK⟩ : ∃ K, (IntKind.u64.wrap p).tmod 9 = K := ⟨_, rfl⟩
  have k0 : 0 ≤ K := by rw [← hK, Int.tmod_eq_emod_of_nonneg (hu p)]; omega
  have k9 : K < 9 := by rw [← hK, Int.tmod_eq_emod_of_nonneg (hu p)]; omega
  rcases (show K = 0 ∨ K = 1 ∨ K = 2 ∨ K = 3 ∨ K = 4 ∨ K = 5 ∨ K = 6 ∨ K = 7 ∨ K = 8 by omega) with rfl | rfl | rfl | rfl | rfl | rfl | rfl | rfl | rfl
  · exact part0 cl sq kd id mt dt p w hK hm
  · exact part1 cl sq kd id mt dt p w hK hm
  · exact part2 cl sq kd id mt dt p w hK hm
  · exact part3 cl sq kd id mt dt p w hK hm
  · exact part4 cl sq kd id mt dt p w hK hm
  · exact part5 cl sq kd id mt dt p w hK hm
  · exact part6 cl sq kd id mt dt p w hK hm
  · exact part7 cl sq kd id mt dt p w hK hm
  · exact part8 cl sq kd id mt dt p w hK hm

set_option maxRecDepth 100000 in
theorem lifted (os : Os) (started : os.Started) (H : Type) (enc : TypeId × Value → H) :
    ReturnsInHanded {} Try.checked os 6 .any (Rows.itemBoundsSpec.pre6 enc Try.prog Try.f6 Rows.itemBoundsRow.domain false) (Rows.itemBoundsSpec.post enc Try.prog Try.f6 false true false false) := by
  refine returnsInHanded_of_change (C := Try.checked) own started (by kernel_rfl) Try.func6
    (ChangeSpec.witness6 (enc := enc) (C := Try.checked) false ⟨#[], #[.agg #[.int .i64 0, .int .i64 0, .int .i64 0, .int .i64 0, .int .i64 0, .string ByteArray.empty], .int .i64 0], []⟩ 8 (by kernel_rfl) (by kernel_rfl) (by kernel_rfl) (by kernel_rfl)) ?_
  intro W base args ds gs before hval0 hW hcnd _
  have hval : ∀ (j : Nat) t v, Try.f6.params[j]? = some t → args[j]? = some v → Value.okWide Try.prog W .any base t v := hval0
  have hW' := hW
  obtain ⟨p, q, hA0, hV, rfl, hfz, hnd⟩ := hW
  have hA : DataW.TrodAll enc Try.prog W 0 (fun _ => true) true Try.f6.params.toList args.toList ds p := hA0
  rw [Try.params6] at hA hval
  obtain ⟨v0, vs0, d0, ds0, p0, q0, hargs, rfl, rfl, h0, r0⟩ := trodAll_cons hA
  obtain ⟨v1, vs1, d1, ds1, p1, q1, rfl, rfl, rfl, h1, r1⟩ := trodAll_cons r0
  obtain ⟨rfl, rfl, rfl⟩ := trodAll_nil r1
  obtain rfl : args = #[v0, v1] := by cases args; simp_all
  obtain ⟨rfl, rfl⟩ := trodVars_none hV
  have k0 := h0
  have lt0 : ∀ x ∈ p0, x.block < W.heap.size := by obtain ⟨m, hm⟩ := k0; exact DataW.trod_lt m _ _ _ hm
  obtain ⟨⟨xa0, xb0, xc0, xd0, xe0, xf0⟩, w0, rfl⟩ := req_open (hval 0 23 v0 rfl rfl) h0
  obtain ⟨a1, rfl, rfl, rfl, w1⟩ := open_int Try.underlying3 (hval 1 3 v1 rfl rfl) h1
  clear hA0 hval0
  refine (walk xa0 xb0 xc0 xd0 xe0 xf0 a1 W w0 w1).mono fun e W' ⟨he, bel⟩ => ?_
  subst he
  exact ⟨_, rfl, _, _, _, [], _, [], hW', trodAll_mk1 (shut_bool Try.underlying4 _), (trodAll_cons_mk (Below.trod laidOut (by kernel_rfl) (of_decide_eq_true (by kernel_rfl)) k0 bel lt0) (trodAll_cons_mk (shut_int Try.underlying3 w1) trodAll_mk0)), rfl, bel.frame _, fun h => by cases h⟩

theorem over : Rows.itemBoundsRow.holds Try.pinned (OpenSpec.ofChange Rows.itemBoundsSpec) :=
  OpenClaim.holds_of_wide 6 Try.f6 rfl rfl rfl rfl rfl rfl rfl ⟨rfl, rfl, rfl, rfl, rfl⟩ rfl rfl rfl rfl rfl (by kernel_rfl) Try.func6 (by kernel_rfl)
    (of_decide_eq_true (by kernel_rfl)) (by unfold Func.isWrapper; first | (rw [if_pos (by decide +kernel)]; kernel_rfl) | (rw [if_neg (by decide +kernel)]; exact ⟨rfl, rfl⟩))
    (fun os started H enc _ => lifted os started H enc)
end Go.Proofs.Ytocedkdgmhegeaa.ItemBounds

namespace Go.Proofs.Ytocedkdgmhegeaa
theorem itemBounds_holds : Rows.ItemBoundsSaid := ItemBounds.over
#print axioms itemBounds_holds
end Go.Proofs.Ytocedkdgmhegeaa
