/-
  Each kind of request may have just its own parts (2.1), as ItemKinds says: for any kind, any Match, with Data or without. No condition.
-/
import Derived.Test.YtocedkdgmhegeaaItemArgs
namespace Go.Proofs.Ytocedkdgmhegeaa.ItemKinds
open Go.ChangeShapes Go.WideShapes Go.ChangeAt Go.RowKit

set_option maxHeartbeats 1000000 in
set_option maxRecDepth 100000 in
theorem walk1d (a b M : Int) (w : World) (ha : (IntKind.u64.wrap a).tmod 6 = 0) (hb : (IntKind.u64.wrap b).tmod 4 = M) (h0 : 0 ≤ M) (h4 : M < 4) :
    Calls Try.prog 8 #[.int .i64 a, .int .i64 b, .bool true] w fun e w' => e = .returned (.bool true) ∧ Below w.heap.size w w' := by
  have HT := Lib.hid (fun u => told2_any u)
  have HM : Hid (∀ u, Calls Try.prog 13 #[.agg #[.int .i64 0, .int .i64 1, .int .i64 1, .int .i64 0, .int .i64 M, .string ⟨#[120]⟩]] u fun e w' => e = .returned (.bool (M == 0)) ∧ Below u.heap.size u w') :=
    fun u => mayreq_r 0 1 1 0 M ⟨#[120]⟩ (by decide) (M == 0) (show _ = _ by
      have hz : ByteArray.size ⟨#[120]⟩ = 1 := rfl
      rw [Bool.eq_iff_iff, decide_eq_true_iff]
      unfold ReqV.may
      simp only
      rw [hz]
      first | omega | (simp; done) | (simp; omega)) u
  have HW : Hid (∀ u, Calls Try.prog 14 #[.agg #[.int .i64 0, .int .i64 1, .int .i64 1, .int .i64 0, .int .i64 M, .string ⟨#[120]⟩]] u fun e w' => e = .returned (.bool true) ∧ Below u.heap.size u w') := fun u => writes_any 0 1 1 0 M ⟨#[120]⟩ u
  have hw : wrap64 M = M := IntWalk.wrap64_in M (by omega)
  go_enter Try.func8, Try.ntmps8
  go_wp2_with fail
  refine (HT.out _).mono ?_
  rintro e w1 ⟨rfl, B1⟩
  have D1 : Hid (ReqB w1 w.heap.size 0 1 1 0 M ⟨#[120]⟩) := (ReqB.fresh w _ _ _ _ _ _ 23).keep B1 (by simp)
  have C1 : Hid (Below w.heap.size w w1) := ((Below.refl _ w).alloc (Nat.le_refl _) _).trans (B1.mono (by simp))
  obtain ⟨c0, c1, c2, c3, c4, c5⟩ := D1.out.cells
  clear B1
  go_wp2_with fail
  refine (HM.out _).mono ?_
  rintro e w2 ⟨rfl, B2⟩
  have D2 : Hid (ReqB w2 w.heap.size 0 1 1 0 M ⟨#[120]⟩) := D1.out.keep B2 D1.out.lt
  have C2 : Hid (Below w.heap.size w w2) := C1.out.trans (B2.mono C1.out.size)
  clear B2 c0 c1 c2 c3 c4 c5
  obtain ⟨c0, c1, c2, c3, c4, c5⟩ := D2.out.cells
  go_wp2_with fail
  refine (HW.out _).mono ?_
  rintro e w3 ⟨rfl, B3⟩
  have C3 : Hid (Below w.heap.size w w3) := C2.out.trans (B3.mono C2.out.size)
  clear B3
  go_wp2
  go_returns
  first | exact ⟨rfl, C3.out⟩ | exact ⟨ret_bool (by simp), C3.out⟩

set_option maxHeartbeats 1000000 in
set_option maxRecDepth 100000 in
theorem walk1n (a b M : Int) (w : World) (ha : (IntKind.u64.wrap a).tmod 6 = 0) (hb : (IntKind.u64.wrap b).tmod 4 = M) (h0 : 0 ≤ M) (h4 : M < 4) :
    Calls Try.prog 8 #[.int .i64 a, .int .i64 b, .bool false] w fun e w' => e = .returned (.bool true) ∧ Below w.heap.size w w' := by
  have HT := Lib.hid (fun u => told2_any u)
  have HM : Hid (∀ u, Calls Try.prog 13 #[.agg #[.int .i64 0, .int .i64 1, .int .i64 1, .int .i64 0, .int .i64 M, .string ⟨#[]⟩]] u fun e w' => e = .returned (.bool (M == 0)) ∧ Below u.heap.size u w') :=
    fun u => mayreq_r 0 1 1 0 M ⟨#[]⟩ (by decide) (M == 0) (show _ = _ by
      have hz : ByteArray.size ⟨#[]⟩ = 0 := rfl
      rw [Bool.eq_iff_iff, decide_eq_true_iff]
      unfold ReqV.may
      simp only
      rw [hz]
      first | omega | (simp; done) | (simp; omega)) u
  have HW : Hid (∀ u, Calls Try.prog 14 #[.agg #[.int .i64 0, .int .i64 1, .int .i64 1, .int .i64 0, .int .i64 M, .string ⟨#[]⟩]] u fun e w' => e = .returned (.bool true) ∧ Below u.heap.size u w') := fun u => writes_any 0 1 1 0 M ⟨#[]⟩ u
  have hw : wrap64 M = M := IntWalk.wrap64_in M (by omega)
  go_enter Try.func8, Try.ntmps8
  go_wp2_with fail
  refine (HT.out _).mono ?_
  rintro e w1 ⟨rfl, B1⟩
  have D1 : Hid (ReqB w1 w.heap.size 0 1 1 0 M ⟨#[]⟩) := (ReqB.fresh w _ _ _ _ _ _ 23).keep B1 (by simp)
  have C1 : Hid (Below w.heap.size w w1) := ((Below.refl _ w).alloc (Nat.le_refl _) _).trans (B1.mono (by simp))
  obtain ⟨c0, c1, c2, c3, c4, c5⟩ := D1.out.cells
  clear B1
  go_wp2_with fail
  refine (HM.out _).mono ?_
  rintro e w2 ⟨rfl, B2⟩
  have D2 : Hid (ReqB w2 w.heap.size 0 1 1 0 M ⟨#[]⟩) := D1.out.keep B2 D1.out.lt
  have C2 : Hid (Below w.heap.size w w2) := C1.out.trans (B2.mono C1.out.size)
  clear B2 c0 c1 c2 c3 c4 c5
  obtain ⟨c0, c1, c2, c3, c4, c5⟩ := D2.out.cells
  go_wp2_with fail
  refine (HW.out _).mono ?_
  rintro e w3 ⟨rfl, B3⟩
  have C3 : Hid (Below w.heap.size w w3) := C2.out.trans (B3.mono C2.out.size)
  clear B3
  go_wp2
  go_returns
  first | exact ⟨rfl, C3.out⟩ | exact ⟨ret_bool (by simp), C3.out⟩

set_option maxHeartbeats 1000000 in
set_option maxRecDepth 100000 in
theorem walk2d (a b M : Int) (w : World) (ha : (IntKind.u64.wrap a).tmod 6 = 1) (hb : (IntKind.u64.wrap b).tmod 4 = M) (h0 : 0 ≤ M) (h4 : M < 4) :
    Calls Try.prog 8 #[.int .i64 a, .int .i64 b, .bool true] w fun e w' => e = .returned (.bool true) ∧ Below w.heap.size w w' := by
  have HT := Lib.hid (fun u => told2_any u)
  have HM : Hid (∀ u, Calls Try.prog 13 #[.agg #[.int .i64 0, .int .i64 1, .int .i64 2, .int .i64 0, .int .i64 M, .string ⟨#[120]⟩]] u fun e w' => e = .returned (.bool true) ∧ Below u.heap.size u w') :=
    fun u => mayreq_r 0 1 2 0 M ⟨#[120]⟩ (by decide) true (show _ = _ by
      have hz : ByteArray.size ⟨#[120]⟩ = 1 := rfl
      rw [Bool.eq_iff_iff, decide_eq_true_iff]
      unfold ReqV.may
      simp only
      rw [hz]
      first | omega | (simp; done) | (simp; omega)) u
  have HW : Hid (∀ u, Calls Try.prog 14 #[.agg #[.int .i64 0, .int .i64 1, .int .i64 2, .int .i64 0, .int .i64 M, .string ⟨#[120]⟩]] u fun e w' => e = .returned (.bool true) ∧ Below u.heap.size u w') := fun u => writes_any 0 1 2 0 M ⟨#[120]⟩ u
  have hw : wrap64 M = M := IntWalk.wrap64_in M (by omega)
  go_enter Try.func8, Try.ntmps8
  go_wp2_with fail
  refine (HT.out _).mono ?_
  rintro e w1 ⟨rfl, B1⟩
  have D1 : Hid (ReqB w1 w.heap.size 0 1 2 0 M ⟨#[120]⟩) := (ReqB.fresh w _ _ _ _ _ _ 23).keep B1 (by simp)
  have C1 : Hid (Below w.heap.size w w1) := ((Below.refl _ w).alloc (Nat.le_refl _) _).trans (B1.mono (by simp))
  obtain ⟨c0, c1, c2, c3, c4, c5⟩ := D1.out.cells
  clear B1
  go_wp2_with fail
  refine (HM.out _).mono ?_
  rintro e w2 ⟨rfl, B2⟩
  have D2 : Hid (ReqB w2 w.heap.size 0 1 2 0 M ⟨#[120]⟩) := D1.out.keep B2 D1.out.lt
  have C2 : Hid (Below w.heap.size w w2) := C1.out.trans (B2.mono C1.out.size)
  clear B2 c0 c1 c2 c3 c4 c5
  obtain ⟨c0, c1, c2, c3, c4, c5⟩ := D2.out.cells
  go_wp2_with fail
  refine (HW.out _).mono ?_
  rintro e w3 ⟨rfl, B3⟩
  have C3 : Hid (Below w.heap.size w w3) := C2.out.trans (B3.mono C2.out.size)
  clear B3
  go_wp2
  go_returns
  first | exact ⟨rfl, C3.out⟩ | exact ⟨ret_bool (by simp), C3.out⟩

set_option maxHeartbeats 1000000 in
set_option maxRecDepth 100000 in
theorem walk2n (a b M : Int) (w : World) (ha : (IntKind.u64.wrap a).tmod 6 = 1) (hb : (IntKind.u64.wrap b).tmod 4 = M) (h0 : 0 ≤ M) (h4 : M < 4) :
    Calls Try.prog 8 #[.int .i64 a, .int .i64 b, .bool false] w fun e w' => e = .returned (.bool true) ∧ Below w.heap.size w w' := by
  have HT := Lib.hid (fun u => told2_any u)
  have HM : Hid (∀ u, Calls Try.prog 13 #[.agg #[.int .i64 0, .int .i64 1, .int .i64 2, .int .i64 0, .int .i64 M, .string ⟨#[]⟩]] u fun e w' => e = .returned (.bool true) ∧ Below u.heap.size u w') :=
    fun u => mayreq_r 0 1 2 0 M ⟨#[]⟩ (by decide) true (show _ = _ by
      have hz : ByteArray.size ⟨#[]⟩ = 0 := rfl
      rw [Bool.eq_iff_iff, decide_eq_true_iff]
      unfold ReqV.may
      simp only
      rw [hz]
      first | omega | (simp; done) | (simp; omega)) u
  have HW : Hid (∀ u, Calls Try.prog 14 #[.agg #[.int .i64 0, .int .i64 1, .int .i64 2, .int .i64 0, .int .i64 M, .string ⟨#[]⟩]] u fun e w' => e = .returned (.bool true) ∧ Below u.heap.size u w') := fun u => writes_any 0 1 2 0 M ⟨#[]⟩ u
  have hw : wrap64 M = M := IntWalk.wrap64_in M (by omega)
  go_enter Try.func8, Try.ntmps8
  go_wp2_with fail
  refine (HT.out _).mono ?_
  rintro e w1 ⟨rfl, B1⟩
  have D1 : Hid (ReqB w1 w.heap.size 0 1 2 0 M ⟨#[]⟩) := (ReqB.fresh w _ _ _ _ _ _ 23).keep B1 (by simp)
  have C1 : Hid (Below w.heap.size w w1) := ((Below.refl _ w).alloc (Nat.le_refl _) _).trans (B1.mono (by simp))
  obtain ⟨c0, c1, c2, c3, c4, c5⟩ := D1.out.cells
  clear B1
  go_wp2_with fail
  refine (HM.out _).mono ?_
  rintro e w2 ⟨rfl, B2⟩
  have D2 : Hid (ReqB w2 w.heap.size 0 1 2 0 M ⟨#[]⟩) := D1.out.keep B2 D1.out.lt
  have C2 : Hid (Below w.heap.size w w2) := C1.out.trans (B2.mono C1.out.size)
  clear B2 c0 c1 c2 c3 c4 c5
  obtain ⟨c0, c1, c2, c3, c4, c5⟩ := D2.out.cells
  go_wp2_with fail
  refine (HW.out _).mono ?_
  rintro e w3 ⟨rfl, B3⟩
  have C3 : Hid (Below w.heap.size w w3) := C2.out.trans (B3.mono C2.out.size)
  clear B3
  go_wp2
  go_returns
  first | exact ⟨rfl, C3.out⟩ | exact ⟨ret_bool (by simp), C3.out⟩

set_option maxHeartbeats 1000000 in
set_option maxRecDepth 100000 in
theorem walk3d (a b M : Int) (w : World) (ha : (IntKind.u64.wrap a).tmod 6 = 2) (hb : (IntKind.u64.wrap b).tmod 4 = M) (h0 : 0 ≤ M) (h4 : M < 4) :
    Calls Try.prog 8 #[.int .i64 a, .int .i64 b, .bool true] w fun e w' => e = .returned (.bool true) ∧ Below w.heap.size w w' := by
  have HT := Lib.hid (fun u => told2_any u)
  have HM : Hid (∀ u, Calls Try.prog 13 #[.agg #[.int .i64 0, .int .i64 1, .int .i64 3, .int .i64 0, .int .i64 M, .string ⟨#[120]⟩]] u fun e w' => e = .returned (.bool false) ∧ Below u.heap.size u w') :=
    fun u => mayreq_r 0 1 3 0 M ⟨#[120]⟩ (by decide) false (show _ = _ by
      have hz : ByteArray.size ⟨#[120]⟩ = 1 := rfl
      rw [Bool.eq_iff_iff, decide_eq_true_iff]
      unfold ReqV.may
      simp only
      rw [hz]
      first | omega | (simp; done) | (simp; omega)) u
  have HW : Hid (∀ u, Calls Try.prog 14 #[.agg #[.int .i64 0, .int .i64 1, .int .i64 3, .int .i64 0, .int .i64 M, .string ⟨#[120]⟩]] u fun e w' => e = .returned (.bool true) ∧ Below u.heap.size u w') := fun u => writes_any 0 1 3 0 M ⟨#[120]⟩ u
  have hw : wrap64 M = M := IntWalk.wrap64_in M (by omega)
  go_enter Try.func8, Try.ntmps8
  go_wp2_with fail
  refine (HT.out _).mono ?_
  rintro e w1 ⟨rfl, B1⟩
  have D1 : Hid (ReqB w1 w.heap.size 0 1 3 0 M ⟨#[120]⟩) := (ReqB.fresh w _ _ _ _ _ _ 23).keep B1 (by simp)
  have C1 : Hid (Below w.heap.size w w1) := ((Below.refl _ w).alloc (Nat.le_refl _) _).trans (B1.mono (by simp))
  obtain ⟨c0, c1, c2, c3, c4, c5⟩ := D1.out.cells
  clear B1
  go_wp2_with fail
  refine (HM.out _).mono ?_
  rintro e w2 ⟨rfl, B2⟩
  have D2 : Hid (ReqB w2 w.heap.size 0 1 3 0 M ⟨#[120]⟩) := D1.out.keep B2 D1.out.lt
  have C2 : Hid (Below w.heap.size w w2) := C1.out.trans (B2.mono C1.out.size)
  clear B2 c0 c1 c2 c3 c4 c5
  obtain ⟨c0, c1, c2, c3, c4, c5⟩ := D2.out.cells
  go_wp2_with fail
  refine (HW.out _).mono ?_
  rintro e w3 ⟨rfl, B3⟩
  have C3 : Hid (Below w.heap.size w w3) := C2.out.trans (B3.mono C2.out.size)
  clear B3
  go_wp2
  go_returns
  first | exact ⟨rfl, C3.out⟩ | exact ⟨ret_bool (by simp), C3.out⟩

set_option maxHeartbeats 1000000 in
set_option maxRecDepth 100000 in
theorem walk3n (a b M : Int) (w : World) (ha : (IntKind.u64.wrap a).tmod 6 = 2) (hb : (IntKind.u64.wrap b).tmod 4 = M) (h0 : 0 ≤ M) (h4 : M < 4) :
    Calls Try.prog 8 #[.int .i64 a, .int .i64 b, .bool false] w fun e w' => e = .returned (.bool true) ∧ Below w.heap.size w w' := by
  have HT := Lib.hid (fun u => told2_any u)
  have HM : Hid (∀ u, Calls Try.prog 13 #[.agg #[.int .i64 0, .int .i64 1, .int .i64 3, .int .i64 0, .int .i64 M, .string ⟨#[]⟩]] u fun e w' => e = .returned (.bool true) ∧ Below u.heap.size u w') :=
    fun u => mayreq_r 0 1 3 0 M ⟨#[]⟩ (by decide) true (show _ = _ by
      have hz : ByteArray.size ⟨#[]⟩ = 0 := rfl
      rw [Bool.eq_iff_iff, decide_eq_true_iff]
      unfold ReqV.may
      simp only
      rw [hz]
      first | omega | (simp; done) | (simp; omega)) u
  have HW : Hid (∀ u, Calls Try.prog 14 #[.agg #[.int .i64 0, .int .i64 1, .int .i64 3, .int .i64 0, .int .i64 M, .string ⟨#[]⟩]] u fun e w' => e = .returned (.bool true) ∧ Below u.heap.size u w') := fun u => writes_any 0 1 3 0 M ⟨#[]⟩ u
  have hw : wrap64 M = M := IntWalk.wrap64_in M (by omega)
  go_enter Try.func8, Try.ntmps8
  go_wp2_with fail
  refine (HT.out _).mono ?_
  rintro e w1 ⟨rfl, B1⟩
  have D1 : Hid (ReqB w1 w.heap.size 0 1 3 0 M ⟨#[]⟩) := (ReqB.fresh w _ _ _ _ _ _ 23).keep B1 (by simp)
  have C1 : Hid (Below w.heap.size w w1) := ((Below.refl _ w).alloc (Nat.le_refl _) _).trans (B1.mono (by simp))
  obtain ⟨c0, c1, c2, c3, c4, c5⟩ := D1.out.cells
  clear B1
  go_wp2_with fail
  refine (HM.out _).mono ?_
  rintro e w2 ⟨rfl, B2⟩
  have D2 : Hid (ReqB w2 w.heap.size 0 1 3 0 M ⟨#[]⟩) := D1.out.keep B2 D1.out.lt
  have C2 : Hid (Below w.heap.size w w2) := C1.out.trans (B2.mono C1.out.size)
  clear B2 c0 c1 c2 c3 c4 c5
  obtain ⟨c0, c1, c2, c3, c4, c5⟩ := D2.out.cells
  go_wp2_with fail
  refine (HW.out _).mono ?_
  rintro e w3 ⟨rfl, B3⟩
  have C3 : Hid (Below w.heap.size w w3) := C2.out.trans (B3.mono C2.out.size)
  clear B3
  go_wp2
  go_returns
  first | exact ⟨rfl, C3.out⟩ | exact ⟨ret_bool (by simp), C3.out⟩

set_option maxHeartbeats 1000000 in
set_option maxRecDepth 100000 in
theorem walk4d (a b M : Int) (w : World) (ha : (IntKind.u64.wrap a).tmod 6 = 3) (hb : (IntKind.u64.wrap b).tmod 4 = M) (h0 : 0 ≤ M) (h4 : M < 4) :
    Calls Try.prog 8 #[.int .i64 a, .int .i64 b, .bool true] w fun e w' => e = .returned (.bool true) ∧ Below w.heap.size w w' := by
  have HT := Lib.hid (fun u => told2_any u)
  have HM : Hid (∀ u, Calls Try.prog 13 #[.agg #[.int .i64 0, .int .i64 1, .int .i64 4, .int .i64 0, .int .i64 M, .string ⟨#[120]⟩]] u fun e w' => e = .returned (.bool false) ∧ Below u.heap.size u w') :=
    fun u => mayreq_r 0 1 4 0 M ⟨#[120]⟩ (by decide) false (show _ = _ by
      have hz : ByteArray.size ⟨#[120]⟩ = 1 := rfl
      rw [Bool.eq_iff_iff, decide_eq_true_iff]
      unfold ReqV.may
      simp only
      rw [hz]
      first | omega | (simp; done) | (simp; omega)) u
  have HW : Hid (∀ u, Calls Try.prog 14 #[.agg #[.int .i64 0, .int .i64 1, .int .i64 4, .int .i64 0, .int .i64 M, .string ⟨#[120]⟩]] u fun e w' => e = .returned (.bool false) ∧ Below u.heap.size u w') := fun u => writes_any 0 1 4 0 M ⟨#[120]⟩ u
  have hw : wrap64 M = M := IntWalk.wrap64_in M (by omega)
  go_enter Try.func8, Try.ntmps8
  go_wp2_with fail
  refine (HT.out _).mono ?_
  rintro e w1 ⟨rfl, B1⟩
  have D1 : Hid (ReqB w1 w.heap.size 0 1 4 0 M ⟨#[120]⟩) := (ReqB.fresh w _ _ _ _ _ _ 23).keep B1 (by simp)
  have C1 : Hid (Below w.heap.size w w1) := ((Below.refl _ w).alloc (Nat.le_refl _) _).trans (B1.mono (by simp))
  obtain ⟨c0, c1, c2, c3, c4, c5⟩ := D1.out.cells
  clear B1
  go_wp2_with fail
  refine (HM.out _).mono ?_
  rintro e w2 ⟨rfl, B2⟩
  have D2 : Hid (ReqB w2 w.heap.size 0 1 4 0 M ⟨#[120]⟩) := D1.out.keep B2 D1.out.lt
  have C2 : Hid (Below w.heap.size w w2) := C1.out.trans (B2.mono C1.out.size)
  clear B2 c0 c1 c2 c3 c4 c5
  obtain ⟨c0, c1, c2, c3, c4, c5⟩ := D2.out.cells
  go_wp2_with fail
  refine (HW.out _).mono ?_
  rintro e w3 ⟨rfl, B3⟩
  have C3 : Hid (Below w.heap.size w w3) := C2.out.trans (B3.mono C2.out.size)
  clear B3
  go_wp2
  go_returns
  first | exact ⟨rfl, C3.out⟩ | exact ⟨ret_bool (by simp), C3.out⟩

set_option maxHeartbeats 1000000 in
set_option maxRecDepth 100000 in
theorem walk4n (a b M : Int) (w : World) (ha : (IntKind.u64.wrap a).tmod 6 = 3) (hb : (IntKind.u64.wrap b).tmod 4 = M) (h0 : 0 ≤ M) (h4 : M < 4) :
    Calls Try.prog 8 #[.int .i64 a, .int .i64 b, .bool false] w fun e w' => e = .returned (.bool true) ∧ Below w.heap.size w w' := by
  have HT := Lib.hid (fun u => told2_any u)
  have HM : Hid (∀ u, Calls Try.prog 13 #[.agg #[.int .i64 0, .int .i64 1, .int .i64 4, .int .i64 0, .int .i64 M, .string ⟨#[]⟩]] u fun e w' => e = .returned (.bool (M == 0)) ∧ Below u.heap.size u w') :=
    fun u => mayreq_r 0 1 4 0 M ⟨#[]⟩ (by decide) (M == 0) (show _ = _ by
      have hz : ByteArray.size ⟨#[]⟩ = 0 := rfl
      rw [Bool.eq_iff_iff, decide_eq_true_iff]
      unfold ReqV.may
      simp only
      rw [hz]
      first | omega | (simp; done) | (simp; omega)) u
  have HW : Hid (∀ u, Calls Try.prog 14 #[.agg #[.int .i64 0, .int .i64 1, .int .i64 4, .int .i64 0, .int .i64 M, .string ⟨#[]⟩]] u fun e w' => e = .returned (.bool false) ∧ Below u.heap.size u w') := fun u => writes_any 0 1 4 0 M ⟨#[]⟩ u
  have hw : wrap64 M = M := IntWalk.wrap64_in M (by omega)
  go_enter Try.func8, Try.ntmps8
  go_wp2_with fail
  refine (HT.out _).mono ?_
  rintro e w1 ⟨rfl, B1⟩
  have D1 : Hid (ReqB w1 w.heap.size 0 1 4 0 M ⟨#[]⟩) := (ReqB.fresh w _ _ _ _ _ _ 23).keep B1 (by simp)
  have C1 : Hid (Below w.heap.size w w1) := ((Below.refl _ w).alloc (Nat.le_refl _) _).trans (B1.mono (by simp))
  obtain ⟨c0, c1, c2, c3, c4, c5⟩ := D1.out.cells
  clear B1
  go_wp2_with fail
  refine (HM.out _).mono ?_
  rintro e w2 ⟨rfl, B2⟩
  have D2 : Hid (ReqB w2 w.heap.size 0 1 4 0 M ⟨#[]⟩) := D1.out.keep B2 D1.out.lt
  have C2 : Hid (Below w.heap.size w w2) := C1.out.trans (B2.mono C1.out.size)
  clear B2 c0 c1 c2 c3 c4 c5
  obtain ⟨c0, c1, c2, c3, c4, c5⟩ := D2.out.cells
  go_wp2_with fail
  refine (HW.out _).mono ?_
  rintro e w3 ⟨rfl, B3⟩
  have C3 : Hid (Below w.heap.size w w3) := C2.out.trans (B3.mono C2.out.size)
  clear B3
  go_wp2
  go_returns
  first | exact ⟨rfl, C3.out⟩ | exact ⟨ret_bool (by simp), C3.out⟩

set_option maxHeartbeats 1000000 in
set_option maxRecDepth 100000 in
theorem walk5d (a b M : Int) (w : World) (ha : (IntKind.u64.wrap a).tmod 6 = 4) (hb : (IntKind.u64.wrap b).tmod 4 = M) (h0 : 0 ≤ M) (h4 : M < 4) :
    Calls Try.prog 8 #[.int .i64 a, .int .i64 b, .bool true] w fun e w' => e = .returned (.bool true) ∧ Below w.heap.size w w' := by
  have HT := Lib.hid (fun u => told2_any u)
  have HM : Hid (∀ u, Calls Try.prog 13 #[.agg #[.int .i64 0, .int .i64 1, .int .i64 5, .int .i64 0, .int .i64 M, .string ⟨#[120]⟩]] u fun e w' => e = .returned (.bool false) ∧ Below u.heap.size u w') :=
    fun u => mayreq_r 0 1 5 0 M ⟨#[120]⟩ (by decide) false (show _ = _ by
      have hz : ByteArray.size ⟨#[120]⟩ = 1 := rfl
      rw [Bool.eq_iff_iff, decide_eq_true_iff]
      unfold ReqV.may
      simp only
      rw [hz]
      first | omega | (simp; done) | (simp; omega)) u
  have HW : Hid (∀ u, Calls Try.prog 14 #[.agg #[.int .i64 0, .int .i64 1, .int .i64 5, .int .i64 0, .int .i64 M, .string ⟨#[120]⟩]] u fun e w' => e = .returned (.bool false) ∧ Below u.heap.size u w') := fun u => writes_any 0 1 5 0 M ⟨#[120]⟩ u
  have hw : wrap64 M = M := IntWalk.wrap64_in M (by omega)
  go_enter Try.func8, Try.ntmps8
  go_wp2_with fail
  refine (HT.out _).mono ?_
  rintro e w1 ⟨rfl, B1⟩
  have D1 : Hid (ReqB w1 w.heap.size 0 1 5 0 M ⟨#[120]⟩) := (ReqB.fresh w _ _ _ _ _ _ 23).keep B1 (by simp)
  have C1 : Hid (Below w.heap.size w w1) := ((Below.refl _ w).alloc (Nat.le_refl _) _).trans (B1.mono (by simp))
  obtain ⟨c0, c1, c2, c3, c4, c5⟩ := D1.out.cells
  clear B1
  go_wp2_with fail
  refine (HM.out _).mono ?_
  rintro e w2 ⟨rfl, B2⟩
  have D2 : Hid (ReqB w2 w.heap.size 0 1 5 0 M ⟨#[120]⟩) := D1.out.keep B2 D1.out.lt
  have C2 : Hid (Below w.heap.size w w2) := C1.out.trans (B2.mono C1.out.size)
  clear B2 c0 c1 c2 c3 c4 c5
  obtain ⟨c0, c1, c2, c3, c4, c5⟩ := D2.out.cells
  go_wp2_with fail
  refine (HW.out _).mono ?_
  rintro e w3 ⟨rfl, B3⟩
  have C3 : Hid (Below w.heap.size w w3) := C2.out.trans (B3.mono C2.out.size)
  clear B3
  go_wp2
  go_returns
  first | exact ⟨rfl, C3.out⟩ | exact ⟨ret_bool (by simp), C3.out⟩

set_option maxHeartbeats 1000000 in
set_option maxRecDepth 100000 in
theorem walk5n (a b M : Int) (w : World) (ha : (IntKind.u64.wrap a).tmod 6 = 4) (hb : (IntKind.u64.wrap b).tmod 4 = M) (h0 : 0 ≤ M) (h4 : M < 4) :
    Calls Try.prog 8 #[.int .i64 a, .int .i64 b, .bool false] w fun e w' => e = .returned (.bool true) ∧ Below w.heap.size w w' := by
  have HT := Lib.hid (fun u => told2_any u)
  have HM : Hid (∀ u, Calls Try.prog 13 #[.agg #[.int .i64 0, .int .i64 1, .int .i64 5, .int .i64 0, .int .i64 M, .string ⟨#[]⟩]] u fun e w' => e = .returned (.bool (decide (0 < M))) ∧ Below u.heap.size u w') :=
    fun u => mayreq_r 0 1 5 0 M ⟨#[]⟩ (by decide) (decide (0 < M)) (show _ = _ by
      have hz : ByteArray.size ⟨#[]⟩ = 0 := rfl
      rw [Bool.eq_iff_iff, decide_eq_true_iff]
      unfold ReqV.may
      simp only
      rw [hz]
      first | omega | (simp; done) | (simp; omega)) u
  have HW : Hid (∀ u, Calls Try.prog 14 #[.agg #[.int .i64 0, .int .i64 1, .int .i64 5, .int .i64 0, .int .i64 M, .string ⟨#[]⟩]] u fun e w' => e = .returned (.bool false) ∧ Below u.heap.size u w') := fun u => writes_any 0 1 5 0 M ⟨#[]⟩ u
  have hw : wrap64 M = M := IntWalk.wrap64_in M (by omega)
  go_enter Try.func8, Try.ntmps8
  go_wp2_with fail
  refine (HT.out _).mono ?_
  rintro e w1 ⟨rfl, B1⟩
  have D1 : Hid (ReqB w1 w.heap.size 0 1 5 0 M ⟨#[]⟩) := (ReqB.fresh w _ _ _ _ _ _ 23).keep B1 (by simp)
  have C1 : Hid (Below w.heap.size w w1) := ((Below.refl _ w).alloc (Nat.le_refl _) _).trans (B1.mono (by simp))
  obtain ⟨c0, c1, c2, c3, c4, c5⟩ := D1.out.cells
  clear B1
  go_wp2_with fail
  refine (HM.out _).mono ?_
  rintro e w2 ⟨rfl, B2⟩
  have D2 : Hid (ReqB w2 w.heap.size 0 1 5 0 M ⟨#[]⟩) := D1.out.keep B2 D1.out.lt
  have C2 : Hid (Below w.heap.size w w2) := C1.out.trans (B2.mono C1.out.size)
  clear B2 c0 c1 c2 c3 c4 c5
  obtain ⟨c0, c1, c2, c3, c4, c5⟩ := D2.out.cells
  go_wp2_with fail
  refine (HW.out _).mono ?_
  rintro e w3 ⟨rfl, B3⟩
  have C3 : Hid (Below w.heap.size w w3) := C2.out.trans (B3.mono C2.out.size)
  clear B3
  go_wp2
  go_returns
  first | exact ⟨rfl, C3.out⟩ | exact ⟨ret_bool (by simp), C3.out⟩

set_option maxHeartbeats 1000000 in
set_option maxRecDepth 100000 in
theorem walk6d (a b M : Int) (w : World) (ha : (IntKind.u64.wrap a).tmod 6 = 5) (hb : (IntKind.u64.wrap b).tmod 4 = M) (h0 : 0 ≤ M) (h4 : M < 4) :
    Calls Try.prog 8 #[.int .i64 a, .int .i64 b, .bool true] w fun e w' => e = .returned (.bool true) ∧ Below w.heap.size w w' := by
  have HT := Lib.hid (fun u => told2_any u)
  have HM : Hid (∀ u, Calls Try.prog 13 #[.agg #[.int .i64 0, .int .i64 1, .int .i64 6, .int .i64 0, .int .i64 M, .string ⟨#[120]⟩]] u fun e w' => e = .returned (.bool false) ∧ Below u.heap.size u w') :=
    fun u => mayreq_r 0 1 6 0 M ⟨#[120]⟩ (by decide) false (show _ = _ by
      have hz : ByteArray.size ⟨#[120]⟩ = 1 := rfl
      rw [Bool.eq_iff_iff, decide_eq_true_iff]
      unfold ReqV.may
      simp only
      rw [hz]
      first | omega | (simp; done) | (simp; omega)) u
  have HW : Hid (∀ u, Calls Try.prog 14 #[.agg #[.int .i64 0, .int .i64 1, .int .i64 6, .int .i64 0, .int .i64 M, .string ⟨#[120]⟩]] u fun e w' => e = .returned (.bool false) ∧ Below u.heap.size u w') := fun u => writes_any 0 1 6 0 M ⟨#[120]⟩ u
  have hw : wrap64 M = M := IntWalk.wrap64_in M (by omega)
  go_enter Try.func8, Try.ntmps8
  go_wp2_with fail
  refine (HT.out _).mono ?_
  rintro e w1 ⟨rfl, B1⟩
  have D1 : Hid (ReqB w1 w.heap.size 0 1 6 0 M ⟨#[120]⟩) := (ReqB.fresh w _ _ _ _ _ _ 23).keep B1 (by simp)
  have C1 : Hid (Below w.heap.size w w1) := ((Below.refl _ w).alloc (Nat.le_refl _) _).trans (B1.mono (by simp))
  obtain ⟨c0, c1, c2, c3, c4, c5⟩ := D1.out.cells
  clear B1
  go_wp2_with fail
  refine (HM.out _).mono ?_
  rintro e w2 ⟨rfl, B2⟩
  have D2 : Hid (ReqB w2 w.heap.size 0 1 6 0 M ⟨#[120]⟩) := D1.out.keep B2 D1.out.lt
  have C2 : Hid (Below w.heap.size w w2) := C1.out.trans (B2.mono C1.out.size)
  clear B2 c0 c1 c2 c3 c4 c5
  obtain ⟨c0, c1, c2, c3, c4, c5⟩ := D2.out.cells
  go_wp2_with fail
  refine (HW.out _).mono ?_
  rintro e w3 ⟨rfl, B3⟩
  have C3 : Hid (Below w.heap.size w w3) := C2.out.trans (B3.mono C2.out.size)
  clear B3
  go_wp2
  go_returns
  first | exact ⟨rfl, C3.out⟩ | exact ⟨ret_bool (by simp), C3.out⟩

set_option maxHeartbeats 1000000 in
set_option maxRecDepth 100000 in
theorem walk6n (a b M : Int) (w : World) (ha : (IntKind.u64.wrap a).tmod 6 = 5) (hb : (IntKind.u64.wrap b).tmod 4 = M) (h0 : 0 ≤ M) (h4 : M < 4) :
    Calls Try.prog 8 #[.int .i64 a, .int .i64 b, .bool false] w fun e w' => e = .returned (.bool true) ∧ Below w.heap.size w w' := by
  have HT := Lib.hid (fun u => told2_any u)
  have HM : Hid (∀ u, Calls Try.prog 13 #[.agg #[.int .i64 0, .int .i64 1, .int .i64 6, .int .i64 0, .int .i64 M, .string ⟨#[]⟩]] u fun e w' => e = .returned (.bool (M == 0)) ∧ Below u.heap.size u w') :=
    fun u => mayreq_r 0 1 6 0 M ⟨#[]⟩ (by decide) (M == 0) (show _ = _ by
      have hz : ByteArray.size ⟨#[]⟩ = 0 := rfl
      rw [Bool.eq_iff_iff, decide_eq_true_iff]
      unfold ReqV.may
      simp only
      rw [hz]
      first | omega | (simp; done) | (simp; omega)) u
  have HW : Hid (∀ u, Calls Try.prog 14 #[.agg #[.int .i64 0, .int .i64 1, .int .i64 6, .int .i64 0, .int .i64 M, .string ⟨#[]⟩]] u fun e w' => e = .returned (.bool false) ∧ Below u.heap.size u w') := fun u => writes_any 0 1 6 0 M ⟨#[]⟩ u
  have hw : wrap64 M = M := IntWalk.wrap64_in M (by omega)
  go_enter Try.func8, Try.ntmps8
  go_wp2_with fail
  refine (HT.out _).mono ?_
  rintro e w1 ⟨rfl, B1⟩
  have D1 : Hid (ReqB w1 w.heap.size 0 1 6 0 M ⟨#[]⟩) := (ReqB.fresh w _ _ _ _ _ _ 23).keep B1 (by simp)
  have C1 : Hid (Below w.heap.size w w1) := ((Below.refl _ w).alloc (Nat.le_refl _) _).trans (B1.mono (by simp))
  obtain ⟨c0, c1, c2, c3, c4, c5⟩ := D1.out.cells
  clear B1
  go_wp2_with fail
  refine (HM.out _).mono ?_
  rintro e w2 ⟨rfl, B2⟩
  have D2 : Hid (ReqB w2 w.heap.size 0 1 6 0 M ⟨#[]⟩) := D1.out.keep B2 D1.out.lt
  have C2 : Hid (Below w.heap.size w w2) := C1.out.trans (B2.mono C1.out.size)
  clear B2 c0 c1 c2 c3 c4 c5
  obtain ⟨c0, c1, c2, c3, c4, c5⟩ := D2.out.cells
  go_wp2_with fail
  refine (HW.out _).mono ?_
  rintro e w3 ⟨rfl, B3⟩
  have C3 : Hid (Below w.heap.size w w3) := C2.out.trans (B3.mono C2.out.size)
  clear B3
  go_wp2
  go_returns
  first | exact ⟨rfl, C3.out⟩ | exact ⟨ret_bool (by simp), C3.out⟩

theorem walk (a b : Int) (d : Bool) (w : World) (_ : (Lit.int .i64 a).wf = true) (_ : (Lit.int .i64 b).wf = true) :
    Calls Try.prog 8 #[.int .i64 a, .int .i64 b, .bool d] w fun e w' => e = .returned (.bool true) ∧ Below w.heap.size w w' := by
  have hu : ∀ x, 0 ≤ IntKind.u64.wrap x := fun x => by simp [IntKind.wrap, IntKind.bits, IntKind.signed]; omega
  obtain ⟨M, hM⟩ : ∃ M, (IntKind.u64.wrap b).tmod 4 = M := ⟨_, rfl⟩
  obtain ⟨K, hK⟩ : ∃ K, (IntKind.u64.wrap a).tmod 6 = K := ⟨_, rfl⟩
  have m0 : 0 ≤ M := by rw [← hM, Int.tmod_eq_emod_of_nonneg (hu b)]; omega
  have m4 : M < 4 := by rw [← hM, Int.tmod_eq_emod_of_nonneg (hu b)]; omega
  have k0 : 0 ≤ K := by rw [← hK, Int.tmod_eq_emod_of_nonneg (hu a)]; omega
  have k6 : K < 6 := by rw [← hK, Int.tmod_eq_emod_of_nonneg (hu a)]; omega
  rcases (show K = 0 ∨ K = 1 ∨ K = 2 ∨ K = 3 ∨ K = 4 ∨ K = 5 by omega) with rfl | rfl | rfl | rfl | rfl | rfl <;> cases d
  · exact walk1n a b M w hK hM m0 m4
  · exact walk1d a b M w hK hM m0 m4
  · exact walk2n a b M w hK hM m0 m4
  · exact walk2d a b M w hK hM m0 m4
  · exact walk3n a b M w hK hM m0 m4
  · exact walk3d a b M w hK hM m0 m4
  · exact walk4n a b M w hK hM m0 m4
  · exact walk4d a b M w hK hM m0 m4
  · exact walk5n a b M w hK hM m0 m4
  · exact walk5d a b M w hK hM m0 m4
  · exact walk6n a b M w hK hM m0 m4
  · exact walk6d a b M w hK hM m0 m4

set_option maxRecDepth 100000 in
theorem lifted (os : Os) (started : os.Started) (H : Type) (enc : TypeId × Value → H) :
    ReturnsInHanded {} Try.checked os 8 .any (Rows.itemKindsSpec.pre6 enc Try.prog Try.f8 Rows.itemKindsRow.domain false) (Rows.itemKindsSpec.post enc Try.prog Try.f8 false true false false) := by
  refine returnsInHanded_of_change (C := Try.checked) own started (by kernel_rfl) Try.func8
    (ChangeSpec.witness6 (enc := enc) (C := Try.checked) false ⟨#[], #[.int .i64 0, .int .i64 0, .bool false], []⟩ 8 (by kernel_rfl) (by kernel_rfl) (by kernel_rfl) (by kernel_rfl)) ?_
  intro W base args ds gs before hval0 hW hcnd _
  have hval : ∀ (j : Nat) t v, Try.f8.params[j]? = some t → args[j]? = some v → Value.okWide Try.prog W .any base t v := hval0
  have hW' := hW
  obtain ⟨p, q, hA0, hV, rfl, hfz, hnd⟩ := hW
  have hA : DataW.TrodAll enc Try.prog W 0 (fun _ => true) true Try.f8.params.toList args.toList ds p := hA0
  rw [Try.params8] at hA hval
  obtain ⟨v0, vs0, d0, ds0, p0, q0, hargs, rfl, rfl, h0, r0⟩ := trodAll_cons hA
  obtain ⟨v1, vs1, d1, ds1, p1, q1, rfl, rfl, rfl, h1, r1⟩ := trodAll_cons r0
  obtain ⟨v2, vs2, d2, ds2, p2, q2, rfl, rfl, rfl, h2, r2⟩ := trodAll_cons r1
  obtain ⟨rfl, rfl, rfl⟩ := trodAll_nil r2
  obtain rfl : args = #[v0, v1, v2] := by cases args; simp_all
  obtain ⟨rfl, rfl⟩ := trodVars_none hV
  obtain ⟨a0, rfl, rfl, rfl, w0⟩ := open_int Try.underlying3 (hval 0 3 v0 rfl rfl) h0
  obtain ⟨a1, rfl, rfl, rfl, w1⟩ := open_int Try.underlying3 (hval 1 3 v1 rfl rfl) h1
  obtain ⟨a2, rfl, rfl, rfl⟩ := open_bool Try.underlying4 (hval 2 4 v2 rfl rfl) h2
  clear hA0 hval0
  refine (walk a0 a1 a2 W w0 w1).mono fun e W' ⟨he, bel⟩ => ?_
  subst he
  exact ⟨_, rfl, _, _, _, [], _, [], hW', trodAll_mk1 (shut_bool Try.underlying4 _), (trodAll_cons_mk (shut_int Try.underlying3 w0) (trodAll_cons_mk (shut_int Try.underlying3 w1) (trodAll_cons_mk (shut_bool Try.underlying4 _) trodAll_mk0))), rfl, bel.frame _, fun h => by cases h⟩

theorem over : Rows.itemKindsRow.holds Try.pinned (OpenSpec.ofChange Rows.itemKindsSpec) :=
  OpenClaim.holds_of_wide 8 Try.f8 rfl rfl rfl rfl rfl rfl rfl ⟨rfl, rfl, rfl, rfl, rfl⟩ rfl rfl rfl rfl rfl (by kernel_rfl) Try.func8 (by kernel_rfl)
    (of_decide_eq_true (by kernel_rfl)) (by unfold Func.isWrapper; first | (rw [if_pos (by decide +kernel)]; kernel_rfl) | (rw [if_neg (by decide +kernel)]; exact ⟨rfl, rfl⟩))
    (fun os started H enc _ => lifted os started H enc)
end Go.Proofs.Ytocedkdgmhegeaa.ItemKinds

namespace Go.Proofs.Ytocedkdgmhegeaa
theorem itemKinds_holds : Rows.ItemKindsSaid := ItemKinds.over
#print axioms itemKinds_holds
end Go.Proofs.Ytocedkdgmhegeaa
