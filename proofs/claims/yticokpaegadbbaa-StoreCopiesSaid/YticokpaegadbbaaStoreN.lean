/-
  THE PROGRAM's STORE: New; Put where it refuses. No condition but that the request can be read.
-/
import Derived.Test.YticokpaegadbbaaStoreA
import Derived.Test.YticokpaegadbbaaItemMayP
import Derived.Test.YticokpaegadbbaaReqA
import Derived.Deep.RegionHeld3
namespace Go.Proofs.Yticokpaegadbbaa
open Go.RowKit

/-- The cells of a new store. -/
def newF (q : Int) (k : Nat) : Value :=
  if k = 0 then .int .i64 q else if k = 1 then .int .i64 0 else if k < 26 then (if k % 6 = 5 then .string ⟨#[]⟩ else if k % 6 = 0 then .slice none 0 0 else .int .i64 0) else .slice none 0 0
theorem newF_row (q : Int) (row : Array Value) (h : row.toList = (List.range 58).map (newF q)) : row.size = 58 ∧ ∀ k, k < 58 → row[k]? = some (newF q k) := by
  refine ⟨by rw [← Array.length_toList, h]; simp, fun k hk => ?_⟩
  rw [← Array.getElem?_toList, h]
  simp [hk]
theorem newF_tell (q : Int) (w : World) : Tell layP w (newF q) (newV q) := by
  refine ⟨fun k hk x => ?_, rfl, rfl, fun c hc => ?_, fun i hi => ?_⟩
  · unfold newF
    repeat' split
    all_goals simp
  · match c, hc with
    | 0, _ => exact ⟨rfl, rfl, rfl, rfl, rfl, Nil0.none⟩
    | 1, _ => exact ⟨rfl, rfl, rfl, rfl, rfl, Nil0.none⟩
    | 2, _ => exact ⟨rfl, rfl, rfl, rfl, rfl, Nil0.none⟩
    | 3, _ => exact ⟨rfl, rfl, rfl, rfl, rfl, Nil0.none⟩
  · have e : newF q (layP.res i) = .slice none 0 0 := by
      show newF q (26 + i) = _
      unfold newF
      rw [if_neg (by omega), if_neg (by omega), if_neg (by omega)]
    rw [e]
    exact Vers.none _ _

/-- A new store, and nothing else. -/
def Made (q : Int) (w : World) (e : Ending) (w' : World) : Prop :=
  e = .returned (.tuple #[.pointer (some ⟨w.heap.size, 0, none⟩), .int .i64 0]) ∧ Sto layP w' w.heap.size (newV q) ∧ w'.heap.size = w.heap.size + 1 ∧ Below w.heap.size w w'

set_option maxRecDepth 100000 in
set_option maxHeartbeats 1000000 in
theorem snew_r (q : Int) (h1 : 1 ≤ q) (h2 : q ≤ 100) (w : World) : Calls Try.prog 10 #[.int .i64 q] w (Made q w) := by
  go_enter Try.func10, Try.ntmps10
  go_wp2
  go_returns
  refine ⟨rfl, ?_, by simp, by go_grown⟩
  obtain ⟨g1, g2⟩ := newF_row q _ (by rfl)
  exact ⟨newF q, ⟨_, heap_alloc_new w _, g1, g2⟩, newF_tell q _⟩

set_option maxHeartbeats 400000 in
theorem snew_bad (q : Int) (h : q < 1 ∨ 100 < q) (w : World) : Calls Try.prog 10 #[.int .i64 q] w fun e w' => e = .returned (.tuple #[.pointer none, .int .i64 1]) ∧ w = w' := by
  by_cases h1 : q < 1
  · clear h
    go_enter Try.func10, Try.ntmps10
    go_wp2
    go_returns
    exact ⟨rfl, rfl⟩
  · have h2 : 100 < q := by omega
    have h3 : 1 ≤ q := by omega
    clear h h1
    go_enter Try.func10, Try.ntmps10
    go_wp2
    go_returns
    exact ⟨rfl, rfl⟩

/-- What is told of a request that is refused. -/
def Refused (x : Int) (w : World) (e : Ending) (w' : World) : Prop := e = .returned (.tuple #[.agg #[.int .i64 0, .int .i64 0, .string ⟨#[]⟩, .slice none 0 0], .int .i64 x]) ∧ Below w.heap.size w w'

set_option maxRecDepth 100000 in
set_option maxHeartbeats 1000000 in
theorem sput_nil (cl sq kd id mt : Int) (dt : ByteArray) (w : World) :
    Calls Try.prog 14 #[.pointer none, .agg #[.int .i64 cl, .int .i64 sq, .int .i64 kd, .int .i64 id, .int .i64 mt, .string dt]] w (Refused 1 w) := by
  go_enter Try.func14, Try.ntmps14
  go_wp2
  go_returns
  exact ⟨rfl, by go_grown⟩
set_option maxRecDepth 100000 in
set_option maxHeartbeats 1000000 in
theorem sask_nil (cl sq kd id mt : Int) (dt : ByteArray) (w : World) :
    Calls Try.prog 17 #[.pointer none, .agg #[.int .i64 cl, .int .i64 sq, .int .i64 kd, .int .i64 id, .int .i64 mt, .string dt]] w (Refused 1 w) := by
  go_enter Try.func17, Try.ntmps17
  go_wp2
  go_returns
  exact ⟨rfl, by go_grown⟩

set_option maxRecDepth 100000 in
set_option maxHeartbeats 1000000 in
theorem sput_bad1 (b : Nat) (cl sq kd id mt : Int) (dt : ByteArray) (w : World) (HM : Hid (∀ u, Calls Try.prog 29 #[.agg #[.int .i64 cl, .int .i64 sq, .int .i64 kd, .int .i64 id, .int .i64 mt, .string dt]] u fun e w' => e = .returned (.bool false) ∧ Below u.heap.size u w')) :
    Calls Try.prog 14 #[.pointer (some ⟨b, 0, none⟩), .agg #[.int .i64 cl, .int .i64 sq, .int .i64 kd, .int .i64 id, .int .i64 mt, .string dt]] w (Refused 1 w) := by
  go_enter Try.func14, Try.ntmps14
  go_wp2_with fail
  refine (HM.out _).mono ?_
  rintro e w1 ⟨rfl, B1⟩
  have C1 : Hid (Below w.heap.size w w1) := (((Below.refl _ w).alloc (Nat.le_refl _) _).alloc (by simp) _).trans (B1.mono (by simp; omega))
  have R1 : RepAt w1 (w.heap.size + 1) 0 0 ⟨#[]⟩ (.slice none 0 0) := RepAt.keep (RepAt.new1 w _ 0 0 ⟨#[]⟩ (.slice none 0 0)) B1 (by simp)
  have HE := Lib.hid (rep_stored (c' := 0) (n' := 0) (d' := ⟨#[]⟩) R1 (.slice none 0 0)).cells.1
  have hlt := R1.lt
  obtain ⟨⟨d0, d1, d2, d3⟩, ⟨z0, z1, z2, z3⟩⟩ := R1.cells
  clear B1 R1
  go_wp2
  obtain ⟨e0, e1, e2, e3⟩ := HE.out
  unfold stored at e0 e1 e2 e3
  refine bodyPost_ret (v := .tuple #[.agg #[.int .i64 0, .int .i64 0, .string ⟨#[]⟩, .slice none 0 0], .int .i64 1]) (by simp [results, Try.results14, go_sem, e0, e1, e2, e3]) rfl ⟨rfl, ?_⟩
  exact stored_below C1.out (Nat.le_succ _) _ _ _ _

set_option maxRecDepth 100000 in
set_option maxHeartbeats 1000000 in
theorem sput_bad2 (b : Nat) (cl sq kd id mt : Int) (dt : ByteArray) (w : World) (HM : Hid (∀ u, Calls Try.prog 29 #[.agg #[.int .i64 cl, .int .i64 sq, .int .i64 kd, .int .i64 id, .int .i64 mt, .string dt]] u fun e w' => e = .returned (.bool true) ∧ Below u.heap.size u w'))
    (HW : Hid (∀ u, Calls Try.prog 30 #[.agg #[.int .i64 cl, .int .i64 sq, .int .i64 kd, .int .i64 id, .int .i64 mt, .string dt]] u fun e w' => e = .returned (.bool false) ∧ Below u.heap.size u w')) :
    Calls Try.prog 14 #[.pointer (some ⟨b, 0, none⟩), .agg #[.int .i64 cl, .int .i64 sq, .int .i64 kd, .int .i64 id, .int .i64 mt, .string dt]] w (Refused 1 w) := by
  go_enter Try.func14, Try.ntmps14
  go_wp2_with fail
  refine (HM.out _).mono ?_
  rintro e w1 ⟨rfl, B1⟩
  have C1 : Hid (Below w.heap.size w w1) := (((Below.refl _ w).alloc (Nat.le_refl _) _).alloc (by simp) _).trans (B1.mono (by simp; omega))
  have R1 : Hid (RepAt w1 (w.heap.size + 1) 0 0 ⟨#[]⟩ (.slice none 0 0)) := RepAt.keep (RepAt.new1 w _ 0 0 ⟨#[]⟩ (.slice none 0 0)) B1 (by simp)
  have D1 : Hid (ReqB w1 w.heap.size cl sq kd id mt dt) := ((ReqB.fresh w cl sq kd id mt dt 40).keep ((Below.refl (w.heap.size + 1) _).alloc (by simp) _) (by omega)).keep B1 (by simp; omega)
  clear B1
  obtain ⟨c0, c1, c2, c3, c4, c5⟩ := D1.out.cells
  go_wp2_with fail
  refine (HW.out _).mono ?_
  rintro e w2 ⟨rfl, B2⟩
  have C2 : Hid (Below w.heap.size w w2) := C1.out.trans (B2.mono C1.out.size)
  have R2 := R1.out.keep B2 R1.out.lt
  have HE := Lib.hid (rep_stored (c' := 0) (n' := 0) (d' := ⟨#[]⟩) R2 (.slice none 0 0)).cells.1
  have hlt := R2.lt
  obtain ⟨⟨d0, d1, d2, d3⟩, ⟨z0, z1, z2, z3⟩⟩ := R2.cells
  clear B2 R2 R1 D1 C1 c0 c1 c2 c3 c4 c5
  go_wp2
  obtain ⟨e0, e1, e2, e3⟩ := HE.out
  unfold stored at e0 e1 e2 e3
  refine bodyPost_ret (v := .tuple #[.agg #[.int .i64 0, .int .i64 0, .string ⟨#[]⟩, .slice none 0 0], .int .i64 1]) (by simp [results, Try.results14, go_sem, e0, e1, e2, e3]) rfl ⟨rfl, ?_⟩
  exact stored_below C2.out (Nat.le_succ _) _ _ _ _

set_option maxRecDepth 100000 in
set_option maxHeartbeats 1000000 in
theorem sask_bad1 (b : Nat) (cl sq kd id mt : Int) (dt : ByteArray) (w : World) (HM : Hid (∀ u, Calls Try.prog 29 #[.agg #[.int .i64 cl, .int .i64 sq, .int .i64 kd, .int .i64 id, .int .i64 mt, .string dt]] u fun e w' => e = .returned (.bool false) ∧ Below u.heap.size u w')) :
    Calls Try.prog 17 #[.pointer (some ⟨b, 0, none⟩), .agg #[.int .i64 cl, .int .i64 sq, .int .i64 kd, .int .i64 id, .int .i64 mt, .string dt]] w (Refused 1 w) := by
  go_enter Try.func17, Try.ntmps17
  go_wp2_with fail
  refine (HM.out _).mono ?_
  rintro e w1 ⟨rfl, B1⟩
  have C1 : Hid (Below w.heap.size w w1) := (((Below.refl _ w).alloc (Nat.le_refl _) _).alloc (by simp) _).trans (B1.mono (by simp; omega))
  have R1 : RepAt w1 (w.heap.size + 1) 0 0 ⟨#[]⟩ (.slice none 0 0) := RepAt.keep (RepAt.new1 w _ 0 0 ⟨#[]⟩ (.slice none 0 0)) B1 (by simp)
  have HE := Lib.hid (rep_stored (c' := 0) (n' := 0) (d' := ⟨#[]⟩) R1 (.slice none 0 0)).cells.1
  have hlt := R1.lt
  obtain ⟨⟨d0, d1, d2, d3⟩, ⟨z0, z1, z2, z3⟩⟩ := R1.cells
  clear B1 R1
  go_wp2
  obtain ⟨e0, e1, e2, e3⟩ := HE.out
  unfold stored at e0 e1 e2 e3
  refine bodyPost_ret (v := .tuple #[.agg #[.int .i64 0, .int .i64 0, .string ⟨#[]⟩, .slice none 0 0], .int .i64 1]) (by simp [results, Try.results17, go_sem, e0, e1, e2, e3]) rfl ⟨rfl, ?_⟩
  exact stored_below C1.out (Nat.le_succ _) _ _ _ _

set_option maxRecDepth 100000 in
set_option maxHeartbeats 1000000 in
theorem sask_bad2 (b : Nat) (cl sq kd id mt : Int) (dt : ByteArray) (w : World) (HM : Hid (∀ u, Calls Try.prog 29 #[.agg #[.int .i64 cl, .int .i64 sq, .int .i64 kd, .int .i64 id, .int .i64 mt, .string dt]] u fun e w' => e = .returned (.bool true) ∧ Below u.heap.size u w'))
    (HW : Hid (∀ u, Calls Try.prog 30 #[.agg #[.int .i64 cl, .int .i64 sq, .int .i64 kd, .int .i64 id, .int .i64 mt, .string dt]] u fun e w' => e = .returned (.bool true) ∧ Below u.heap.size u w')) :
    Calls Try.prog 17 #[.pointer (some ⟨b, 0, none⟩), .agg #[.int .i64 cl, .int .i64 sq, .int .i64 kd, .int .i64 id, .int .i64 mt, .string dt]] w (Refused 1 w) := by
  go_enter Try.func17, Try.ntmps17
  go_wp2_with fail
  refine (HM.out _).mono ?_
  rintro e w1 ⟨rfl, B1⟩
  have C1 : Hid (Below w.heap.size w w1) := (((Below.refl _ w).alloc (Nat.le_refl _) _).alloc (by simp) _).trans (B1.mono (by simp; omega))
  have R1 : Hid (RepAt w1 (w.heap.size + 1) 0 0 ⟨#[]⟩ (.slice none 0 0)) := RepAt.keep (RepAt.new1 w _ 0 0 ⟨#[]⟩ (.slice none 0 0)) B1 (by simp)
  have D1 : Hid (ReqB w1 w.heap.size cl sq kd id mt dt) := ((ReqB.fresh w cl sq kd id mt dt 40).keep ((Below.refl (w.heap.size + 1) _).alloc (by simp) _) (by omega)).keep B1 (by simp; omega)
  clear B1
  obtain ⟨c0, c1, c2, c3, c4, c5⟩ := D1.out.cells
  go_wp2_with fail
  refine (HW.out _).mono ?_
  rintro e w2 ⟨rfl, B2⟩
  have C2 : Hid (Below w.heap.size w w2) := C1.out.trans (B2.mono C1.out.size)
  have R2 := R1.out.keep B2 R1.out.lt
  have HE := Lib.hid (rep_stored (c' := 0) (n' := 0) (d' := ⟨#[]⟩) R2 (.slice none 0 0)).cells.1
  have hlt := R2.lt
  obtain ⟨⟨d0, d1, d2, d3⟩, ⟨z0, z1, z2, z3⟩⟩ := R2.cells
  clear B2 R2 R1 D1 C1 c0 c1 c2 c3 c4 c5
  go_wp2
  obtain ⟨e0, e1, e2, e3⟩ := HE.out
  unfold stored at e0 e1 e2 e3
  refine bodyPost_ret (v := .tuple #[.agg #[.int .i64 0, .int .i64 0, .string ⟨#[]⟩, .slice none 0 0], .int .i64 1]) (by simp [results, Try.results17, go_sem, e0, e1, e2, e3]) rfl ⟨rfl, ?_⟩
  exact stored_below C2.out (Nat.le_succ _) _ _ _ _
end Go.Proofs.Yticokpaegadbbaa
