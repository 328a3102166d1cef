/-
  THE PROGRAM's ITEMS: requests, put and got. Merged by gen/cat.sh.
-/
import Derived.Test.YtpcbpimlakehcaaPackQ
/-! ## ItemV -/
/-
  A REQUEST AS PLAIN DATA, and which may be. No condition.
-/
namespace Go.Proofs.Ytpcbpimlakehcaa
open Go.RowKit

structure ReqV where
  client : Int
  seq : Int
  kind : Int
  id : Int
  mtch : Int
  data : ByteArray

def ReqV.val (q : ReqV) : Value := .agg #[.int .i64 q.client, .int .i64 q.seq, .int .i64 q.kind, .int .i64 q.id, .int .i64 q.mtch, .string q.data]

/-- The request may be. -/
def ReqV.may (q : ReqV) : Prop :=
  0 ≤ q.client ∧ q.client < 4 ∧ 1 ≤ q.seq ∧ q.seq ≤ 1073741824 ∧ 1 ≤ q.kind ∧ q.kind ≤ 6 ∧ 0 ≤ q.id ∧ q.id ≤ 31 ∧ q.data.size ≤ 64 ∧ 0 ≤ q.mtch ∧ q.mtch ≤ 100 ∧
  (q.data.size = 0 ∨ q.kind = 1 ∨ q.kind = 2) ∧ (q.kind = 2 ∨ q.kind = 3 ∨ (q.kind = 5 ∧ 1 ≤ q.mtch) ∨ (q.kind ≠ 5 ∧ q.mtch = 0))
instance (q : ReqV) : Decidable q.may := by unfold ReqV.may; infer_instance

theorem empty_test (s : ByteArray) (h : s.size = 0) : s.toList.isEmpty = true := by
  rw [ByteArray.toList_eq]
  have : s.data.toList.length = 0 := by rw [Array.length_toList]; exact h
  rw [List.eq_nil_of_length_eq_zero this]; rfl
theorem full_test (s : ByteArray) (h : s.size ≠ 0) : s.toList.isEmpty = false := by
  rw [ByteArray.toList_eq]
  have : s.data.toList.length ≠ 0 := by rw [Array.length_toList]; exact h
  cases hs : s.data.toList with
  | nil => rw [hs] at this; exact absurd rfl this
  | cons => rfl

theorem empty_eq (s : ByteArray) (h : s.size = 0) : s = ByteArray.mk #[] := by
  apply ByteArray.ext
  apply Array.eq_empty_of_size_eq_zero
  exact h

/-- Block b holds a request. -/
def ReqB (w : World) (b : Nat) (cl sq kd id mt : Int) (dt : ByteArray) : Prop :=
  ∃ e, w.heap[b]? = some (.cells #[.int .i64 cl, .int .i64 sq, .int .i64 kd, .int .i64 id, .int .i64 mt, .string dt] e (0, 0))

theorem ReqB.cells {w : World} {b : Nat} {cl sq kd id mt : Int} {dt : ByteArray} (h : ReqB w b cl sq kd id mt dt) :
    w.cell? ⟨b, 0, none⟩ = some (.int .i64 cl) ∧ w.cell? ⟨b, 1, none⟩ = some (.int .i64 sq) ∧ w.cell? ⟨b, 2, none⟩ = some (.int .i64 kd) ∧ w.cell? ⟨b, 3, none⟩ = some (.int .i64 id) ∧ w.cell? ⟨b, 4, none⟩ = some (.int .i64 mt) ∧ w.cell? ⟨b, 5, none⟩ = some (.string dt) := by
  obtain ⟨e, h⟩ := h
  refine ⟨?_, ?_, ?_, ?_, ?_, ?_⟩ <;> simp [World.cell?, h]
theorem ReqB.free {w : World} {b : Nat} {cl sq kd id mt : Int} {dt : ByteArray} (h : ReqB w b cl sq kd id mt dt) (o : Nat) : w.frozen? ⟨b, o, none⟩ = false := by
  obtain ⟨e, h⟩ := h
  simp [World.frozen?, h]
theorem ReqB.lt {w : World} {b : Nat} {cl sq kd id mt : Int} {dt : ByteArray} (h : ReqB w b cl sq kd id mt dt) : b < w.heap.size := by
  obtain ⟨_, h⟩ := h
  exact lt_of_block h
theorem ReqB.keep {w w' : World} {b B : Nat} {cl sq kd id mt : Int} {dt : ByteArray} (h : ReqB w b cl sq kd id mt dt) (hb : Below B w w') (hB : b < B) : ReqB w' b cl sq kd id mt dt := by
  obtain ⟨e, h⟩ := h
  exact ⟨e, (hb.block b hB).trans h⟩
theorem ReqB.fresh (w : World) (cl sq kd id mt : Int) (dt : ByteArray) (e : TypeId) : ReqB (w.alloc (.cells #[.int .i64 cl, .int .i64 sq, .int .i64 kd, .int .i64 id, .int .i64 mt, .string dt] e)) w.heap.size cl sq kd id mt dt :=
  ⟨e, heap_alloc_new w _⟩
end Go.Proofs.Ytpcbpimlakehcaa

/-! ## ItemA -/
/-
  THE PROGRAM's SMALL TESTS: isWithin, mayData, mayMatch, Writes, and the law's few. No condition but that the request can be read.
-/
namespace Go.Proofs.Ytpcbpimlakehcaa
open Go.RowKit

set_option maxHeartbeats 400000 in
theorem within_yes (n l m : Int) (w : World) (h1 : l ≤ n) (h2 : n ≤ m) :
    Calls Try.prog 75 #[.int .i64 n, .int .i64 l, .int .i64 m] w fun e w' => e = .returned (.bool true) ∧ w = w' := by
  go_enter Try.func75, Try.ntmps75
  go_wp2
  go_returns
  exact ⟨by first | exact ret_bool (decide_eq_true h2) | rfl, rfl⟩

set_option maxHeartbeats 400000 in
theorem within_no (n l m : Int) (w : World) (h : n < l ∨ m < n) :
    Calls Try.prog 75 #[.int .i64 n, .int .i64 l, .int .i64 m] w fun e w' => e = .returned (.bool false) ∧ w = w' := by
  by_cases h1 : n < l
  · clear h
    go_enter Try.func75, Try.ntmps75
    go_wp2
    go_returns
    exact ⟨rfl, rfl⟩
  · have h2 : m < n := by omega
    have h3 : l ≤ n := by omega
    have h4 : ¬ n ≤ m := by omega
    have H4 := Lib.hid h4
    clear h h1 h4
    go_enter Try.func75, Try.ntmps75
    go_wp2
    go_returns
    exact ⟨ret_bool (decide_eq_false (by have := H4.out; omega)), rfl⟩

theorem within_any (n l m : Int) (w : World) :
    Calls Try.prog 75 #[.int .i64 n, .int .i64 l, .int .i64 m] w fun e w' => e = .returned (.bool (decide (l ≤ n ∧ n ≤ m))) ∧ w = w' := by
  by_cases h : l ≤ n ∧ n ≤ m
  · rw [decide_eq_true h]
    exact within_yes n l m w h.1 h.2
  · rw [decide_eq_false h]
    exact within_no n l m w (by omega)

set_option maxHeartbeats 1000000 in
theorem maydata_r (cl sq kd id mt : Int) (dt : ByteArray) (hd : dt.size ≤ 9223372036854775807) (R : Bool) (HR : Hid (R = decide (if kd = 1 ∨ kd = 2 then dt.size ≤ 64 else dt.size = 0))) (w : World) :
    Calls Try.prog 76 #[.agg #[.int .i64 cl, .int .i64 sq, .int .i64 kd, .int .i64 id, .int .i64 mt, .string dt]] w fun e w' => e = .returned (.bool R) ∧ Below w.heap.size w w' := by
  by_cases h1 : kd = 1
  · subst h1
    go_enter Try.func76, Try.ntmps76
    go_wp2
    go_returns
    exact ⟨ret_bool (by rw [HR.out, Bool.eq_iff_iff]; simp; try omega), by first | exact (Below.refl _ _).alloc (Nat.le_refl _) _ | go_grown⟩
  by_cases h2 : kd = 2
  · subst h2
    go_enter Try.func76, Try.ntmps76
    go_wp2
    go_returns
    exact ⟨ret_bool (by rw [HR.out, Bool.eq_iff_iff]; simp; try omega), by first | exact (Below.refl _ _).alloc (Nat.le_refl _) _ | go_grown⟩
  have b1 : (kd == 1) = false := beq_eq_false_iff_ne.2 h1
  have b2 : (kd == 2) = false := beq_eq_false_iff_ne.2 h2
  have hno : ¬ (kd = 1 ∨ kd = 2) := by omega
  have HN := Lib.hid hno
  clear h1 h2 hno
  by_cases h0 : dt.size = 0
  · obtain rfl := empty_eq dt h0
    clear h0
    go_enter Try.func76, Try.ntmps76
    go_wp2
    go_returns
    exact ⟨ret_bool (by rw [HR.out]; exact (decide_eq_true (by rw [if_neg HN.out]; rfl)).symm), by first | exact (Below.refl _ _).alloc (Nat.le_refl _) _ | go_grown⟩
  · have hf := full_test dt h0
    have H0 := Lib.hid h0
    clear h0
    go_enter Try.func76, Try.ntmps76
    go_wp2
    go_returns
    exact ⟨ret_bool (by rw [HR.out]; exact (decide_eq_false (by rw [if_neg HN.out]; exact H0.out)).symm), by first | exact (Below.refl _ _).alloc (Nat.le_refl _) _ | go_grown⟩

set_option maxHeartbeats 1000000 in
theorem maymatch_r (cl sq kd id mt : Int) (dt : ByteArray) (R : Bool) (HR : Hid (R = decide (if kd = 2 ∨ kd = 3 then 0 ≤ mt ∧ mt ≤ 100 else if kd = 5 then 1 ≤ mt ∧ mt ≤ 100 else mt = 0))) (w : World) :
    Calls Try.prog 77 #[.agg #[.int .i64 cl, .int .i64 sq, .int .i64 kd, .int .i64 id, .int .i64 mt, .string dt]] w fun e w' => e = .returned (.bool R) ∧ Below w.heap.size w w' := by
  by_cases h2 : kd = 2
  · subst h2
    have H := Lib.hid (fun w => within_any mt 0 100 w)
    go_enter Try.func77, Try.ntmps77
    go_wp2_with fail
    refine (H.out _).mono ?_
    rintro e w1 ⟨rfl, rfl⟩
    go_wp2
    go_returns
    exact ⟨ret_bool (by rw [HR.out, Bool.eq_iff_iff]; simp; try omega), by first | exact (Below.refl _ _).alloc (Nat.le_refl _) _ | go_grown⟩
  by_cases h3 : kd = 3
  · subst h3
    have H := Lib.hid (fun w => within_any mt 0 100 w)
    go_enter Try.func77, Try.ntmps77
    go_wp2_with fail
    refine (H.out _).mono ?_
    rintro e w1 ⟨rfl, rfl⟩
    go_wp2
    go_returns
    exact ⟨ret_bool (by rw [HR.out, Bool.eq_iff_iff]; simp; try omega), by first | exact (Below.refl _ _).alloc (Nat.le_refl _) _ | go_grown⟩
  by_cases h5 : kd = 5
  · subst h5
    have H := Lib.hid (fun w => within_any mt 1 100 w)
    go_enter Try.func77, Try.ntmps77
    go_wp2_with fail
    refine (H.out _).mono ?_
    rintro e w1 ⟨rfl, rfl⟩
    go_wp2
    go_returns
    exact ⟨ret_bool (by rw [HR.out, Bool.eq_iff_iff]; simp; try omega), by first | exact (Below.refl _ _).alloc (Nat.le_refl _) _ | go_grown⟩
  have b2 : (kd == 2) = false := beq_eq_false_iff_ne.2 h2
  have b3 : (kd == 3) = false := beq_eq_false_iff_ne.2 h3
  have b5 : (kd == 5) = false := beq_eq_false_iff_ne.2 h5
  have hno : ¬ (kd = 2 ∨ kd = 3) := by omega
  have HN := Lib.hid hno
  have H5 := Lib.hid h5
  clear h2 h3 h5 hno
  go_enter Try.func77, Try.ntmps77
  go_wp2
  go_returns
  exact ⟨ret_bool (by rw [HR.out, Bool.eq_iff_iff, decide_eq_true_iff, if_neg HN.out, if_neg H5.out]; simp), by first | exact (Below.refl _ _).alloc (Nat.le_refl _) _ | go_grown⟩

set_option maxHeartbeats 400000 in
theorem writes_any (cl sq kd id mt : Int) (dt : ByteArray) (w : World) :
    Calls Try.prog 79 #[.agg #[.int .i64 cl, .int .i64 sq, .int .i64 kd, .int .i64 id, .int .i64 mt, .string dt]] w fun e w' => e = .returned (.bool (decide (1 ≤ kd ∧ kd ≤ 3))) ∧ Below w.heap.size w w' := by
  have H := Lib.hid (fun w => within_any kd 1 3 w)
  go_enter Try.func79, Try.ntmps79
  go_wp2_with fail
  refine (H.out _).mono ?_
  rintro e w1 ⟨rfl, rfl⟩
  go_wp2
  go_returns
  exact ⟨ret_bool (by rw [Bool.eq_iff_iff]; simp), by first | exact (Below.refl _ _).alloc (Nat.le_refl _) _ | go_grown⟩

end Go.Proofs.Ytpcbpimlakehcaa

/-! ## ItemMayP -/
/-
  THE PROGRAM's MayReq, as a plain function of a request. No condition but that the request can be read.
-/
namespace Go.Proofs.Ytpcbpimlakehcaa
open Go.RowKit

set_option maxHeartbeats 4000000 in
set_option maxRecDepth 100000 in
theorem mayreq_r (cl sq kd id mt : Int) (dt : ByteArray) (hd : dt.size ≤ 9223372036854775807) (R : Bool) (HR : Hid (R = decide (ReqV.may ⟨cl, sq, kd, id, mt, dt⟩))) (w : World) :
    Calls Try.prog 53 #[.agg #[.int .i64 cl, .int .i64 sq, .int .i64 kd, .int .i64 id, .int .i64 mt, .string dt]] w fun e w' => e = .returned (.bool R) ∧ Below w.heap.size w w' := by
  unfold ReqV.may at HR
  simp only at HR
  by_cases h0 : 0 ≤ cl ∧ cl ≤ 3
  case neg =>
    have hr : R = false := by rw [HR.out]; exact decide_eq_false (by intro hh; apply h0; first | omega | (split <;> omega) | (split; (omega); split <;> omega))
    subst hr
    clear HR
    have W0 := Lib.hid (fun w => within_no cl 0 3 w (by omega))
    clear h0
    go_enter Try.func53, Try.ntmps53
    go_wp2_with fail
    refine (W0.out _).mono ?_
    rintro e w1 ⟨rfl, rfl⟩
    go_wp2
    go_returns
    exact ⟨rfl, by first | exact (Below.refl _ _).alloc (Nat.le_refl _) _ | go_grown⟩
  have W0 := Lib.hid (fun w => within_yes cl 0 3 w h0.1 h0.2)
  by_cases h1 : 1 ≤ sq ∧ sq ≤ 1073741824
  case neg =>
    have hr : R = false := by rw [HR.out]; exact decide_eq_false (by intro hh; apply h1; first | omega | (split <;> omega) | (split; (omega); split <;> omega))
    subst hr
    clear HR
    have W1 := Lib.hid (fun w => within_no sq 1 1073741824 w (by omega))
    clear h0 h1
    go_enter Try.func53, Try.ntmps53
    go_wp2_with fail
    refine (W0.out _).mono ?_
    rintro e w1 ⟨rfl, rfl⟩
    go_wp2_with fail
    refine (W1.out _).mono ?_
    rintro e w1 ⟨rfl, rfl⟩
    go_wp2
    go_returns
    exact ⟨rfl, by first | exact (Below.refl _ _).alloc (Nat.le_refl _) _ | go_grown⟩
  have W1 := Lib.hid (fun w => within_yes sq 1 1073741824 w h1.1 h1.2)
  by_cases h2 : 1 ≤ kd ∧ kd ≤ 6
  case neg =>
    have hr : R = false := by rw [HR.out]; exact decide_eq_false (by intro hh; apply h2; first | omega | (split <;> omega) | (split; (omega); split <;> omega))
    subst hr
    clear HR
    have W2 := Lib.hid (fun w => within_no kd 1 6 w (by omega))
    clear h0 h1 h2
    go_enter Try.func53, Try.ntmps53
    go_wp2_with fail
    refine (W0.out _).mono ?_
    rintro e w1 ⟨rfl, rfl⟩
    go_wp2_with fail
    refine (W1.out _).mono ?_
    rintro e w1 ⟨rfl, rfl⟩
    go_wp2_with fail
    refine (W2.out _).mono ?_
    rintro e w1 ⟨rfl, rfl⟩
    go_wp2
    go_returns
    exact ⟨rfl, by first | exact (Below.refl _ _).alloc (Nat.le_refl _) _ | go_grown⟩
  have W2 := Lib.hid (fun w => within_yes kd 1 6 w h2.1 h2.2)
  by_cases h3 : 0 ≤ id ∧ id ≤ 31
  case neg =>
    have hr : R = false := by rw [HR.out]; exact decide_eq_false (by intro hh; apply h3; first | omega | (split <;> omega) | (split; (omega); split <;> omega))
    subst hr
    clear HR
    have W3 := Lib.hid (fun w => within_no id 0 31 w (by omega))
    clear h0 h1 h2 h3
    go_enter Try.func53, Try.ntmps53
    go_wp2_with fail
    refine (W0.out _).mono ?_
    rintro e w1 ⟨rfl, rfl⟩
    go_wp2_with fail
    refine (W1.out _).mono ?_
    rintro e w1 ⟨rfl, rfl⟩
    go_wp2_with fail
    refine (W2.out _).mono ?_
    rintro e w1 ⟨rfl, rfl⟩
    go_wp2_with fail
    refine (W3.out _).mono ?_
    rintro e w1 ⟨rfl, rfl⟩
    go_wp2
    go_returns
    exact ⟨rfl, by first | exact (Below.refl _ _).alloc (Nat.le_refl _) _ | go_grown⟩
  have W3 := Lib.hid (fun w => within_yes id 0 31 w h3.1 h3.2)
  by_cases h4 : (if kd = 1 ∨ kd = 2 then dt.size ≤ 64 else dt.size = 0)
  case neg =>
    have hr : R = false := by rw [HR.out]; exact decide_eq_false (by intro hh; apply h4; first | omega | (split <;> omega) | (split; (omega); split <;> omega))
    subst hr
    clear HR
    have W4 := Lib.hid (maydata_r cl sq kd id mt dt hd false (show _ = _ from (decide_eq_false h4).symm))
    clear h0 h1 h2 h3 h4
    go_enter Try.func53, Try.ntmps53
    go_wp2_with fail
    refine (W0.out _).mono ?_
    rintro e w1 ⟨rfl, rfl⟩
    go_wp2_with fail
    refine (W1.out _).mono ?_
    rintro e w1 ⟨rfl, rfl⟩
    go_wp2_with fail
    refine (W2.out _).mono ?_
    rintro e w1 ⟨rfl, rfl⟩
    go_wp2_with fail
    refine (W3.out _).mono ?_
    rintro e w1 ⟨rfl, rfl⟩
    go_wp2_with fail
    refine (W4.out _).mono ?_
    rintro e v4 ⟨rfl, B4⟩
    have C4 := Lib.hid B4
    have D4 : ReqB v4 w.heap.size cl sq kd id mt dt := (ReqB.fresh w cl sq kd id mt dt 33).keep B4 (by simp)
    obtain ⟨c0, c1, c2, c3, c4, c5⟩ := D4.cells
    clear D4
    go_wp2
    go_returns
    exact ⟨rfl, ((Below.refl _ w).alloc (Nat.le_refl _) _).trans (C4.out.mono (by simp))⟩
  have W4 := Lib.hid (maydata_r cl sq kd id mt dt hd true (show _ = _ from (decide_eq_true h4).symm))
  by_cases h5 : (if kd = 2 ∨ kd = 3 then 0 ≤ mt ∧ mt ≤ 100 else if kd = 5 then 1 ≤ mt ∧ mt ≤ 100 else mt = 0)
  case neg =>
    have hr : R = false := by rw [HR.out]; exact decide_eq_false (by intro hh; apply h5; first | omega | (split <;> omega) | (split; (omega); split <;> omega))
    subst hr
    clear HR
    have W5 := Lib.hid (maymatch_r cl sq kd id mt dt false (show _ = _ from (decide_eq_false h5).symm))
    clear h0 h1 h2 h3 h4 h5
    go_enter Try.func53, Try.ntmps53
    go_wp2_with fail
    refine (W0.out _).mono ?_
    rintro e w1 ⟨rfl, rfl⟩
    go_wp2_with fail
    refine (W1.out _).mono ?_
    rintro e w1 ⟨rfl, rfl⟩
    go_wp2_with fail
    refine (W2.out _).mono ?_
    rintro e w1 ⟨rfl, rfl⟩
    go_wp2_with fail
    refine (W3.out _).mono ?_
    rintro e w1 ⟨rfl, rfl⟩
    go_wp2_with fail
    refine (W4.out _).mono ?_
    rintro e v4 ⟨rfl, B4⟩
    have C4 := Lib.hid B4
    have D4 : ReqB v4 w.heap.size cl sq kd id mt dt := (ReqB.fresh w cl sq kd id mt dt 33).keep B4 (by simp)
    obtain ⟨c0, c1, c2, c3, c4, c5⟩ := D4.cells
    clear D4
    go_wp2_with fail
    refine (W5.out _).mono ?_
    rintro e v5 ⟨rfl, B5⟩
    have C5 := Lib.hid B5
    go_wp2
    go_returns
    exact ⟨rfl, (((Below.refl _ w).alloc (Nat.le_refl _) _).trans (C4.out.mono (by simp))).trans (C5.out.mono (by have := C4.out.size; simp at this; omega))⟩
  have W5 := Lib.hid (maymatch_r cl sq kd id mt dt true (show _ = _ from (decide_eq_true h5).symm))
  have hr : R = true := by
    rw [HR.out]
    refine decide_eq_true ?_
    have a4 : dt.size ≤ 64 ∧ (dt.size = 0 ∨ kd = 1 ∨ kd = 2) := by split at h4 <;> omega
    have a5 : 0 ≤ mt ∧ mt ≤ 100 ∧ (kd = 2 ∨ kd = 3 ∨ (kd = 5 ∧ 1 ≤ mt) ∨ (kd ≠ 5 ∧ mt = 0)) := by
      split at h5
      · omega
      · split at h5 <;> omega
    omega
  subst hr
  clear HR h0 h1 h2 h3 h4 h5
  go_enter Try.func53, Try.ntmps53
  go_wp2_with fail
  refine (W0.out _).mono ?_
  rintro e w1 ⟨rfl, rfl⟩
  go_wp2_with fail
  refine (W1.out _).mono ?_
  rintro e w1 ⟨rfl, rfl⟩
  go_wp2_with fail
  refine (W2.out _).mono ?_
  rintro e w1 ⟨rfl, rfl⟩
  go_wp2_with fail
  refine (W3.out _).mono ?_
  rintro e w1 ⟨rfl, rfl⟩
  go_wp2_with fail
  refine (W4.out _).mono ?_
  rintro e v4 ⟨rfl, B4⟩
  have C4 := Lib.hid B4
  have D4 : ReqB v4 w.heap.size cl sq kd id mt dt := (ReqB.fresh w cl sq kd id mt dt 33).keep B4 (by simp)
  obtain ⟨c0, c1, c2, c3, c4, c5⟩ := D4.cells
  clear D4
  go_wp2_with fail
  refine (W5.out _).mono ?_
  rintro e v5 ⟨rfl, B5⟩
  have C5 := Lib.hid B5
  go_wp2
  go_returns
  exact ⟨rfl, (((Below.refl _ w).alloc (Nat.le_refl _) _).trans (C4.out.mono (by simp))).trans (C5.out.mono (by have := C4.out.size; simp at this; omega))⟩
end Go.Proofs.Ytpcbpimlakehcaa

/-! ## ItemMath -/
/-
  A REQUEST'S BYTES, A CHAIN'S BYTES, and what a reader finds in any bytes: pure facts.
-/
namespace Go.Proofs.Ytpcbpimlakehcaa
open Go.RowKit

theorem rNum_put (M n : Nat) (hn : n < 18446744073709551616) (hM : n ≤ M) (r : List UInt8) : rNum M (some (Lib.uvarint n ++ r)) = (n, some r) := by
  simp only [rNum, numAt_uvarint n hn r, if_pos hM]
  rw [List.drop_append_of_le_length (Nat.le_refl _), List.drop_length, List.nil_append]

theorem rNum_none (M : Nat) : rNum M none = (0, none) := rfl

theorem rNum_got {M v : Nat} {st : Option (List UInt8)} {r : List UInt8} (h : rNum M st = (v, some r)) : st = some (Lib.uvarint v ++ r) ∧ v < 18446744073709551616 := by
  cases st with
  | none => simp [rNum] at h
  | some l =>
    simp only [rNum] at h
    split at h
    · simp at h
    · rename_i x hn
      obtain ⟨v', n⟩ := x
      split at h
      · simp only [Prod.mk.injEq, Option.some.injEq] at h
        obtain ⟨rfl, rfl⟩ := h
        simp only at *
        obtain ⟨h1, h2, _, _⟩ := numAt_zero l v' n hn
        exact ⟨by rw [← h1, List.take_append_drop], h2⟩
      · simp at h

theorem rText_put (M : Nat) (s r : List UInt8) (hs : s.length ≤ M) (hM : M < 18446744073709551616) : rText M (some (Lib.uvarint s.length ++ (s ++ r))) = (s, some r) := by
  simp only [rText, rNum_put M s.length (by omega) hs]
  simp only [rTextOf]
  rw [if_pos (by rw [List.length_append]; omega)]
  simp

theorem rText_none (M : Nat) : rText M none = ([], none) := rfl

theorem rText_got {M : Nat} {st : Option (List UInt8)} {s r : List UInt8} (h : rText M st = (s, some r)) : st = some (Lib.uvarint s.length ++ (s ++ r)) := by
  simp only [rText] at h
  obtain ⟨v, st1, hv⟩ : ∃ v st1, rNum M st = (v, st1) := ⟨_, _, rfl⟩
  rw [hv] at h
  cases st1 with
  | none => simp [rTextOf] at h
  | some l =>
    simp only [rTextOf] at h
    split at h
    · rename_i hl
      simp only [Prod.mk.injEq, Option.some.injEq] at h
      obtain ⟨rfl, rfl⟩ := h
      have h1 := (rNum_got hv).1
      rw [h1]
      congr 2
      · congr 1
        rw [List.length_take]; omega
      · rw [List.take_append_drop]
    · simp at h

/-! ### requests -/

/-- The bytes of a request. -/
def reqBytes (cl sq kd id mt : Nat) (s : List UInt8) : List UInt8 :=
  Lib.uvarint cl ++ (Lib.uvarint sq ++ (Lib.uvarint kd ++ (Lib.uvarint id ++ (Lib.uvarint mt ++ (Lib.uvarint s.length ++ s)))))

/-- What a reader finds: the six parts, and what is left. -/
structure Got where
  cl : Nat
  sq : Nat
  kd : Nat
  id : Nat
  mt : Nat
  s : List UInt8

/-- The bounds under which the parts are read. -/
structure Bounds where
  cl : Nat
  sq : Nat
  kd : Nat
  id : Nat
  mt : Nat
  s : Nat

/-- The states of the reader behind each part. -/
def st1 (B : Bounds) (l : List UInt8) := rNum B.cl (some l)
def st2 (B : Bounds) (l : List UInt8) := rNum B.sq (st1 B l).2
def st3 (B : Bounds) (l : List UInt8) := rNum B.kd (st2 B l).2
def st4 (B : Bounds) (l : List UInt8) := rNum B.id (st3 B l).2
def st5 (B : Bounds) (l : List UInt8) := rNum B.mt (st4 B l).2
def st6 (B : Bounds) (l : List UInt8) := rText B.s (st5 B l).2

def got (B : Bounds) (l : List UInt8) : Got := ⟨(st1 B l).1, (st2 B l).1, (st3 B l).1, (st4 B l).1, (st5 B l).1, (st6 B l).1⟩

def Got.req (g : Got) : ReqV := ⟨g.cl, g.sq, g.kd, g.id, g.mt, ⟨g.s.toArray⟩⟩
def Got.bytes (g : Got) : List UInt8 := reqBytes g.cl g.sq g.kd g.id g.mt g.s

def Bounds.wide (B : Bounds) : Prop := 3 ≤ B.cl ∧ 1073741824 ≤ B.sq ∧ 6 ≤ B.kd ∧ 31 ≤ B.id ∧ 100 ≤ B.mt ∧ 64 ≤ B.s ∧ B.s < 18446744073709551616

/-- The bytes are a request. -/
def good (B : Bounds) (l : List UInt8) : Prop := (st6 B l).2 = some [] ∧ (got B l).req.may
instance (B : Bounds) (l : List UInt8) : Decidable (good B l) := by unfold good; infer_instance

theorem got_bytes {B : Bounds} {l r : List UInt8} (h : (st6 B l).2 = some r) : l = (got B l).bytes ++ r := by
  have h6 : st6 B l = ((st6 B l).1, some r) := by rw [← h]
  have e6 := rText_got h6
  have split1 : ∀ {α : Type} {x : α × Option (List UInt8)} {t : List UInt8}, x.2 = some t → x = (x.1, some t) := by intro α x t h; rw [← h]
  have h5 := split1 e6
  have e5 := (rNum_got h5).1
  have h4 := split1 e5
  have e4 := (rNum_got h4).1
  have h3 := split1 e4
  have e3 := (rNum_got h3).1
  have h2 := split1 e3
  have e2 := (rNum_got h2).1
  have h1 := split1 e2
  have e1 := Option.some.inj (rNum_got h1).1
  conv => lhs; rw [e1]
  simp only [Got.bytes, got, reqBytes, List.append_assoc]

theorem got_put {B : Bounds} (hB : B.wide) (g : Got) (hm : g.req.may) (r : List UInt8) : (st6 B (g.bytes ++ r)).2 = some r ∧ got B (g.bytes ++ r) = g := by
  obtain ⟨b1, b2, b3, b4, b5, b6, b7⟩ := hB
  obtain ⟨cl, sq, kd, id, mt, s⟩ := g
  simp only [Got.req, ReqV.may] at hm
  have hs : (ByteArray.mk s.toArray).size = s.length := List.size_toArray
  rw [hs] at hm
  have e1 : st1 B (Got.bytes ⟨cl, sq, kd, id, mt, s⟩ ++ r) = (cl, some (Lib.uvarint sq ++ (Lib.uvarint kd ++ (Lib.uvarint id ++ (Lib.uvarint mt ++ (Lib.uvarint s.length ++ (s ++ r))))))) := by
    simp only [st1, Got.bytes, reqBytes, List.append_assoc]
    exact rNum_put _ _ (by omega) (by omega) _
  have e2 : st2 B (Got.bytes ⟨cl, sq, kd, id, mt, s⟩ ++ r) = (sq, some (Lib.uvarint kd ++ (Lib.uvarint id ++ (Lib.uvarint mt ++ (Lib.uvarint s.length ++ (s ++ r)))))) := by
    simp only [st2, e1]
    exact rNum_put _ _ (by omega) (by omega) _
  have e3 : st3 B (Got.bytes ⟨cl, sq, kd, id, mt, s⟩ ++ r) = (kd, some (Lib.uvarint id ++ (Lib.uvarint mt ++ (Lib.uvarint s.length ++ (s ++ r))))) := by
    simp only [st3, e2]
    exact rNum_put _ _ (by omega) (by omega) _
  have e4 : st4 B (Got.bytes ⟨cl, sq, kd, id, mt, s⟩ ++ r) = (id, some (Lib.uvarint mt ++ (Lib.uvarint s.length ++ (s ++ r)))) := by
    simp only [st4, e3]
    exact rNum_put _ _ (by omega) (by omega) _
  have e5 : st5 B (Got.bytes ⟨cl, sq, kd, id, mt, s⟩ ++ r) = (mt, some (Lib.uvarint s.length ++ (s ++ r))) := by
    simp only [st5, e4]
    exact rNum_put _ _ (by omega) (by omega) _
  have e6 : st6 B (Got.bytes ⟨cl, sq, kd, id, mt, s⟩ ++ r) = (s, some r) := by
    simp only [st6, e5]
    exact rText_put _ _ _ (by omega) (by omega)
  refine ⟨by rw [e6], ?_⟩
  simp only [got, e1, e2, e3, e4, e5, e6]

theorem good_put {B : Bounds} (hB : B.wide) (g : Got) (hm : g.req.may) : good B g.bytes ∧ got B g.bytes = g := by
  have h := got_put hB g hm []
  rw [List.append_nil] at h
  exact ⟨⟨h.1, by rw [h.2]; exact hm⟩, h.2⟩

theorem good_got {B : Bounds} {l : List UInt8} (h : good B l) : l = (got B l).bytes := by
  have := got_bytes h.1
  rwa [List.append_nil] at this

/-- Any two wide bounds find the same. -/
theorem good_same {B C : Bounds} (hC : C.wide) {l : List UInt8} (h : good B l) : good C l ∧ got C l = got B l := by
  have hb := good_got h
  have := good_put hC (got B l) h.2
  rw [← hb] at this
  exact this

/-- What is cut off is no request. -/
theorem good_cut {B : Bounds} (hB : B.wide) (g : Got) (hm : g.req.may) (k : Nat) (hk : k < g.bytes.length) : ¬ good B (g.bytes.take k) := by
  intro h
  have hb := good_got h
  have h1 := got_put hB (got B (g.bytes.take k)) h.2 (g.bytes.drop k)
  rw [← hb, List.take_append_drop] at h1
  have h2 := (good_put hB g hm).1.1
  rw [h2] at h1
  have h3 := Option.some.inj h1.1
  have := congrArg List.length h3
  rw [List.length_drop] at this
  simp at this
  omega

theorem req_apart (g h : Got) (hg : g.req.may) (hh : h.req.may) (e : g.bytes = h.bytes) : g = h := by
  have w : Bounds.wide ⟨3, 1073741824, 6, 31, 100, 64⟩ := by unfold Bounds.wide; decide
  have h1 := (good_put w g hg).2
  have h2 := (good_put w h hh).2
  rw [← h1, ← h2, e]

theorem req_len (g : Got) (hm : g.req.may) : g.bytes.length ≤ 200 := by
  obtain ⟨cl, sq, kd, id, mt, s⟩ := g
  simp only [Got.req, ReqV.may] at hm
  have hs : (ByteArray.mk s.toArray).size = s.length := List.size_toArray
  rw [hs] at hm
  have u1 := Lib.uvarint_length64 (show cl < 18446744073709551616 by omega)
  have u2 := Lib.uvarint_length64 (show sq < 18446744073709551616 by omega)
  have u3 := Lib.uvarint_length64 (show kd < 18446744073709551616 by omega)
  have u4 := Lib.uvarint_length64 (show id < 18446744073709551616 by omega)
  have u5 := Lib.uvarint_length64 (show mt < 18446744073709551616 by omega)
  have u6 := Lib.uvarint_length64 (show s.length < 18446744073709551616 by omega)
  simp only [Got.bytes, reqBytes, List.length_append]
  omega
end Go.Proofs.Ytpcbpimlakehcaa

/-! ## ItemPut -/
/-
  THE PROGRAM's PutReq: nothing of a request that may not be, else its bytes. No condition but lengths.
-/
namespace Go.Proofs.Ytpcbpimlakehcaa
open Go.RowKit

theorem own_base {w : World} {base base' : Nat} {e : TypeId} {size : Nat} {v : Value} {n : Nat} {xs : List Value} (h : w.ownsRow base e size v n xs) (hb : base' ≤ base) : w.ownsRow base' e size v n xs := by
  refine ⟨h.1, ?_⟩
  rcases h.2 with h0 | ⟨r, cap, cur, rfl, hr, rest⟩
  · exact .inl h0
  · exact .inr ⟨r, cap, cur, rfl, by omega, rest⟩

end Go.Proofs.Ytpcbpimlakehcaa

/-! ## ItemGet -/
/-
  THE PROGRAM's GetReq: the request that the bytes are, or none. No condition but lengths.
-/
namespace Go.Proofs.Ytpcbpimlakehcaa
open Go.RowKit

theorem rNum_le (M : Nat) (st : Option (List UInt8)) : (rNum M st).1 ≤ M := by
  cases st with
  | none => simp [rNum]
  | some l =>
    simp only [rNum]
    split
    · simp
    · split
      · assumption
      · simp

theorem rNum_len2 (M : Nat) (st : Option (List UInt8)) (b : Nat) (hm : ∀ l, st = some l → l.length ≤ b) : ∀ l, (rNum M st).2 = some l → l.length ≤ b := by
  intro l hl
  cases st with
  | none => simp [rNum] at hl
  | some l0 =>
    simp only [rNum] at hl
    split at hl
    · cases hl
    · split at hl
      · simp only [Option.some.injEq] at hl
        subst hl
        have := hm l0 rfl
        simp; omega
      · cases hl

theorem rText_len2 (M : Nat) (st : Option (List UInt8)) (b : Nat) (hm : ∀ l, st = some l → l.length ≤ b) : (∀ l, (rText M st).2 = some l → l.length ≤ b) ∧ (rText M st).1.length ≤ b := by
  unfold rText
  have h1 := rNum_len2 M st b hm
  obtain ⟨v, s, hv⟩ : ∃ v s, rNum M st = (v, s) := ⟨_, _, rfl⟩
  rw [hv] at h1 ⊢
  cases s with
  | none => simp [rTextOf]
  | some l =>
    have := h1 l rfl
    simp only [rTextOf]
    split
    · simp; omega
    · simp

theorem size_Req : (Try.prog.info? 33).map (·.size) = some 6 := by kernel_rfl

/-- A request stored whole into a block that holds one. -/
theorem store_req {ops : Array Oper} {rest : List Oper} {o : Oper} {a : Act} {w : World} {Q : Exit → Act → World → Prop} (hgd : o.guard = none) (x y : Operand) (ho : o.op = .store 33 x y)
    (g : Nat) (hx : a.eval x = .pointer (some ⟨g, 0, none⟩)) (cl sq kd id mt : Int) (dt : ByteArray) (hy : a.eval y = .agg #[.int .i64 cl, .int .i64 sq, .int .i64 kd, .int .i64 id, .int .i64 mt, .string dt])
    {cl0 sq0 kd0 id0 mt0 : Int} {dt0 : ByteArray} (hg : ReqB w g cl0 sq0 kd0 id0 mt0 dt0)
    (h : ∀ w', ReqB w' g cl sq kd id mt dt → w.grownBy w' (some g) → wpList Try.prog ops Q rest (a.put o.dst undef) w') : wpList Try.prog ops Q (o :: rest) a w := by
  obtain ⟨e, hb⟩ := hg
  refine wpList_store_row hgd 33 x y ho g #[.int .i64 cl, .int .i64 sq, .int .i64 kd, .int .i64 id, .int .i64 mt, .string dt] hx hy e _ hb size_Req rfl (by simp [Value.oneCell']) (h _ ⟨e, ?_⟩ ?_)
  · exact setRow_heap w g _ _ e _ hb
  · exact ⟨rfl, rfl, rfl, by simp, fun k _ hk => setRow_other w g k _ (fun e => hk (by rw [e]))⟩

def progB : Bounds := ⟨3, 1073741824, 6, 31, 100, 64⟩
theorem progB_wide : progB.wide := by unfold Bounds.wide progB; decide

theorem rdrl_alloc {lo : Nat} {w : World} {h : Nat} {st : Option (List UInt8)} (hR : RdrL lo w h st) (o : Obj) : RdrL lo (w.alloc o) h st :=
  hR.below ((Below.refl _ _).alloc (Nat.le_refl _) _)

/-- The value of what was found. -/
def Got.val (g : Got) : Value := .agg #[.int .i64 g.cl, .int .i64 g.sq, .int .i64 g.kd, .int .i64 g.id, .int .i64 g.mt, .string ⟨g.s.toArray⟩]

end Go.Proofs.Ytpcbpimlakehcaa
