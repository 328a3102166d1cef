/-
  REQUESTS AND REPLIES COMPARED, BY THE PROGRAM AND BY THE REFERENCE; a request's key, whether it is newer. No condition but that the values can be read.
-/
import Derived.Test.YtkbjnhonopgffaaItemMayS
import Derived.Test.YtkbjnhonopgffaaItemA
import Derived.Test.YtkbjnhonopgffaaItemRC
import Derived.Test.YtkbjnhonopgffaaItemArgs
namespace Go.Proofs.Ytkbjnhonopgffaa
open Go.RowKit

set_option maxHeartbeats 1000000 in
theorem refsamereply_any (c1 n1 c2 n2 : Int) (d1 d2 : ByteArray) (v1 v2 : Value) (L1 L2 : List Int) (B : Nat) (w : World) (h1 : Ints w B v1 L1) (h2 : Ints w B v2 L2) (hB : B ≤ w.heap.size) (hm : L1.length ≤ 1000000)
    (R : Bool) (HR : Hid (R = (c1 == c2 && n1 == n2 && d1.toList == d2.toList && decide (L1 = L2)))) :
    Calls Try.prog 28 #[.agg #[.int .i64 c1, .int .i64 n1, .string d1, v1], .agg #[.int .i64 c2, .int .i64 n2, .string d2, v2]] w fun e w' => e = .returned (.bool R) ∧ Below w.heap.size w w' := by
  have HI : Hid (∀ o1 o2, Calls Try.prog 58 #[v1, v2] ((w.alloc o1).alloc o2) fun e w' => e = .returned (.bool (decide (L1 = L2))) ∧ Below ((w.alloc o1).alloc o2).heap.size ((w.alloc o1).alloc o2) w') := by
    intro o1 o2
    have hb : Below w.heap.size w ((w.alloc o1).alloc o2) := ((Below.refl _ w).alloc (Nat.le_refl _) o1).alloc (by simp) o2
    exact refints_any v1 v2 L1 L2 B _ (h1.keep (hb.mono hB)) (h2.keep (hb.mono hB)) (by simp; omega) hm
  obtain ⟨a1, k1, rfl, _⟩ := h1
  obtain ⟨a2, k2, rfl, _⟩ := h2
  obtain ⟨Q, hQ⟩ : ∃ Q, Q = decide (L1 = L2) := ⟨_, rfl⟩
  rw [← hQ] at HI HR
  obtain ⟨m1, hm1⟩ : ∃ n, n = L1.length := ⟨_, rfl⟩
  obtain ⟨m2, hm2⟩ : ∃ n, n = L2.length := ⟨_, rfl⟩
  rw [← hm1, ← hm2] at HI ⊢
  clear hQ hm1 hm2 hm
  by_cases e1 : c1 = c2
  case neg =>
    have hb : (c1 == c2) = false := beq_eq_false_iff_ne.2 e1
    obtain rfl : R = false := by rw [HR.out, hb]; rfl
    clear HR e1
    go_enter Try.func28, Try.ntmps28
    go_wp2
    go_returns
    exact ⟨rfl, by go_grown⟩
  subst e1
  by_cases e2 : n1 = n2
  case neg =>
    have hb : (n1 == n2) = false := beq_eq_false_iff_ne.2 e2
    obtain rfl : R = false := by rw [HR.out, hb]; simp
    clear HR e2
    go_enter Try.func28, Try.ntmps28
    go_wp2
    go_returns
    exact ⟨rfl, by go_grown⟩
  subst e2
  by_cases e3 : d1.toList = d2.toList
  case neg =>
    have hb : (d1.toList == d2.toList) = false := beq_eq_false_iff_ne.2 e3
    obtain rfl : R = false := by rw [HR.out, hb]; simp
    clear HR e3
    go_enter Try.func28, Try.ntmps28
    go_wp2
    go_returns
    exact ⟨rfl, by go_grown⟩
  have hb : (d1.toList == d2.toList) = true := by rw [beq_iff_eq]; exact e3
  obtain rfl : R = Q := by rw [HR.out, hb]; simp
  clear HR e3
  go_enter Try.func28, Try.ntmps28
  go_wp2_with fail
  refine (HI.out _ _).mono ?_
  rintro e w1 ⟨rfl, B1⟩
  have C1 : Hid (Below w.heap.size w w1) := (((Below.refl _ w).alloc (Nat.le_refl _) _).alloc (by simp) _).trans (B1.mono (by simp; omega))
  clear B1
  go_wp2
  go_returns
  exact ⟨rfl, C1.out⟩

set_option maxHeartbeats 1000000 in
theorem key_r (cl sq kd id mt : Int) (dt : ByteArray) (hd : dt.size ≤ 9223372036854775807) (R : Int) (HR : Hid (R = if ReqV.may ⟨cl, sq, kd, id, mt, dt⟩ then id else -1)) (w : World) :
    Calls Try.prog 42 #[.agg #[.int .i64 cl, .int .i64 sq, .int .i64 kd, .int .i64 id, .int .i64 mt, .string dt]] w fun e w' => e = .returned (.int .i64 R) ∧ Below w.heap.size w w' := by
  by_cases h : ReqV.may ⟨cl, sq, kd, id, mt, dt⟩
  · have HM : Hid (∀ u, Calls Try.prog 39 #[.agg #[.int .i64 cl, .int .i64 sq, .int .i64 kd, .int .i64 id, .int .i64 mt, .string dt]] u fun e w' => e = .returned (.bool true) ∧ Below u.heap.size u w') :=
      fun u => mayreq_r cl sq kd id mt dt hd true (decide_eq_true h).symm u
    obtain rfl : R = id := by rw [HR.out, if_pos h]
    clear HR h hd
    go_enter Try.func42, Try.ntmps42
    go_wp2_with fail
    refine (HM.out _).mono ?_
    rintro e w1 ⟨rfl, B1⟩
    have C1 : Hid (Below w.heap.size w w1) := ((Below.refl _ w).alloc (Nat.le_refl _) _).trans (B1.mono (by simp))
    obtain ⟨c0, c1, c2, c3, c4, c5⟩ := ((ReqB.fresh w _ _ _ _ _ _ 29).keep B1 (by simp)).cells
    clear B1
    go_wp2
    go_returns
    exact ⟨rfl, C1.out⟩
  · have HM : Hid (∀ u, Calls Try.prog 39 #[.agg #[.int .i64 cl, .int .i64 sq, .int .i64 kd, .int .i64 id, .int .i64 mt, .string dt]] u fun e w' => e = .returned (.bool false) ∧ Below u.heap.size u w') :=
      fun u => mayreq_r cl sq kd id mt dt hd false (decide_eq_false h).symm u
    obtain rfl : R = -1 := by rw [HR.out, if_neg h]
    clear HR h hd
    go_enter Try.func42, Try.ntmps42
    go_wp2_with fail
    refine (HM.out _).mono ?_
    rintro e w1 ⟨rfl, B1⟩
    have C1 : Hid (Below w.heap.size w w1) := ((Below.refl _ w).alloc (Nat.le_refl _) _).trans (B1.mono (by simp))
    clear B1
    go_wp2
    go_returns
    exact ⟨rfl, C1.out⟩

set_option maxHeartbeats 1000000 in
theorem newer_r (cl sq kd id mt n : Int) (dt : ByteArray) (hd : dt.size ≤ 9223372036854775807) (R : Bool) (HR : Hid (R = (decide (ReqV.may ⟨cl, sq, kd, id, mt, dt⟩) && decide (n < sq)))) (w : World) :
    Calls Try.prog 41 #[.agg #[.int .i64 cl, .int .i64 sq, .int .i64 kd, .int .i64 id, .int .i64 mt, .string dt], .int .i64 n] w fun e w' => e = .returned (.bool R) ∧ Below w.heap.size w w' := by
  by_cases h : ReqV.may ⟨cl, sq, kd, id, mt, dt⟩
  · have HM : Hid (∀ u, Calls Try.prog 39 #[.agg #[.int .i64 cl, .int .i64 sq, .int .i64 kd, .int .i64 id, .int .i64 mt, .string dt]] u fun e w' => e = .returned (.bool true) ∧ Below u.heap.size u w') :=
      fun u => mayreq_r cl sq kd id mt dt hd true (decide_eq_true h).symm u
    obtain rfl : R = decide (n < sq) := by rw [HR.out, decide_eq_true h]; rfl
    clear HR h hd
    go_enter Try.func41, Try.ntmps41
    go_wp2_with fail
    refine (HM.out _).mono ?_
    rintro e w1 ⟨rfl, B1⟩
    have C1 : Hid (Below w.heap.size w w1) := ((Below.refl _ w).alloc (Nat.le_refl _) _).trans (B1.mono (by simp))
    obtain ⟨c0, c1, c2, c3, c4, c5⟩ := ((ReqB.fresh w _ _ _ _ _ _ 29).keep B1 (by simp)).cells
    clear B1
    go_wp2
    go_returns
    first | exact ⟨rfl, C1.out⟩ | exact ⟨ret_bool (by simp), C1.out⟩
  · have HM : Hid (∀ u, Calls Try.prog 39 #[.agg #[.int .i64 cl, .int .i64 sq, .int .i64 kd, .int .i64 id, .int .i64 mt, .string dt]] u fun e w' => e = .returned (.bool false) ∧ Below u.heap.size u w') :=
      fun u => mayreq_r cl sq kd id mt dt hd false (decide_eq_false h).symm u
    obtain rfl : R = false := by rw [HR.out, decide_eq_false h]; rfl
    clear HR h hd
    go_enter Try.func41, Try.ntmps41
    go_wp2_with fail
    refine (HM.out _).mono ?_
    rintro e w1 ⟨rfl, B1⟩
    have C1 : Hid (Below w.heap.size w w1) := ((Below.refl _ w).alloc (Nat.le_refl _) _).trans (B1.mono (by simp))
    clear B1
    go_wp2
    go_returns
    exact ⟨rfl, C1.out⟩

/-- Block b holds a reply. -/
def RepB (w : World) (b : Nat) (c n : Int) (d : ByteArray) (v : Value) : Prop :=
  ∃ e, w.heap[b]? = some (.cells #[.int .i64 c, .int .i64 n, .string d, v] e (0, 0))

theorem RepB.cells {w : World} {b : Nat} {c n : Int} {d : ByteArray} {v : Value} (h : RepB w b c n d v) :
    w.cell? ⟨b, 0, none⟩ = some (.int .i64 c) ∧ w.cell? ⟨b, 1, none⟩ = some (.int .i64 n) ∧ w.cell? ⟨b, 2, none⟩ = some (.string d) ∧ w.cell? ⟨b, 3, none⟩ = some v := by
  obtain ⟨e, h⟩ := h
  refine ⟨?_, ?_, ?_, ?_⟩ <;> simp [World.cell?, h]
theorem RepB.lt {w : World} {b : Nat} {c n : Int} {d : ByteArray} {v : Value} (h : RepB w b c n d v) : b < w.heap.size := by
  obtain ⟨_, h⟩ := h
  exact lt_of_block h
theorem RepB.keep {w w' : World} {b B : Nat} {c n : Int} {d : ByteArray} {v : Value} (h : RepB w b c n d v) (hb : Below B w w') (hB : b < B) : RepB w' b c n d v := by
  obtain ⟨e, h⟩ := h
  exact ⟨e, (hb.block b hB).trans h⟩
theorem RepB.fresh (w : World) (c n : Int) (d : ByteArray) (v : Value) (e : TypeId) : RepB (w.alloc (.cells #[.int .i64 c, .int .i64 n, .string d, v] e)) w.heap.size c n d v :=
  ⟨e, heap_alloc_new w _⟩
end Go.Proofs.Ytkbjnhonopgffaa
