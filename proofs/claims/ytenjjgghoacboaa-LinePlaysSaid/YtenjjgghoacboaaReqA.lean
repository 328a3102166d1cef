/-
  REQUESTS AND REPLIES COMPARED, BY THE PROGRAM AND BY THE REFERENCE; a request's key, whether it is newer. No condition but that the values can be read.
-/
import Derived.Test.YtenjjgghoacboaaItemMayS
import Derived.Test.YtenjjgghoacboaaItemA
import Derived.Test.YtenjjgghoacboaaItemRC
import Derived.Test.YtenjjgghoacboaaItemArgs
namespace Go.Proofs.Ytenjjgghoacboaa
open Go.RowKit

set_option maxHeartbeats 1000000 in
theorem same_any (cl sq kd id mt cl' sq' kd' id' mt' : Int) (dt dt' : ByteArray) (w : World) :
    Calls Try.prog 125 #[.agg #[.int .i64 cl, .int .i64 sq, .int .i64 kd, .int .i64 id, .int .i64 mt, .string dt], .agg #[.int .i64 cl', .int .i64 sq', .int .i64 kd', .int .i64 id', .int .i64 mt', .string dt']] w fun e w' =>
      e = .returned (.bool (cl == cl' && sq == sq' && kd == kd' && id == id' && mt == mt' && dt.toList == dt'.toList)) ∧ Below w.heap.size w w' := by
  go_enter Try.func125, Try.ntmps125
  go_wp2
  all_goals
    go_returns
    exact ⟨ret_bool (by simp_all), by go_grown⟩

theorem same_r (cl sq kd id mt cl' sq' kd' id' mt' : Int) (dt dt' : ByteArray) (R : Bool) (HR : R = (cl == cl' && sq == sq' && kd == kd' && id == id' && mt == mt' && dt.toList == dt'.toList)) (w : World) :
    Calls Try.prog 125 #[.agg #[.int .i64 cl, .int .i64 sq, .int .i64 kd, .int .i64 id, .int .i64 mt, .string dt], .agg #[.int .i64 cl', .int .i64 sq', .int .i64 kd', .int .i64 id', .int .i64 mt', .string dt']] w fun e w' =>
      e = .returned (.bool R) ∧ Below w.heap.size w w' := by
  rw [HR]
  exact same_any cl sq kd id mt cl' sq' kd' id' mt' dt dt' w

set_option maxHeartbeats 2000000 in
set_option maxRecDepth 100000 in
theorem samelist_same (b1 o1 b2 o2 n c1 c2 : Nat) (L1 L2 : List Int) (w : World) (h1 : L1.length = n) (h2 : L2.length = n) (hm : n ≤ 1000000) (hb1 : b1 < w.heap.size) (hb2 : b2 < w.heap.size)
    (hc1 : ∀ j, j < n → w.cell? ⟨b1, o1 + j, none⟩ = some (.int .i64 (L1.getD j 0))) (hc2 : ∀ j, j < n → w.cell? ⟨b2, o2 + j, none⟩ = some (.int .i64 (L2.getD j 0))) :
    Calls Try.prog 129 #[.slice (some ⟨b1, o1, none⟩) n c1, .slice (some ⟨b2, o2, none⟩) n c2] w fun e w' => e = .returned (.bool (decide (L1 = L2))) ∧ Below w.heap.size w w' := by
  have H1 := Lib.hid hc1
  have H2 := Lib.hid hc2
  have N1 := Lib.hid h1
  have N2 := Lib.hid h2
  obtain ⟨R, hR⟩ : ∃ R, R = decide (L1 = L2) := ⟨_, rfl⟩
  rw [← hR]
  have HR := Lib.hid hR
  clear hc1 hc2 h1 h2 hR
  go_enter Try.func129, Try.ntmps129
  go_wp2
  go_loopw [14] (fun vi wr => ∃ k : Nat, k ≤ n ∧ vi = .int .i64 k ∧ L1.take k = L2.take k ∧ Below w.heap.size w wr) (fun vi _ => n - (intOf vi).toNat)
  case atStart => exact ⟨0, by omega, rfl, rfl, Below.refl _ _⟩
  case round =>
    obtain ⟨k, hk, rfl, heq, hnx⟩ := hrel
    have HQ := Lib.hid heq
    have HB := Lib.hid hnx
    clear heq
    by_cases hlt : k < n
    · obtain ⟨x, hx⟩ : ∃ x, x = L1.getD k 0 := ⟨_, rfl⟩
      obtain ⟨y, hy⟩ : ∃ y, y = L2.getD k 0 := ⟨_, rfl⟩
      have e1 : wr.cell? ⟨b1, o1 + k, none⟩ = some (.int .i64 x) := by rw [hx, ← H1.out k hlt]; exact hnx.cell (p := ⟨b1, o1 + k, none⟩) hb1
      have e2 : wr.cell? ⟨b2, o2 + k, none⟩ = some (.int .i64 y) := by rw [hy, ← H2.out k hlt]; exact hnx.cell (p := ⟨b2, o2 + k, none⟩) hb2
      have T1 : Hid (L1.take (k + 1) = L1.take k ++ [x]) := by show _ = _; rw [hx]; exact take_snoc L1 k (by rw [N1.out]; exact hlt)
      have T2 : Hid (L2.take (k + 1) = L2.take k ++ [y]) := by show _ = _; rw [hy]; exact take_snoc L2 k (by rw [N2.out]; exact hlt)
      clear hx hy hnx
      have i0 : (0 : Int) ≤ (k : Int) := by omega
      have i1 : (k : Int) < (n : Int) := by omega
      by_cases hxy : x = y
      · subst hxy
        go_wp2
        go_roundw
        case rel => exact ⟨k + 1, by omega, by go_num, by rw [T1.out, T2.out, HQ.out], HB.out⟩
        case measure => simp [intOf]; omega
      · have HF : Hid (R = false) := by
          show _ = _
          rw [HR.out]
          refine decide_eq_false fun h => hxy ?_
          have h1 := T1.out
          rw [h, T2.out] at h1
          have := List.append_cancel_left h1
          simpa using this.symm
        have hb : (x == y) = false := beq_eq_false_iff_ne.2 hxy
        clear hxy
        go_wp2
        go_returns
        exact ⟨ret_bool HF.out.symm, HB.out⟩
    · have HF : Hid (R = true) := by
        show _ = _
        rw [HR.out]
        refine decide_eq_true ?_
        have := HQ.out
        rw [List.take_of_length_le (by rw [N1.out]; omega), List.take_of_length_le (by rw [N2.out]; omega)] at this
        exact this
      clear hnx
      go_wp2
      go_returns
      exact ⟨ret_bool HF.out.symm, HB.out⟩

set_option maxHeartbeats 1000000 in
theorem samelist_any (v1 v2 : Value) (L1 L2 : List Int) (B : Nat) (w : World) (h1 : Ints w B v1 L1) (h2 : Ints w B v2 L2) (hB : B ≤ w.heap.size) (hm : L1.length ≤ 1000000) :
    Calls Try.prog 129 #[v1, v2] w fun e w' => e = .returned (.bool (decide (L1 = L2))) ∧ Below w.heap.size w w' := by
  obtain ⟨a1, c1, rfl, _, m1, _, g1⟩ := h1
  obtain ⟨a2, c2, rfl, _, m2, _, g2⟩ := h2
  by_cases he : L1.length = L2.length
  · by_cases h0 : L1.length = 0
    · have e1 : L1 = [] := List.eq_nil_of_length_eq_zero h0
      have e2 : L2 = [] := List.eq_nil_of_length_eq_zero (by omega)
      subst e1 e2
      clear g1 g2
      go_enter Try.func129, Try.ntmps129
      go_wp2
      refine wp_loop_rounds 1 ?_
      rw [rounds_succ]
      go_wp2
      go_returns
      exact ⟨rfl, Below.refl _ _⟩
    · obtain ⟨b1, o1, rfl, hb1, hc1⟩ := g1 (by intro h; rw [h] at h0; simp at h0)
      obtain ⟨b2, o2, rfl, hb2, hc2⟩ := g2 (by intro h; rw [h] at he; simp at he; exact h0 (by simp [he]))
      rw [← he] at hc2 ⊢
      exact samelist_same b1 o1 b2 o2 L1.length c1 c2 L1 L2 w rfl he.symm hm (by omega) (by omega) hc1 hc2
  · have hr : decide (L1 = L2) = false := decide_eq_false fun h => he (by rw [h])
    rw [hr]
    obtain ⟨n1, hn1⟩ : ∃ n, n = L1.length := ⟨_, rfl⟩
    obtain ⟨n2, hn2⟩ : ∃ n, n = L2.length := ⟨_, rfl⟩
    rw [← hn1, ← hn2]
    have hne : ((n1 : Int) == (n2 : Int)) = false := by rw [beq_eq_false_iff_ne]; omega
    clear g1 g2 hr hn1 hn2 he hm
    go_enter Try.func129, Try.ntmps129
    go_wp2
    go_returns
    exact ⟨rfl, Below.refl _ _⟩

set_option maxHeartbeats 1000000 in
theorem samereply_any (c1 n1 c2 n2 : Int) (d1 d2 : ByteArray) (v1 v2 : Value) (L1 L2 : List Int) (B : Nat) (w : World) (h1 : Ints w B v1 L1) (h2 : Ints w B v2 L2) (hB : B ≤ w.heap.size) (hm : L1.length ≤ 1000000)
    (R : Bool) (HR : Hid (R = (c1 == c2 && n1 == n2 && d1.toList == d2.toList && decide (L1 = L2)))) :
    Calls Try.prog 126 #[.agg #[.int .i64 c1, .int .i64 n1, .string d1, v1], .agg #[.int .i64 c2, .int .i64 n2, .string d2, v2]] w fun e w' => e = .returned (.bool R) ∧ Below w.heap.size w w' := by
  have HI : Hid (∀ o1 o2, Calls Try.prog 129 #[v1, v2] ((w.alloc o1).alloc o2) fun e w' => e = .returned (.bool (decide (L1 = L2))) ∧ Below ((w.alloc o1).alloc o2).heap.size ((w.alloc o1).alloc o2) w') := by
    intro o1 o2
    have hb : Below w.heap.size w ((w.alloc o1).alloc o2) := ((Below.refl _ w).alloc (Nat.le_refl _) o1).alloc (by simp) o2
    exact samelist_any v1 v2 L1 L2 B _ (h1.keep (hb.mono hB)) (h2.keep (hb.mono hB)) (by simp; omega) hm
  obtain ⟨a1, k1, rfl, _⟩ := h1
  obtain ⟨a2, k2, rfl, _⟩ := h2
  obtain ⟨Q, hQ⟩ : ∃ Q, Q = decide (L1 = L2) := ⟨_, rfl⟩
  rw [← hQ] at HI HR
  obtain ⟨m1, hm1⟩ : ∃ n, n = L1.length := ⟨_, rfl⟩
  obtain ⟨m2, hm2⟩ : ∃ n, n = L2.length := ⟨_, rfl⟩
  rw [← hm1, ← hm2] at HI ⊢
  clear hQ hm1 hm2 hm
  by_cases e1 : c1 = c2
  case neg =>
    have hb : (c1 == c2) = false := beq_eq_false_iff_ne.2 e1
    obtain rfl : R = false := by rw [HR.out, hb]; rfl
    clear HR e1
    go_enter Try.func126, Try.ntmps126
    go_wp2
    go_returns
    exact ⟨rfl, by go_grown⟩
  subst e1
  by_cases e2 : n1 = n2
  case neg =>
    have hb : (n1 == n2) = false := beq_eq_false_iff_ne.2 e2
    obtain rfl : R = false := by rw [HR.out, hb]; simp
    clear HR e2
    go_enter Try.func126, Try.ntmps126
    go_wp2
    go_returns
    exact ⟨rfl, by go_grown⟩
  subst e2
  by_cases e3 : d1.toList = d2.toList
  case neg =>
    have hb : (d1.toList == d2.toList) = false := beq_eq_false_iff_ne.2 e3
    obtain rfl : R = false := by rw [HR.out, hb]; simp
    clear HR e3
    go_enter Try.func126, Try.ntmps126
    go_wp2
    go_returns
    exact ⟨rfl, by go_grown⟩
  have hb : (d1.toList == d2.toList) = true := by rw [beq_iff_eq]; exact e3
  obtain rfl : R = Q := by rw [HR.out, hb]; simp
  clear HR e3
  go_enter Try.func126, Try.ntmps126
  go_wp2_with fail
  refine (HI.out _ _).mono ?_
  rintro e w1 ⟨rfl, B1⟩
  have C1 : Hid (Below w.heap.size w w1) := (((Below.refl _ w).alloc (Nat.le_refl _) _).alloc (by simp) _).trans (B1.mono (by simp; omega))
  clear B1
  go_wp2
  go_returns
  exact ⟨rfl, C1.out⟩

set_option maxHeartbeats 1000000 in
theorem refsamereply_any (c1 n1 c2 n2 : Int) (d1 d2 : ByteArray) (v1 v2 : Value) (L1 L2 : List Int) (B : Nat) (w : World) (h1 : Ints w B v1 L1) (h2 : Ints w B v2 L2) (hB : B ≤ w.heap.size) (hm : L1.length ≤ 1000000)
    (R : Bool) (HR : Hid (R = (c1 == c2 && n1 == n2 && d1.toList == d2.toList && decide (L1 = L2)))) :
    Calls Try.prog 23 #[.agg #[.int .i64 c1, .int .i64 n1, .string d1, v1], .agg #[.int .i64 c2, .int .i64 n2, .string d2, v2]] w fun e w' => e = .returned (.bool R) ∧ Below w.heap.size w w' := by
  have HI : Hid (∀ o1 o2, Calls Try.prog 64 #[v1, v2] ((w.alloc o1).alloc o2) fun e w' => e = .returned (.bool (decide (L1 = L2))) ∧ Below ((w.alloc o1).alloc o2).heap.size ((w.alloc o1).alloc o2) w') := by
    intro o1 o2
    have hb : Below w.heap.size w ((w.alloc o1).alloc o2) := ((Below.refl _ w).alloc (Nat.le_refl _) o1).alloc (by simp) o2
    exact refints_any v1 v2 L1 L2 B _ (h1.keep (hb.mono hB)) (h2.keep (hb.mono hB)) (by simp; omega) hm
  obtain ⟨a1, k1, rfl, _⟩ := h1
  obtain ⟨a2, k2, rfl, _⟩ := h2
  obtain ⟨Q, hQ⟩ : ∃ Q, Q = decide (L1 = L2) := ⟨_, rfl⟩
  rw [← hQ] at HI HR
  obtain ⟨m1, hm1⟩ : ∃ n, n = L1.length := ⟨_, rfl⟩
  obtain ⟨m2, hm2⟩ : ∃ n, n = L2.length := ⟨_, rfl⟩
  rw [← hm1, ← hm2] at HI ⊢
  clear hQ hm1 hm2 hm
  by_cases e1 : c1 = c2
  case neg =>
    have hb : (c1 == c2) = false := beq_eq_false_iff_ne.2 e1
    obtain rfl : R = false := by rw [HR.out, hb]; rfl
    clear HR e1
    go_enter Try.func23, Try.ntmps23
    go_wp2
    go_returns
    exact ⟨rfl, by go_grown⟩
  subst e1
  by_cases e2 : n1 = n2
  case neg =>
    have hb : (n1 == n2) = false := beq_eq_false_iff_ne.2 e2
    obtain rfl : R = false := by rw [HR.out, hb]; simp
    clear HR e2
    go_enter Try.func23, Try.ntmps23
    go_wp2
    go_returns
    exact ⟨rfl, by go_grown⟩
  subst e2
  by_cases e3 : d1.toList = d2.toList
  case neg =>
    have hb : (d1.toList == d2.toList) = false := beq_eq_false_iff_ne.2 e3
    obtain rfl : R = false := by rw [HR.out, hb]; simp
    clear HR e3
    go_enter Try.func23, Try.ntmps23
    go_wp2
    go_returns
    exact ⟨rfl, by go_grown⟩
  have hb : (d1.toList == d2.toList) = true := by rw [beq_iff_eq]; exact e3
  obtain rfl : R = Q := by rw [HR.out, hb]; simp
  clear HR e3
  go_enter Try.func23, Try.ntmps23
  go_wp2_with fail
  refine (HI.out _ _).mono ?_
  rintro e w1 ⟨rfl, B1⟩
  have C1 : Hid (Below w.heap.size w w1) := (((Below.refl _ w).alloc (Nat.le_refl _) _).alloc (by simp) _).trans (B1.mono (by simp; omega))
  clear B1
  go_wp2
  go_returns
  exact ⟨rfl, C1.out⟩

set_option maxHeartbeats 1000000 in
theorem key_r (cl sq kd id mt : Int) (dt : ByteArray) (hd : dt.size ≤ 9223372036854775807) (R : Int) (HR : Hid (R = if ReqV.may ⟨cl, sq, kd, id, mt, dt⟩ then id else -1)) (w : World) :
    Calls Try.prog 62 #[.agg #[.int .i64 cl, .int .i64 sq, .int .i64 kd, .int .i64 id, .int .i64 mt, .string dt]] w fun e w' => e = .returned (.int .i64 R) ∧ Below w.heap.size w w' := by
  by_cases h : ReqV.may ⟨cl, sq, kd, id, mt, dt⟩
  · have HM : Hid (∀ u, Calls Try.prog 59 #[.agg #[.int .i64 cl, .int .i64 sq, .int .i64 kd, .int .i64 id, .int .i64 mt, .string dt]] u fun e w' => e = .returned (.bool true) ∧ Below u.heap.size u w') :=
      fun u => mayreq_r cl sq kd id mt dt hd true (decide_eq_true h).symm u
    obtain rfl : R = id := by rw [HR.out, if_pos h]
    clear HR h hd
    go_enter Try.func62, Try.ntmps62
    go_wp2_with fail
    refine (HM.out _).mono ?_
    rintro e w1 ⟨rfl, B1⟩
    have C1 : Hid (Below w.heap.size w w1) := ((Below.refl _ w).alloc (Nat.le_refl _) _).trans (B1.mono (by simp))
    obtain ⟨c0, c1, c2, c3, c4, c5⟩ := ((ReqB.fresh w _ _ _ _ _ _ 34).keep B1 (by simp)).cells
    clear B1
    go_wp2
    go_returns
    exact ⟨rfl, C1.out⟩
  · have HM : Hid (∀ u, Calls Try.prog 59 #[.agg #[.int .i64 cl, .int .i64 sq, .int .i64 kd, .int .i64 id, .int .i64 mt, .string dt]] u fun e w' => e = .returned (.bool false) ∧ Below u.heap.size u w') :=
      fun u => mayreq_r cl sq kd id mt dt hd false (decide_eq_false h).symm u
    obtain rfl : R = -1 := by rw [HR.out, if_neg h]
    clear HR h hd
    go_enter Try.func62, Try.ntmps62
    go_wp2_with fail
    refine (HM.out _).mono ?_
    rintro e w1 ⟨rfl, B1⟩
    have C1 : Hid (Below w.heap.size w w1) := ((Below.refl _ w).alloc (Nat.le_refl _) _).trans (B1.mono (by simp))
    clear B1
    go_wp2
    go_returns
    exact ⟨rfl, C1.out⟩

set_option maxHeartbeats 1000000 in
theorem newer_r (cl sq kd id mt n : Int) (dt : ByteArray) (hd : dt.size ≤ 9223372036854775807) (R : Bool) (HR : Hid (R = (decide (ReqV.may ⟨cl, sq, kd, id, mt, dt⟩) && decide (n < sq)))) (w : World) :
    Calls Try.prog 61 #[.agg #[.int .i64 cl, .int .i64 sq, .int .i64 kd, .int .i64 id, .int .i64 mt, .string dt], .int .i64 n] w fun e w' => e = .returned (.bool R) ∧ Below w.heap.size w w' := by
  by_cases h : ReqV.may ⟨cl, sq, kd, id, mt, dt⟩
  · have HM : Hid (∀ u, Calls Try.prog 59 #[.agg #[.int .i64 cl, .int .i64 sq, .int .i64 kd, .int .i64 id, .int .i64 mt, .string dt]] u fun e w' => e = .returned (.bool true) ∧ Below u.heap.size u w') :=
      fun u => mayreq_r cl sq kd id mt dt hd true (decide_eq_true h).symm u
    obtain rfl : R = decide (n < sq) := by rw [HR.out, decide_eq_true h]; rfl
    clear HR h hd
    go_enter Try.func61, Try.ntmps61
    go_wp2_with fail
    refine (HM.out _).mono ?_
    rintro e w1 ⟨rfl, B1⟩
    have C1 : Hid (Below w.heap.size w w1) := ((Below.refl _ w).alloc (Nat.le_refl _) _).trans (B1.mono (by simp))
    obtain ⟨c0, c1, c2, c3, c4, c5⟩ := ((ReqB.fresh w _ _ _ _ _ _ 34).keep B1 (by simp)).cells
    clear B1
    go_wp2
    go_returns
    first | exact ⟨rfl, C1.out⟩ | exact ⟨ret_bool (by simp), C1.out⟩
  · have HM : Hid (∀ u, Calls Try.prog 59 #[.agg #[.int .i64 cl, .int .i64 sq, .int .i64 kd, .int .i64 id, .int .i64 mt, .string dt]] u fun e w' => e = .returned (.bool false) ∧ Below u.heap.size u w') :=
      fun u => mayreq_r cl sq kd id mt dt hd false (decide_eq_false h).symm u
    obtain rfl : R = false := by rw [HR.out, decide_eq_false h]; rfl
    clear HR h hd
    go_enter Try.func61, Try.ntmps61
    go_wp2_with fail
    refine (HM.out _).mono ?_
    rintro e w1 ⟨rfl, B1⟩
    have C1 : Hid (Below w.heap.size w w1) := ((Below.refl _ w).alloc (Nat.le_refl _) _).trans (B1.mono (by simp))
    clear B1
    go_wp2
    go_returns
    exact ⟨rfl, C1.out⟩

/-- Block b holds a reply. -/
def RepB (w : World) (b : Nat) (c n : Int) (d : ByteArray) (v : Value) : Prop :=
  ∃ e, w.heap[b]? = some (.cells #[.int .i64 c, .int .i64 n, .string d, v] e (0, 0))

theorem RepB.cells {w : World} {b : Nat} {c n : Int} {d : ByteArray} {v : Value} (h : RepB w b c n d v) :
    w.cell? ⟨b, 0, none⟩ = some (.int .i64 c) ∧ w.cell? ⟨b, 1, none⟩ = some (.int .i64 n) ∧ w.cell? ⟨b, 2, none⟩ = some (.string d) ∧ w.cell? ⟨b, 3, none⟩ = some v := by
  obtain ⟨e, h⟩ := h
  refine ⟨?_, ?_, ?_, ?_⟩ <;> simp [World.cell?, h]
theorem RepB.lt {w : World} {b : Nat} {c n : Int} {d : ByteArray} {v : Value} (h : RepB w b c n d v) : b < w.heap.size := by
  obtain ⟨_, h⟩ := h
  exact lt_of_block h
theorem RepB.keep {w w' : World} {b B : Nat} {c n : Int} {d : ByteArray} {v : Value} (h : RepB w b c n d v) (hb : Below B w w') (hB : b < B) : RepB w' b c n d v := by
  obtain ⟨e, h⟩ := h
  exact ⟨e, (hb.block b hB).trans h⟩
theorem RepB.fresh (w : World) (c n : Int) (d : ByteArray) (v : Value) (e : TypeId) : RepB (w.alloc (.cells #[.int .i64 c, .int .i64 n, .string d, v] e)) w.heap.size c n d v :=
  ⟨e, heap_alloc_new w _⟩
end Go.Proofs.Ytenjjgghoacboaa
