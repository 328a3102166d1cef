/-
  THE REFERENCE'S READER: Num when it is wrong, Text, Yes, End behind any calls, each as the same plain function as the program's own. No condition but lengths.
-/
import Derived.Test.YthnkipbbeiadjaaPackRef
namespace Go.Proofs.Ythnkipbbeiadjaa
open Go.RowKit

set_option maxHeartbeats 1000000 in
theorem refrnum_none (h most : Nat) (w : World) (hR : RRdr w h none) :
    Calls Try.prog 21 #[.pointer (some ⟨h, 0, none⟩), .int .u64 most] w fun e w' => e = .returned (.int .u64 0) ∧ RRdr w' h none ∧ w.grownBy w' (some h) := by
  obtain ⟨e0, hb⟩ := hR
  have c0 := cell_of_two0 hb
  have c1 := cell_of_two1 hb
  have HB := Lib.hid hb
  clear hb
  go_enter Try.func21, Try.ntmps21
  go_wp2
  refine wp_loop_rounds 1 ?_
  rw [rounds_succ]
  go_wp2_with fail
  refine (refrwrong_any h _ _ e0 _ HB.out).mono ?_
  rintro e w1 ⟨rfl, h1, h2⟩
  go_wp2
  go_returns
  exact ⟨rfl, h1, h2⟩

theorem refrnum_any (h : Nat) (st : Option (List UInt8)) (most : Nat) (w : World) (hR : RRdr w h st) (hm : ∀ l, st = some l → l.length ≤ 1000) :
    Calls Try.prog 21 #[.pointer (some ⟨h, 0, none⟩), .int .u64 most] w fun e w' => e = .returned (.int .u64 (rNum most st).1) ∧ RRdr w' h (rNum most st).2 ∧ w.grownBy w' (some h) := by
  cases st with
  | none => exact refrnum_none h most w hR
  | some l => exact refrnum_some h l most w hR (hm l rfl)

set_option maxHeartbeats 400000 in
theorem refrend_any (h : Nat) (st : Option (List UInt8)) (w : World) (hR : RRdr w h st) (hm : ∀ l, st = some l → l.length ≤ 1000) :
    Calls Try.prog 27 #[.pointer (some ⟨h, 0, none⟩)] w fun e w' => e = .returned (.int .i64 (rEnd st)) ∧ w = w' := by
  cases st with
  | none =>
    obtain ⟨e0, hb⟩ := hR
    have c0 := cell_of_two0 hb
    have c1 := cell_of_two1 hb
    clear hb hm
    go_enter Try.func27, Try.ntmps27
    go_wp2
    go_returns
    exact ⟨rfl, rfl⟩
  | some l =>
    obtain ⟨e0, hb⟩ := hR
    have c0 := cell_of_two0 hb
    have c1 := cell_of_two1 hb
    have hl := hm l rfl
    clear hb hm
    cases l with
    | nil =>
      go_enter Try.func27, Try.ntmps27
      go_wp2
      go_returns
      exact ⟨rfl, rfl⟩
    | cons c r =>
      obtain ⟨S, hS⟩ : ∃ S, S = ByteArray.mk (c :: r).toArray := ⟨_, rfl⟩
      have hsz : 0 < S.size := by rw [hS]; exact Nat.succ_pos _
      have hsz2 : S.size ≤ 1000 := by rw [hS]; exact hl
      rw [← hS] at c0
      clear hS hl
      go_enter Try.func27, Try.ntmps27
      go_wp2
      go_returns
      exact ⟨rfl, rfl⟩

theorem rYes_nil : rYes (some []) = (false, none) := by decide
theorem rYes_low (c : UInt8) (r : List UInt8) (h : c.toNat ≤ 1) : rYes (some (c :: r)) = (decide (c.toNat = 1), some r) := by
  have e : numAt 0 0 (c :: r) = some (c.toNat, 1) := by simp only [numAt]; rw [if_neg (by omega), if_neg (by omega), if_neg (by omega)]; simp
  simp only [rYes, rNum, e, if_pos h]
  rfl
theorem rYes_high (c : UInt8) (r : List UInt8) (h : 1 < c.toNat) : rYes (some (c :: r)) = (false, none) := by
  have e : rNum 1 (some (c :: r)) = (0, none) := by
    cases hn : numAt 0 0 (c :: r) with
    | none => simp only [rNum, hn]
    | some x =>
      obtain ⟨v, n⟩ := x
      have hz := numAt_zero _ v n hn
      have hv : ¬ v ≤ 1 := by
        intro hv
        rw [Lib.uvarint_small (by omega)] at hz
        obtain ⟨k, rfl⟩ : ∃ k, n = k + 1 := ⟨n - 1, by omega⟩
        rw [List.take_succ_cons] at hz
        have := (List.cons.inj hz.1).1
        rw [this, Lib.toUInt8_toNat (by omega)] at h
        omega
      simp only [rNum, hn, if_neg hv]
  simp only [rYes, e]
  rfl

set_option maxHeartbeats 1000000 in
theorem refryes_any (h : Nat) (st : Option (List UInt8)) (w : World) (hR : RRdr w h st) (hm : ∀ l, st = some l → l.length ≤ 1000) :
    Calls Try.prog 25 #[.pointer (some ⟨h, 0, none⟩)] w fun e w' => e = .returned (.bool (rYes st).1) ∧ RRdr w' h (rYes st).2 ∧ w.grownBy w' (some h) := by
  cases st with
  | none =>
    obtain ⟨e0, hb⟩ := hR
    have c0 := cell_of_two0 hb
    have c1 := cell_of_two1 hb
    have HB := Lib.hid hb
    clear hb hm
    go_enter Try.func25, Try.ntmps25
    go_wp2_with fail
    refine (refrwrong_any h _ _ e0 _ HB.out).mono ?_
    rintro e w1 ⟨rfl, h1, h2⟩
    go_wp2
    go_returns
    exact ⟨rfl, h1, h2⟩
  | some l =>
    obtain ⟨e0, hb⟩ := hR
    have c0 := cell_of_two0 hb
    have c1 := cell_of_two1 hb
    have f0 := free_of_two hb 0
    have HB := Lib.hid hb
    have hl := hm l rfl
    clear hb hm
    cases l with
    | nil =>
      rw [rYes_nil]
      go_enter Try.func25, Try.ntmps25
      go_wp2_with fail
      refine (refrwrong_any h _ _ e0 _ HB.out).mono ?_
      rintro e w1 ⟨rfl, h1, h2⟩
      go_wp2
      go_returns
      exact ⟨rfl, h1, h2⟩
    | cons c r =>
      obtain ⟨S, hS⟩ : ∃ S, S = ByteArray.mk (c :: r).toArray := ⟨_, rfl⟩
      have hsz : 0 < S.size := by rw [hS]; exact Nat.succ_pos _
      have hsz2 : S.size ≤ 1000 := by rw [hS]; exact hl
      have hz : ((S.size : Int) == 0) = false := by rw [beq_eq_false_iff_ne]; omega
      have hS0 : (S[0]).toNat = c.toNat := by subst hS; rfl
      have HX : Hid (S.extract 1 S.size = ByteArray.mk r.toArray) := by
        show _ = _
        rw [hS]
        apply ByteArray.ext
        have h1 : (ByteArray.mk (c :: r).toArray).size = (c :: r).length := List.size_toArray
        rw [h1]
        simp
      rw [← hS] at c0 HB
      clear hS hl
      have hc256 := c.toNat_lt
      by_cases hc : c.toNat ≤ 1
      · rw [rYes_low c r hc]
        obtain ⟨m, hm⟩ : ∃ m, c.toNat = m := ⟨_, rfl⟩
        rw [hm] at hS0 hc hc256 ⊢
        clear hm
        go_enter Try.func25, Try.ntmps25
        go_wp2
        go_returns
        rw [HX.out]
        exact ⟨ret_bool (by rw [Bool.eq_iff_iff]; simp; omega), ⟨_, two_setCell0 HB.out⟩, grownBy_setCell _ _ _ _⟩
      · rw [rYes_high c r (Nat.lt_of_not_le hc)]
        obtain ⟨m, hm⟩ : ∃ m, c.toNat = m := ⟨_, rfl⟩
        rw [hm] at hS0 hc hc256
        have hc1 : 1 < m := Nat.lt_of_not_le hc
        clear hm hc
        go_enter Try.func25, Try.ntmps25
        go_wp2_with fail
        refine (refrwrong_any h _ _ e0 _ HB.out).mono ?_
        rintro e w1 ⟨rfl, h1, h2⟩
        go_wp2
        go_returns
        exact ⟨rfl, h1, h2⟩

theorem rNum_len (M : Nat) (st : Option (List UInt8)) (b : Nat) (hm : ∀ l, st = some l → l.length ≤ b) : ∀ l, (rNum M st).2 = some l → l.length ≤ b := by
  intro l hl
  cases st with
  | none => simp [rNum] at hl
  | some l0 =>
    simp only [rNum] at hl
    split at hl
    · cases hl
    · split at hl
      · simp only [Option.some.injEq] at hl
        subst hl
        have := hm l0 rfl
        simp; omega
      · cases hl

set_option maxHeartbeats 1000000 in
theorem refrtext_any (h : Nat) (st : Option (List UInt8)) (most : Int) (M : Nat) (hM : M ≤ 9223372036854775807) (hmm : (most < 0 ∧ M = 0) ∨ most = (M : Int)) (w : World) (hR : RRdr w h st) (hm : ∀ l, st = some l → l.length ≤ 1000) :
    Calls Try.prog 23 #[.pointer (some ⟨h, 0, none⟩), .int .i64 most] w fun e w' => e = .returned (.string ⟨(rText M st).1.toArray⟩) ∧ RRdr w' h (rText M st).2 ∧ w.grownBy w' (some h) := by
  have H := Lib.hid (refrnum_any h st M w hR hm)
  have hm2 := rNum_len M st 1000 hm
  clear hR hm
  unfold rText
  obtain ⟨V, hV⟩ : ∃ V, V = (rNum M st).1 := ⟨_, rfl⟩
  obtain ⟨st1, hst1⟩ : ∃ x, x = (rNum M st).2 := ⟨_, rfl⟩
  have e0 : rNum M st = (V, st1) := by rw [hV, hst1]
  rw [e0] at H hm2 ⊢
  simp only at H hm2
  clear hV hst1 e0
  cases st1 with
  | none =>
    rcases hmm with ⟨hn, rfl⟩ | rfl
    all_goals
      go_enter Try.func23, Try.ntmps23
      go_wp2_with fail
      refine H.out.mono ?_
      rintro e w1 ⟨rfl, ⟨e0, hb⟩, h2⟩
      have c0 := cell_of_two0 hb
      have c1 := cell_of_two1 hb
      have HB := Lib.hid hb
      clear hb
      go_wp2_with fail
      refine (refrwrong_any h _ _ e0 _ HB.out).mono ?_
      rintro e w2 ⟨rfl, h3, h4⟩
      go_wp2
      go_returns
      exact ⟨rfl, h3, grownBy_trans h2 h4⟩
  | some l =>
    have hl := hm2 l rfl
    clear hm2
    have hsz : (ByteArray.mk l.toArray).size = l.length := List.size_toArray
    by_cases hVl : V ≤ l.length
    · have HE : Hid (rTextOf (V, some l) = (l.take V, some (l.drop V))) := by show _ = _; simp only [rTextOf, if_pos hVl]
      obtain ⟨S, hS⟩ : ∃ S, S = ByteArray.mk l.toArray := ⟨_, rfl⟩
      have HX1 : Hid (S.extract 0 V = ByteArray.mk (l.take V).toArray) := by
        show _ = _
        rw [hS]
        apply ByteArray.ext
        simp
      have HX2 : Hid (S.extract V S.size = ByteArray.mk (l.drop V).toArray) := by
        show _ = _
        rw [hS]
        apply ByteArray.ext
        rw [hsz]
        simp
        rw [List.take_of_length_le (by simp)]
      have hss : S.size ≤ 1000 := by rw [hS, hsz]; exact hl
      have hVS : V ≤ S.size := by rw [hS, hsz]; exact hVl
      have hgt : ¬ S.size < V := by omega
      have HSE := Lib.hid hS
      clear hsz hS hl hVl
      rcases hmm with ⟨hn, rfl⟩ | rfl
      all_goals
        go_enter Try.func23, Try.ntmps23
        go_wp2_with fail
        refine H.out.mono ?_
        rintro e w1 ⟨rfl, ⟨e0, hb⟩, h2⟩
        rw [← HSE.out] at hb
        have c0 := cell_of_two0 hb
        have c1 := cell_of_two1 hb
        have f0 := free_of_two hb 0
        have HB := Lib.hid hb
        clear hb
        go_wp2_with fail
        go_returns
        rw [HE.out, HX1.out, HX2.out]
        exact ⟨rfl, ⟨_, two_setCell0 HB.out⟩, grownBy_trans h2 (grownBy_setCell _ _ _ _)⟩
    · have HE : Hid (rTextOf (V, some l) = ([], none)) := by show _ = _; simp only [rTextOf, if_neg hVl]
      obtain ⟨S, hS⟩ : ∃ S, S = ByteArray.mk l.toArray := ⟨_, rfl⟩
      have hss : S.size ≤ 1000 := by rw [hS, hsz]; exact hl
      have hgt : S.size < V := by rw [hS, hsz]; omega
      have HSE := Lib.hid hS
      clear hsz hS hl hVl
      rcases hmm with ⟨hn, rfl⟩ | rfl
      all_goals
        go_enter Try.func23, Try.ntmps23
        go_wp2_with fail
        refine H.out.mono ?_
        rintro e w1 ⟨rfl, ⟨e0, hb⟩, h2⟩
        rw [← HSE.out] at hb
        have c0 := cell_of_two0 hb
        have c1 := cell_of_two1 hb
        have HB := Lib.hid hb
        clear hb
        go_wp2_with fail
        refine (refrwrong_any h _ _ e0 _ HB.out).mono ?_
        rintro e w2 ⟨rfl, h3, h4⟩
        go_wp2
        go_returns
        rw [HE.out]
        exact ⟨rfl, h3, grownBy_trans h2 h4⟩
end Go.Proofs.Ythnkipbbeiadjaa
