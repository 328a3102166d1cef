/-
  THE REFERENCE'S READER: Num when it is wrong, Text, Yes, End behind any calls, each as the same plain function as the program's own. No condition but lengths.
-/
import Derived.Test.YtocedkdgmhegeaaPackRef
namespace Go.Proofs.Ytocedkdgmhegeaa
open Go.RowKit

set_option maxHeartbeats 1000000 in
theorem refrnum_none (h most : Nat) (w : World) (hR : RRdr w h none) :
    Calls Try.prog 38 #[.pointer (some ⟨h, 0, none⟩), .int .u64 most] w fun e w' => e = .returned (.int .u64 0) ∧ RRdr w' h none ∧ w.grownBy w' (some h) := by
  obtain ⟨e0, hb⟩ := hR
  have c0 := cell_of_two0 hb
  have c1 := cell_of_two1 hb
  have HB := Lib.hid hb
  clear hb
  go_enter Try.func38, Try.ntmps38
  go_wp2
  refine wp_loop_rounds 1 ?_
  rw [rounds_succ]
  go_wp2_with fail
  refine (refrwrong_any h _ _ e0 _ HB.out).mono ?_
  rintro e w1 ⟨rfl, h1, h2⟩
  go_wp2
  go_returns
  exact ⟨rfl, h1, h2⟩

theorem refrnum_any (h : Nat) (st : Option (List UInt8)) (most : Nat) (w : World) (hR : RRdr w h st) (hm : ∀ l, st = some l → l.length ≤ 1000) :
    Calls Try.prog 38 #[.pointer (some ⟨h, 0, none⟩), .int .u64 most] w fun e w' => e = .returned (.int .u64 (rNum most st).1) ∧ RRdr w' h (rNum most st).2 ∧ w.grownBy w' (some h) := by
  cases st with
  | none => exact refrnum_none h most w hR
  | some l => exact refrnum_some h l most w hR (hm l rfl)

set_option maxHeartbeats 400000 in
theorem refrend_any (h : Nat) (st : Option (List UInt8)) (w : World) (hR : RRdr w h st) (hm : ∀ l, st = some l → l.length ≤ 1000) :
    Calls Try.prog 40 #[.pointer (some ⟨h, 0, none⟩)] w fun e w' => e = .returned (.int .i64 (rEnd st)) ∧ w = w' := by
  cases st with
  | none =>
    obtain ⟨e0, hb⟩ := hR
    have c0 := cell_of_two0 hb
    have c1 := cell_of_two1 hb
    clear hb hm
    go_enter Try.func40, Try.ntmps40
    go_wp2
    go_returns
    exact ⟨rfl, rfl⟩
  | some l =>
    obtain ⟨e0, hb⟩ := hR
    have c0 := cell_of_two0 hb
    have c1 := cell_of_two1 hb
    have hl := hm l rfl
    clear hb hm
    cases l with
    | nil =>
      go_enter Try.func40, Try.ntmps40
      go_wp2
      go_returns
      exact ⟨rfl, rfl⟩
    | cons c r =>
      obtain ⟨S, hS⟩ : ∃ S, S = ByteArray.mk (c :: r).toArray := ⟨_, rfl⟩
      have hsz : 0 < S.size := by rw [hS]; exact Nat.succ_pos _
      have hsz2 : S.size ≤ 1000 := by rw [hS]; exact hl
      rw [← hS] at c0
      clear hS hl
      go_enter Try.func40, Try.ntmps40
      go_wp2
      go_returns
      exact ⟨rfl, rfl⟩


theorem rNum_len (M : Nat) (st : Option (List UInt8)) (b : Nat) (hm : ∀ l, st = some l → l.length ≤ b) : ∀ l, (rNum M st).2 = some l → l.length ≤ b := by
  intro l hl
  cases st with
  | none => simp [rNum] at hl
  | some l0 =>
    simp only [rNum] at hl
    split at hl
    · cases hl
    · split at hl
      · simp only [Option.some.injEq] at hl
        subst hl
        have := hm l0 rfl
        simp; omega
      · cases hl

set_option maxHeartbeats 1000000 in
theorem refrtext_any (h : Nat) (st : Option (List UInt8)) (most : Int) (M : Nat) (hM : M ≤ 9223372036854775807) (hmm : (most < 0 ∧ M = 0) ∨ most = (M : Int)) (w : World) (hR : RRdr w h st) (hm : ∀ l, st = some l → l.length ≤ 1000) :
    Calls Try.prog 39 #[.pointer (some ⟨h, 0, none⟩), .int .i64 most] w fun e w' => e = .returned (.string ⟨(rText M st).1.toArray⟩) ∧ RRdr w' h (rText M st).2 ∧ w.grownBy w' (some h) := by
  have H := Lib.hid (refrnum_any h st M w hR hm)
  have hm2 := rNum_len M st 1000 hm
  clear hR hm
  unfold rText
  obtain ⟨V, hV⟩ : ∃ V, V = (rNum M st).1 := ⟨_, rfl⟩
  obtain ⟨st1, hst1⟩ : ∃ x, x = (rNum M st).2 := ⟨_, rfl⟩
  have e0 : rNum M st = (V, st1) := by rw [hV, hst1]
  rw [e0] at H hm2 ⊢
  simp only at H hm2
  clear hV hst1 e0
  cases st1 with
  | none =>
    rcases hmm with ⟨hn, rfl⟩ | rfl
    all_goals
      go_enter Try.func39, Try.ntmps39
      go_wp2_with fail
      refine H.out.mono ?_
      rintro e w1 ⟨rfl, ⟨e0, hb⟩, h2⟩
      have c0 := cell_of_two0 hb
      have c1 := cell_of_two1 hb
      have HB := Lib.hid hb
      clear hb
      go_wp2_with fail
      refine (refrwrong_any h _ _ e0 _ HB.out).mono ?_
      rintro e w2 ⟨rfl, h3, h4⟩
      go_wp2
      go_returns
      exact ⟨rfl, h3, grownBy_trans h2 h4⟩
  | some l =>
    have hl := hm2 l rfl
    clear hm2
    have hsz : (ByteArray.mk l.toArray).size = l.length := List.size_toArray
    by_cases hVl : V ≤ l.length
    · have HE : Hid (rTextOf (V, some l) = (l.take V, some (l.drop V))) := by show _ = _; simp only [rTextOf, if_pos hVl]
      obtain ⟨S, hS⟩ : ∃ S, S = ByteArray.mk l.toArray := ⟨_, rfl⟩
      have HX1 : Hid (S.extract 0 V = ByteArray.mk (l.take V).toArray) := by
        show _ = _
        rw [hS]
        apply ByteArray.ext
        simp
      have HX2 : Hid (S.extract V S.size = ByteArray.mk (l.drop V).toArray) := by
        show _ = _
        rw [hS]
        apply ByteArray.ext
        rw [hsz]
        simp
        rw [List.take_of_length_le (by simp)]
      have hss : S.size ≤ 1000 := by rw [hS, hsz]; exact hl
      have hVS : V ≤ S.size := by rw [hS, hsz]; exact hVl
      have hgt : ¬ S.size < V := by omega
      have HSE := Lib.hid hS
      clear hsz hS hl hVl
      rcases hmm with ⟨hn, rfl⟩ | rfl
      all_goals
        go_enter Try.func39, Try.ntmps39
        go_wp2_with fail
        refine H.out.mono ?_
        rintro e w1 ⟨rfl, ⟨e0, hb⟩, h2⟩
        rw [← HSE.out] at hb
        have c0 := cell_of_two0 hb
        have c1 := cell_of_two1 hb
        have f0 := free_of_two hb 0
        have HB := Lib.hid hb
        clear hb
        go_wp2_with fail
        go_returns
        rw [HE.out, HX1.out, HX2.out]
        exact ⟨rfl, ⟨_, two_setCell0 HB.out⟩, grownBy_trans h2 (grownBy_setCell _ _ _ _)⟩
    · have HE : Hid (rTextOf (V, some l) = ([], none)) := by show _ = _; simp only [rTextOf, if_neg hVl]
      obtain ⟨S, hS⟩ : ∃ S, S = ByteArray.mk l.toArray := ⟨_, rfl⟩
      have hss : S.size ≤ 1000 := by rw [hS, hsz]; exact hl
      have hgt : S.size < V := by rw [hS, hsz]; omega
      have HSE := Lib.hid hS
      clear hsz hS hl hVl
      rcases hmm with ⟨hn, rfl⟩ | rfl
      all_goals
        go_enter Try.func39, Try.ntmps39
        go_wp2_with fail
        refine H.out.mono ?_
        rintro e w1 ⟨rfl, ⟨e0, hb⟩, h2⟩
        rw [← HSE.out] at hb
        have c0 := cell_of_two0 hb
        have c1 := cell_of_two1 hb
        have HB := Lib.hid hb
        clear hb
        go_wp2_with fail
        refine (refrwrong_any h _ _ e0 _ HB.out).mono ?_
        rintro e w2 ⟨rfl, h3, h4⟩
        go_wp2
        go_returns
        rw [HE.out]
        exact ⟨rfl, h3, grownBy_trans h2 h4⟩
end Go.Proofs.Ytocedkdgmhegeaa
