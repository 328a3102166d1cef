/-
  CLOCKS ARE NEARLY ALIKE: plain mathematics. No condition.
-/
import Derived.Test.YtcfcoepifhijcaaClockM
namespace Go.Proofs.Ytcfcoepifhijcaa
open Go.RowKit

/-- From s0 on R rounds have passed: what each clock has shown since. -/
def Near (k : Nat) (s0 s : CkS) : Prop := ∃ R : Nat, ∀ j, j < k → s.f j ≤ s0.f j + 2 * R + s.g j ∧ s0.f j ≤ s.f j ∧ (1 ≤ R → s0.f j + R + s.g j ≤ s.f j + 1) ∧ s.g j ≤ 2
/-- None has ticked more than twice since the last Round. -/
def TwoG (k : Nat) (s : CkS) : Prop := ∀ j, j < k → s.g j ≤ 2
theorem two_zero (k : Nat) : TwoG k .zero := fun _ _ => Nat.zero_le _
theorem near_refl {k : Nat} {s : CkS} (h : TwoG k s) : Near k s s := ⟨0, fun j hj => ⟨by omega, Nat.le_refl _, fun h => by omega, h j hj⟩⟩
theorem near_tick {k : Nat} {s0 s : CkS} (H : Near k s0 s) {t : Nat} (ht : t < k) (hg : s.g t ≤ 1) : Near k s0 (tickS k s t) := by
  obtain ⟨R, h⟩ := H
  refine ⟨R, fun j hj => ?_⟩
  obtain ⟨h1, h2, h3, h4⟩ := h j hj
  rw [tick_f ht hg, tick_g ht hg]
  by_cases e : j = t
  · subst e
    rw [upF_same, upF_same]
    exact ⟨by omega, by omega, fun hR => by have := h3 hR; omega, by omega⟩
  · rw [upF_other _ e, upF_other _ e]
    exact ⟨h1, h2, h3, h4⟩
theorem near_round {k : Nat} {s0 s : CkS} (H : Near k s0 s) (hr : canR k s = true) : Near k s0 (roundS k s) := by
  obtain ⟨R, h⟩ := H
  have hf : (roundS k s).f = s.f := by unfold roundS; rw [if_pos hr]
  have hnz : ∀ j, j < k → s.g j ≠ 0 := fun j hj h0 => (of_decide_eq_true hr : ¬ ∃ j, j < k ∧ s.g j = 0) ⟨j, hj, h0⟩
  refine ⟨R + 1, fun j hj => ?_⟩
  obtain ⟨h1, h2, h3, h4⟩ := h j hj
  have h5 := hnz j hj
  have h0 : (roundS k s).g j = 0 := by rw [round_g hr]
  rw [hf, h0]
  refine ⟨by omega, h2, fun _ => ?_, by omega⟩
  by_cases hR : 1 ≤ R
  · have := h3 hR; omega
  · omega
theorem two_tick {k : Nat} {s : CkS} (H : TwoG k s) {t : Nat} (ht : t < k) (hg : s.g t ≤ 1) : TwoG k (tickS k s t) := fun j hj => by
  rw [tick_g ht hg]
  by_cases e : j = t
  · subst e; rw [upF_same]; omega
  · rw [upF_other _ e]; exact H j hj
theorem two_round {k : Nat} {s : CkS} (hr : canR k s = true) : TwoG k (roundS k s) := fun j _ => by rw [round_g hr]; exact Nat.zero_le _
theorem near_end {k : Nat} {s0 s : CkS} (H : Near k s0 s) {i j : Nat} (hi : i < k) (hj : j < k) : (s.f i : Int) - s0.f i ≤ 2 * ((s.f j : Int) - s0.f j) + 4 := by
  obtain ⟨R, h⟩ := H
  obtain ⟨a1, a2, a3, a4⟩ := h i hi
  obtain ⟨b1, b2, b3, b4⟩ := h j hj
  by_cases hR : 1 ≤ R
  · have := b3 hR; omega
  · omega
/-- What such clocks do when t is to tick. -/
def advS (k : Nat) (s : CkS) (t : Nat) : CkS := if canT k s t then tickS k s t else if canR k s then tickS k (roundS k s) t else s
theorem adv_two {k : Nat} {s : CkS} (H : TwoG k s) {t : Nat} (ht : t < k) : TwoG k (advS k s t) := by
  unfold advS
  by_cases hg : s.g t ≤ 1
  · rw [if_pos (canT_yes ht hg)]; exact two_tick H ht hg
  · rw [canT_full (Nat.lt_of_not_le hg), if_neg (by decide)]
    cases hr : canR k s with
    | true => rw [if_pos rfl]; exact two_tick (two_round hr) ht (by rw [round_g hr]; exact Nat.zero_le _)
    | false => rw [if_neg (by decide)]; exact H
theorem adv_near {k : Nat} {s0 s : CkS} (H : Near k s0 s) {t : Nat} (ht : t < k) : Near k s0 (advS k s t) := by
  unfold advS
  by_cases hg : s.g t ≤ 1
  · rw [if_pos (canT_yes ht hg)]; exact near_tick H ht hg
  · rw [canT_full (Nat.lt_of_not_le hg), if_neg (by decide)]
    cases hr : canR k s with
    | true => rw [if_pos rfl]; exact near_tick (near_round H hr) ht (by rw [round_g hr]; exact Nat.zero_le _)
    | false => rw [if_neg (by decide)]; exact H
theorem adv_upto {k : Nat} {s : CkS} {m : Nat} (H : s.upto m) (t : Nat) : (advS k s t).upto (m + 1) := by
  unfold advS
  split
  · exact H.tick _
  · split
    · exact H.round.tick _
    · exact H.mono (by omega)

/-- The first j clocks' numbers. -/
def rowL (j : Nat) (f : Nat → Nat) : List Int := (List.range j).map fun (x : Nat) => ((f x : Nat) : Int)
theorem rowL_succ (j : Nat) (f : Nat → Nat) : rowL (j + 1) f = rowL j f ++ [((f j : Nat) : Int)] := by simp [rowL, List.range_succ]
theorem rowL_len (j : Nat) (f : Nat → Nat) : (rowL j f).length = j := by simp [rowL]
theorem rowL_get {k j : Nat} (f : Nat → Nat) (h : j < k) : (rowL k f).getD j 0 = (f j : Nat) := by
  rw [List.getD_eq_getElem?_getD]; simp [rowL, h]

/-- What the two rows hold at step i, when all of it is done for the steps ahead. -/
structure Noted (k fr tt i : Nat) (s : CkS) (F G : List Int) : Prop where
  f0 : i ≤ fr → F = []
  g0 : i ≤ tt → G = []
  fk : fr < i → ∃ s0 : CkS, F = rowL k s0.f ∧ s0.upto 121 ∧ Near k s0 s
  gk : tt < i → ∃ s1 : CkS, G = rowL k s1.f ∧ s1.upto 121
  both : fr ≤ tt → tt < i → ∃ s0 s1 : CkS, F = rowL k s0.f ∧ G = rowL k s1.f ∧ s0.upto 121 ∧ s1.upto 121 ∧ Near k s0 s1
/-- The rows behind step i's notes, ahead of its tick. -/
theorem Noted.note {k fr tt i : Nat} {s : CkS} {F G : List Int} (H : Noted k fr tt i s F G) (h2 : TwoG k s) (hu : s.upto 121) {s' : CkS} (hn : ∀ s0, Near k s0 s → Near k s0 s') :
    Noted k fr tt (i + 1) s' (if i = fr then rowL k s.f else F) (if i = tt then rowL k s.f else G) := by
  refine ⟨fun h => ?_, fun h => ?_, fun h => ?_, fun h => ?_, fun hft h => ?_⟩
  · rw [if_neg (by omega)]; exact H.f0 (by omega)
  · rw [if_neg (by omega)]; exact H.g0 (by omega)
  · by_cases e : i = fr
    · rw [if_pos e]; exact ⟨s, rfl, hu, hn _ (near_refl h2)⟩
    · rw [if_neg e]
      obtain ⟨s0, h0, h1, h3⟩ := H.fk (by omega)
      exact ⟨s0, h0, h1, hn _ h3⟩
  · by_cases e : i = tt
    · rw [if_pos e]; exact ⟨s, rfl, hu⟩
    · rw [if_neg e]; exact H.gk (by omega)
  · by_cases e : i = tt
    · rw [if_pos e]
      by_cases e2 : i = fr
      · rw [if_pos e2]; exact ⟨s, s, rfl, rfl, hu, hu, near_refl h2⟩
      · rw [if_neg e2]
        obtain ⟨s0, h0, h1, h3⟩ := H.fk (by omega)
        exact ⟨s0, s, h0, rfl, h1, hu, h3⟩
    · rw [if_neg e, if_neg (by omega)]
      exact H.both hft (by omega)
end Go.Proofs.Ytcfcoepifhijcaa
