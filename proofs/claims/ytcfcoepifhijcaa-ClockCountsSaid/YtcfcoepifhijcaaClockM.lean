/-
  CLOCKS IN TURN, AND ONE ALONE: plain mathematics. No condition.
-/
import Derived.Test.YtcfcoepifhijcaaClockF
namespace Go.Proofs.Ytcfcoepifhijcaa
open Go.RowKit

/-- What ticks one behind the other make. -/
def runS (n : Nat) : CkS → List Int → Option CkS
  | s, [] => some s
  | s, k :: r => (stepS n s k).bind fun s' => runS n s' r
theorem fair_run (n : Nat) (L : List Int) : ∀ s, fairS n s L = (runS n s L).isSome := by
  induction L with
  | nil => intro s; rfl
  | cons k r ih =>
    intro s
    simp only [fairS, runS]
    cases stepS n s k with
    | none => rfl
    | some s' => exact ih s'
theorem run_append (n : Nat) (A B : List Int) : ∀ s, runS n s (A ++ B) = (runS n s A).bind fun s' => runS n s' B := by
  induction A with
  | nil => intro s; rfl
  | cons k r ih =>
    intro s
    simp only [List.cons_append, runS]
    cases stepS n s k with
    | none => rfl
    | some s' => exact ih s'
/-- The first j clocks, each once. -/
def rowTo (j : Nat) : List Int := (List.range j).map fun (x : Nat) => (x : Int)
theorem rowTo_succ (j : Nat) : rowTo (j + 1) = rowTo j ++ [(j : Int)] := by simp [rowTo, List.range_succ]
theorem rowTo_len (j : Nat) : (rowTo j).length = j := by simp [rowTo]
/-- So many turns of k clocks. -/
def turnsL (k : Nat) : Nat → List Int
  | 0 => []
  | t + 1 => turnsL k t ++ rowTo k
theorem turnsL_len (k t : Nat) : (turnsL k t).length = t * k := by
  induction t with
  | zero => simp [turnsL]
  | succ t ih => rw [turnsL, List.length_append, ih, rowTo_len, Nat.succ_mul]

/-- The clocks ahead of i have ticked once more than the others, and all may tick. -/
def Rdy (k : Nat) (s : CkS) (i : Nat) : Prop := (∃ c, c ≤ 1 ∧ ∀ j, j < k → s.g j = if j < i then c + 1 else c) ∨ (i = 0 ∧ ∀ j, j < k → s.g j = 2)
theorem canT_yes {n : Nat} {s : CkS} {i : Nat} (hi : i < n) (h : s.g i ≤ 1) : canT n s i = true := decide_eq_true ⟨by omega, by omega, h⟩
theorem canT_full {n : Nat} {s : CkS} {i : Nat} (h : 1 < s.g i) : canT n s i = false := decide_eq_false fun x => by have := x.2.2; simp at this; omega
theorem tick_g {n : Nat} {s : CkS} {i : Nat} (hi : i < n) (h : s.g i ≤ 1) : (tickS n s i).g = upF s.g i (s.g i + 1) := by
  unfold tickS
  rw [if_pos (canT_yes hi h)]
  rfl
theorem tick_f {n : Nat} {s : CkS} {i : Nat} (hi : i < n) (h : s.g i ≤ 1) : (tickS n s i).f = upF s.f i (s.f i + 1) := by
  unfold tickS
  rw [if_pos (canT_yes hi h)]
  rfl
theorem step_tick {n : Nat} {s : CkS} {i : Nat} (hi : i < n) (h : s.g i ≤ 1) : stepS n s i = some (tickS n s i) := by unfold stepS; rw [if_pos (canT_yes hi h)]
theorem canR_yes {n : Nat} {s : CkS} (h : ∀ j, j < n → s.g j ≠ 0) : canR n s = true := decide_eq_true fun ⟨j, hj, h0⟩ => h j hj h0
theorem canR_no {n : Nat} {s : CkS} {j : Nat} (hj : j < n) (h : s.g j = 0) : canR n s = false := decide_eq_false fun x => x ⟨j, hj, h⟩
theorem round_g {n : Nat} {s : CkS} (h : canR n s = true) : (roundS n s).g = fun _ => 0 := by unfold roundS; rw [if_pos h]
theorem step_round {n : Nat} {s : CkS} {i : Nat} (hi : i < n) (h : 1 < s.g i) (hr : canR n s = true) : stepS n s i = some (tickS n (roundS n s) i) := by
  unfold stepS
  rw [canT_full h, hr, if_neg (by decide), if_pos rfl, if_pos (canT_yes hi (by rw [round_g hr]; exact Nat.zero_le _))]
theorem step_none {n : Nat} {s : CkS} {i : Nat} (h : 1 < s.g i) (hr : canR n s = false) : stepS n s i = none := by
  unfold stepS
  rw [canT_full h, hr, if_neg (by decide), if_neg (by decide)]
theorem round_tick_g {n : Nat} {s : CkS} {i : Nat} (hi : i < n) (hr : canR n s = true) : (tickS n (roundS n s) i).g = upF (fun _ => 0) i 1 := by
  rw [tick_g hi (by rw [round_g hr]; exact Nat.zero_le _), round_g hr]

theorem rdy_step {k : Nat} {s : CkS} {i : Nat} (hi : i < k) (H : Rdy k s i) : ∃ s', stepS k s i = some s' ∧ Rdy k s' (i + 1) := by
  rcases H with ⟨c, hc, h⟩ | ⟨rfl, h⟩
  · have hg : s.g i = c := by rw [h i hi, if_neg (by omega)]
    refine ⟨_, step_tick hi (by omega), .inl ⟨c, hc, fun j hj => ?_⟩⟩
    rw [tick_g hi (by omega)]
    by_cases e : j = i
    · subst e; rw [upF_same, hg, if_pos (by omega)]
    · rw [upF_other _ e, h j hj]
      by_cases hji : j < i
      · rw [if_pos hji, if_pos (by omega)]
      · rw [if_neg hji, if_neg (by omega)]
  · have hr : canR k s = true := canR_yes fun j hj e => by have := h j hj; omega
    refine ⟨_, step_round hi (by rw [h 0 hi]; decide) hr, .inl ⟨0, by omega, fun j hj => ?_⟩⟩
    rw [round_tick_g hi hr]
    by_cases e : j = 0
    · subst e; rw [upF_same, if_pos (by omega)]
    · rw [upF_other _ e, if_neg (by omega)]
theorem rdy_wrap {k : Nat} {s : CkS} (H : Rdy k s k) (hk : 0 < k) : Rdy k s 0 := by
  rcases H with ⟨c, hc, h⟩ | ⟨rfl, _⟩
  · rcases (show c = 0 ∨ c = 1 by omega) with rfl | rfl
    · exact .inl ⟨1, Nat.le_refl _, fun j hj => by rw [h j hj, if_pos hj, if_neg (by omega)]⟩
    · exact .inr ⟨rfl, fun j hj => by rw [h j hj, if_pos hj]⟩
  · omega
theorem row_run {k : Nat} {s : CkS} (H : Rdy k s 0) : ∀ j, j ≤ k → ∃ s', runS k s (rowTo j) = some s' ∧ Rdy k s' j := by
  intro j
  induction j with
  | zero => intro _; exact ⟨s, rfl, H⟩
  | succ j ih =>
    intro hj
    obtain ⟨s1, h1, h2⟩ := ih (by omega)
    obtain ⟨s2, h3, h4⟩ := rdy_step (by omega) h2
    refine ⟨s2, ?_, h4⟩
    rw [rowTo_succ, run_append, h1]
    simp only [Option.bind_some, runS]
    rw [h3]
    rfl
theorem turns_run {k : Nat} (hk : 0 < k) : ∀ t, ∃ s', runS k .zero (turnsL k t) = some s' ∧ Rdy k s' 0 := by
  intro t
  induction t with
  | zero => exact ⟨_, rfl, .inl ⟨0, by omega, fun j _ => by rw [if_neg (by omega)]; rfl⟩⟩
  | succ t ih =>
    obtain ⟨s1, h1, h2⟩ := ih
    obtain ⟨s2, h3, h4⟩ := row_run h2 k (Nat.le_refl _)
    exact ⟨s2, by rw [turnsL, run_append, h1]; exact h3, rdy_wrap h4 hk⟩

/-- One clock alone always ticks. -/
theorem alone_run : ∀ (m : Nat) (s : CkS), ∃ s', runS 1 s (List.replicate m 0) = some s' := by
  intro m
  induction m with
  | zero => exact fun s => ⟨s, rfl⟩
  | succ m ih =>
    intro s
    have h : ∃ s', stepS 1 s ((0 : Nat) : Int) = some s' := by
      by_cases hg : s.g 0 ≤ 1
      · exact ⟨_, step_tick (by decide) hg⟩
      · have hr : canR 1 s = true := canR_yes fun j hj => by
          have e : j = 0 := by omega
          subst e
          omega
        exact ⟨_, step_round (by decide) (by omega) hr⟩
    obtain ⟨s1, h1⟩ := h
    obtain ⟨s2, h2⟩ := ih s1
    exact ⟨s2, by rw [List.replicate_succ]; simp only [runS]; rw [show (0 : Int) = ((0 : Nat) : Int) from rfl, h1]; exact h2⟩
/-- While another one has not ticked, it ticks twice at most. -/
theorem still_run {n w j : Nat} (hw : w < n) (hj : j < n) (hne : j ≠ w) : ∀ (m : Nat) (s s' : CkS), s.g j = 0 → runS n s (List.replicate m (w : Int)) = some s' → m = 0 ∨ s.g w + m ≤ 2 := by
  intro m
  induction m with
  | zero => intro _ _ _ _; exact .inl rfl
  | succ m ih =>
    intro s s' h0 hr
    rw [List.replicate_succ] at hr
    simp only [runS] at hr
    by_cases hg : s.g w ≤ 1
    · rw [step_tick hw hg] at hr
      simp only [Option.bind_some] at hr
      have := ih _ s' (by rw [tick_g hw hg, upF_other _ hne]; exact h0) hr
      rw [tick_g hw hg, upF_same] at this
      omega
    · rw [step_none (by omega) (canR_no hj h0)] at hr
      cases hr
theorem lone_run {n w j : Nat} (hw : w < n) (hj : j < n) (hne : j ≠ w) : ∀ (m : Nat) (s s' : CkS), runS n s (List.replicate m (w : Int)) = some s' → m + min 2 (s.g w) ≤ 4 := by
  intro m
  induction m with
  | zero => intro _ _ _; omega
  | succ m ih =>
    intro s s' hr
    rw [List.replicate_succ] at hr
    simp only [runS] at hr
    by_cases hg : s.g w ≤ 1
    · rw [step_tick hw hg] at hr
      simp only [Option.bind_some] at hr
      have := ih _ s' hr
      rw [tick_g hw hg, upF_same] at this
      omega
    · cases hc : canR n s with
      | false => rw [step_none (by omega) hc] at hr; cases hr
      | true =>
        rw [step_round hw (by omega) hc] at hr
        simp only [Option.bind_some] at hr
        have := still_run hw hj hne m _ s' (by rw [round_tick_g hw hc, upF_other _ hne]) hr
        rw [round_tick_g hw hc, upF_same] at this
        omega
theorem bad_none {n w : Nat} (hw : w < n) (hn : n ≠ 1) (s : CkS) : runS n s (List.replicate 5 (w : Int)) = none := by
  cases h : runS n s (List.replicate 5 (w : Int)) with
  | none => rfl
  | some s' =>
    obtain ⟨j, hj, hne⟩ : ∃ j, j < n ∧ j ≠ w := by
      by_cases h0 : w = 0
      · exact ⟨1, by omega, by omega⟩
      · exact ⟨0, by omega, by omega⟩
    have := lone_run hw hj hne 5 s s' h
    omega

theorem fair_turns {k : Nat} (h1 : 0 < k) (h9 : k ≤ 9) (t : Nat) : fairV k (turnsL k t) = true := by
  unfold fairV
  rw [if_pos ⟨by omega, by omega⟩, fair_run]
  obtain ⟨s, h, _⟩ := turns_run h1 t
  rw [show ((k : Nat) : Int).toNat = k by omega, h]
  rfl
theorem fair_bad {k w : Nat} (h1 : 0 < k) (h9 : k ≤ 9) (hw : w < k) (t : Nat) : fairV k (turnsL k t ++ [(w : Int), w, w, w, w]) = ((k : Int) == 1) := by
  unfold fairV
  rw [if_pos ⟨by omega, by omega⟩, fair_run]
  obtain ⟨s, h, _⟩ := turns_run h1 t
  rw [show ((k : Nat) : Int).toNat = k by omega, run_append, h]
  simp only [Option.bind_some]
  have e : [(w : Int), w, w, w, w] = List.replicate 5 (w : Int) := rfl
  rw [e]
  by_cases hk : k = 1
  · subst hk
    obtain rfl : w = 0 := by omega
    obtain ⟨s', h'⟩ := alone_run 5 s
    have h2 : runS 1 s (List.replicate 5 (((0 : Nat)) : Int)) = some s' := h'
    rw [h2]
    rfl
  · rw [bad_none hw hk s]
    exact (beq_eq_false_iff_ne.2 (by omega)).symm
theorem fair_out {k : Nat} (h1 : 0 < k) (h9 : k ≤ 9) : fairV k [(k : Int)] = false := by
  unfold fairV
  rw [if_pos ⟨by omega, by omega⟩]
  have ht : canT k .zero (k : Int) = false := decide_eq_false fun x => by have := x.2.1; omega
  have hr : canR k .zero = false := canR_no h1 rfl
  simp only [fairS]
  rw [show ((k : Nat) : Int).toNat = k by omega]
  have : stepS k .zero (k : Int) = none := by unfold stepS; rw [ht, hr]; rfl
  rw [this]
theorem fair_zero (L : List Int) : fairV 0 L = false := rfl
end Go.Proofs.Ytcfcoepifhijcaa
