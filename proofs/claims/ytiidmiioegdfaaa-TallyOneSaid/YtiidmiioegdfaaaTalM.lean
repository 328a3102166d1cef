/-
  FIVE ACCEPTORS AND ONE COUNT, mathematics alone: each proposer's ballot is greater than all ahead of it; what a majority accepted is what a later one proposes. No condition.
-/
import Derived.Test.YtiidmiioegdfaaaTalV
namespace Go.Proofs.Ytiidmiioegdfaaa
open Go.RowKit Go.Maps

def leB (a b c d : Int) : Prop := a < c ∨ a = c ∧ b ≤ d
def ltB (a b c d : Int) : Prop := a < c ∨ a = c ∧ b < d
instance (a b c d : Int) : Decidable (leB a b c d) := by unfold leB; infer_instance
theorem leB_refl (a b : Int) : leB a b a b := by unfold leB; omega
theorem leB_trans {a b c d e f : Int} (h : leB a b c d) (g : leB c d e f) : leB a b e f := by unfold leB at *; omega
theorem ltB_le {a b c d : Int} (h : ltB a b c d) : leB a b c d := by unfold ltB leB at *; omega
theorem ltB_not {a b c d : Int} (h : ltB a b c d) : ¬ leB c d a b := by unfold ltB leB at *; omega
theorem leB_lt {a b c d e f : Int} (h : leB a b c d) (g : ltB c d e f) : ltB a b e f := by unfold leB ltB at *; omega
theorem cmp_of_le {a b c d : Int} (h : leB c d a b) : ¬ cmpV a b c d < 0 := by
  unfold leB at h
  unfold cmpV
  split
  · omega
  · rw [if_neg (by omega)]; omega
theorem le_of_cmp {a b c d : Int} (h : cmpV a b c d ≤ 0) : leB a b c d := by
  unfold leB
  unfold cmpV at h
  split at h
  · omega
  · split at h <;> omega
theorem cmp_pos {a b c d : Int} : 0 < cmpV a b c d ↔ ltB c d a b := by
  unfold ltB cmpV
  split
  · omega
  · split <;> omega

/-- How many of the first k. -/
def cntB (f : Nat → Bool) : Nat → Nat
  | 0 => 0
  | k + 1 => cntB f k + (if f k = true then 1 else 0)
theorem cnt_meet {f g : Nat → Bool} (hf : 3 ≤ cntB f 5) (hg : 3 ≤ cntB g 5) : ∃ j, j < 5 ∧ f j = true ∧ g j = true := by
  refine Classical.byContradiction fun h => ?_
  have hj : ∀ j, j < 5 → (if f j = true then 1 else 0) + (if g j = true then 1 else 0) ≤ 1 := fun j hj => by
    by_cases h1 : f j = true
    · by_cases h2 : g j = true
      · exact absurd ⟨j, hj, h1, h2⟩ h
      · rw [if_pos h1, if_neg h2]; omega
    · rw [if_neg h1]
      split <;> omega
  have h0 := hj 0 (by omega)
  have h1 := hj 1 (by omega)
  have h2 := hj 2 (by omega)
  have h3 := hj 3 (by omega)
  have h4 := hj 4 (by omega)
  simp only [cntB] at hf hg
  omega
theorem cnt_mono {f g : Nat → Bool} : ∀ (n : Nat), (∀ j, j < n → f j = true → g j = true) → cntB f n ≤ cntB g n
  | 0, _ => Nat.le_refl _
  | n + 1, h => by
    have h1 := cnt_mono n (fun j hj => h j (by omega))
    unfold cntB
    by_cases hf : f n = true
    · rw [if_pos hf, if_pos (h n (by omega) hf)]; omega
    · rw [if_neg hf]; omega

/-- An acceptor behind a ballot that it promised; behind a chain that it accepted. -/
def prp (s : AccV) (r k : Int) : AccV := ⟨s.n, s.ke, s.K, ⟨r, k, s.v.ar, s.v.an, s.v.has, s.v.ce, s.v.C⟩⟩
def acp (s : AccV) (r k y : Int) : AccV := ⟨s.n, s.ke, s.K, ⟨r, k, r, k, true, 2, [y]⟩⟩
structure GoodA (s : AccV) (tr tn : Int) : Prop where
  ok : s.ok
  n : s.n = 5
  ke : s.ke = 1
  K : s.K = [0, 1, 2, 3, 4]
  p : leB s.v.pr s.v.pn tr tn
  a : leB s.v.ar s.v.an tr tn
  has : s.v.has = true → s.v.ce = 2 ∧ ∃ x : Int, 0 ≤ x ∧ x < 5 ∧ s.v.C = [x]
theorem good_first : GoodA (AccV.first 5) 0 0 :=
  ⟨AccV.ok_first 5 (by decide) (by decide), rfl, rfl, by decide, leB_refl _ _, leB_refl _ _, fun h => by cases h⟩
theorem GoodA.up {s : AccV} {tr tn r k : Int} (h : GoodA s tr tn) (hl : leB tr tn r k) : GoodA s r k := ⟨h.ok, h.n, h.ke, h.K, leB_trans h.p hl, leB_trans h.a hl, h.has⟩
theorem good_prep {s : AccV} {tr tn r k : Int} (h : GoodA s tr tn) (hm : mayV r k = true) (hl : ltB tr tn r k) :
    prepE s 2 r k = 0 ∧ prepS s 2 r k = prp s r k ∧ prepV s 2 r k = (prp s r k).v ∧ GoodA (prp s r k) r k := by
  have e : prepE s 2 r k = 0 := by
    unfold prepE
    rw [if_neg (by rw [hm]; decide), if_neg (by rw [h.ke]; decide), if_neg (by rw [h.ke]; decide), if_neg (cmp_of_le (leB_trans h.p (ltB_le hl)))]
  have e2 : prepS s 2 r k = prp s r k := by rw [prepS, if_pos e]; rfl
  refine ⟨e, e2, by rw [prepV, if_pos e, e2], ?_, h.n, h.ke, h.K, leB_refl _ _, leB_trans h.a (ltB_le hl), h.has⟩
  rw [← e2]
  exact AccV.ok_prep h.ok 2 r k
theorem one_chain {y : Int} (h0 : 0 ≤ y) (h5 : y < 5) : ChainV.may ⟨2, [y]⟩ := by
  refine ⟨by show (0 : Int) ≤ 2; omega, by show (2 : Int) ≤ 1073741824; omega, by simp, by simp, ?_, by simp⟩
  intro x hx
  rw [List.mem_singleton] at hx
  subst hx
  omega
theorem next_one {y : Int} (h0 : 0 ≤ y) (h5 : y < 5) : nextC 1 [0, 1, 2, 3, 4] 2 [y] 5 := by
  refine ⟨by decide, one_chain h0 h5, by decide, ?_, rfl, Or.inl ⟨by simp, ?_⟩⟩
  · intro x hx
    rw [List.mem_singleton] at hx
    subst hx
    exact h5
  · rcases (show y = 0 ∨ y = 1 ∨ y = 2 ∨ y = 3 ∨ y = 4 by omega) with rfl | rfl | rfl | rfl | rfl <;> decide
theorem good_acc {s : AccV} {r k y : Int} (h : GoodA s r k) (hm : mayV r k = true) (h0 : 0 ≤ y) (h5 : y < 5) :
    accE s 2 [y] r k false = 0 ∧ accS s 2 [y] r k false = acp s r k y ∧ GoodA (acp s r k y) r k := by
  have e : accE s 2 [y] r k false = 0 := by
    unfold accE
    rw [if_neg (fun hh => by rcases hh with hh | hh; · rw [hm] at hh; cases hh
                             · exact hh (one_chain h0 h5)), if_neg (by rw [h.ke]; decide), if_neg (by rw [h.ke]; decide), if_neg (by rw [h.ke, h.K, h.n]; exact fun hh => hh (next_one h0 h5)), if_neg (cmp_of_le h.p), if_neg (by decide)]
  have e2 : accS s 2 [y] r k false = acp s r k y := by rw [accS, if_pos e]; rfl
  refine ⟨e, e2, ?_, h.n, h.ke, h.K, leB_refl _ _, leB_refl _ _, fun _ => ⟨rfl, y, h0, h5, rfl⟩⟩
  rw [← e2]
  exact AccV.ok_acc h.ok 2 [y] r k false

/-- The first k of those that f tells were turned by g. -/
def Rep (f : Nat → Bool) (g : AccV → AccV) (ss0 ss : Nat → AccV) (k : Nat) : Prop := ∀ j, j < 5 → ss j = if j < k ∧ f j = true then g (ss0 j) else ss0 j
def updA (ss : Nat → AccV) (k : Nat) (a : AccV) : Nat → AccV := fun j => if j = k then a else ss j
theorem rep_zero (f : Nat → Bool) (g : AccV → AccV) (ss : Nat → AccV) : Rep f g ss ss 0 := fun j _ => by rw [if_neg (by omega)]
theorem rep_skip {f : Nat → Bool} {g : AccV → AccV} {ss0 ss : Nat → AccV} {k : Nat} (h : Rep f g ss0 ss k) (hf : f k = false) : Rep f g ss0 ss (k + 1) := fun j hj => by
  rw [h j hj]
  by_cases hk : j = k
  · subst hk
    rw [if_neg (by omega), if_neg (by rw [hf]; simp)]
  · by_cases hc : j < k ∧ f j = true
    · rw [if_pos hc, if_pos ⟨by omega, hc.2⟩]
    · rw [if_neg hc, if_neg (fun hh => hc ⟨by omega, hh.2⟩)]
theorem rep_at {f : Nat → Bool} {g : AccV → AccV} {ss0 ss : Nat → AccV} {k : Nat} (h : Rep f g ss0 ss k) (hk : k < 5) : ss k = ss0 k := by rw [h k hk, if_neg (by omega)]
theorem rep_step {f : Nat → Bool} {g : AccV → AccV} {ss0 ss : Nat → AccV} {k : Nat} (h : Rep f g ss0 ss k) (hf : f k = true) : Rep f g ss0 (updA ss k (g (ss0 k))) (k + 1) := fun j hj => by
  unfold updA
  by_cases hk : j = k
  · subst hk
    rw [if_pos rfl, if_pos ⟨by omega, hf⟩]
  · rw [if_neg hk, h j hj]
    by_cases hc : j < k ∧ f j = true
    · rw [if_pos hc, if_pos ⟨by omega, hc.2⟩]
    · rw [if_neg hc, if_neg (fun hh => hc ⟨by omega, hh.2⟩)]
/-- All of them are as they may be. -/
def Good (ss : Nat → AccV) (tr tn : Int) : Prop := ∀ k, k < 5 → GoodA (ss k) tr tn
/-- A majority accepted [x] with the same ballot or greater ones, and nobody another chain with such. -/
def Cho (ss : Nat → AccV) (tr tn x : Int) : Prop := ∃ r0 n0, leB r0 n0 tr tn ∧ 3 ≤ cntB (fun k => (ss k).v.has && decide (leB r0 n0 (ss k).v.ar (ss k).v.an)) 5 ∧ ∀ k, k < 5 → (ss k).v.has = true → leB r0 n0 (ss k).v.ar (ss k).v.an → (ss k).v.C = [x]
theorem rep_good {f : Nat → Bool} {g : AccV → AccV} {ss0 ss : Nat → AccV} {r n : Int} (h : Rep f g ss0 ss 5) (h1 : ∀ k, k < 5 → GoodA (g (ss0 k)) r n) (h2 : Good ss0 r n) : Good ss r n := fun k hk => by
  rw [h k hk]
  split
  · exact h1 k hk
  · exact h2 k hk
theorem cho_prp {f : Nat → Bool} {ss0 ss : Nat → AccV} {tr tn r n x : Int} (h : Rep f (fun s => prp s r n) ss0 ss 5) (hl : leB tr tn r n) (hc : Cho ss0 tr tn x) : Cho ss r n x := by
  have e : ∀ k, k < 5 → (ss k).v.has = (ss0 k).v.has ∧ (ss k).v.ar = (ss0 k).v.ar ∧ (ss k).v.an = (ss0 k).v.an ∧ (ss k).v.C = (ss0 k).v.C := fun k hk => by
    rw [h k hk]
    split <;> exact ⟨rfl, rfl, rfl, rfl⟩
  obtain ⟨r0, n0, h1, h2, h3⟩ := hc
  refine ⟨r0, n0, leB_trans h1 hl, Nat.le_trans h2 (cnt_mono 5 fun j hj hh => ?_), fun k hk g1 g2 => ?_⟩
  · obtain ⟨a, b, c, d⟩ := e j hj
    show ((ss j).v.has && decide (leB r0 n0 (ss j).v.ar (ss j).v.an)) = true
    rw [a, b, c]
    exact hh
  · obtain ⟨a, b, c, d⟩ := e k hk
    rw [a] at g1
    rw [b, c] at g2
    rw [d]
    exact h3 k hk g1 g2
theorem cho_acp {f : Nat → Bool} {ss0 ss : Nat → AccV} {r n x : Int} (h : Rep f (fun s => acp s r n x) ss0 ss 5) (hc : Cho ss0 r n x) : Cho ss r n x := by
  obtain ⟨r0, n0, h1, h2, h3⟩ := hc
  refine ⟨r0, n0, h1, Nat.le_trans h2 (cnt_mono 5 fun j hj hh => ?_), fun k hk g1 g2 => ?_⟩
  · show ((ss j).v.has && decide (leB r0 n0 (ss j).v.ar (ss j).v.an)) = true
    rw [h j hj]
    split
    · simp only [acp, Bool.true_and]
      exact decide_eq_true h1
    · exact hh
  · rw [h k hk] at g1 g2 ⊢
    by_cases hc : k < 5 ∧ f k = true
    · rw [if_pos hc]
      rfl
    · rw [if_neg hc] at g1 g2 ⊢
      exact h3 k hk g1 g2
theorem cho_new {f : Nat → Bool} {ss0 ss : Nat → AccV} {tr tn r n x : Int} (h : Rep f (fun s => acp s r n x) ss0 ss 5) (hg : ∀ k, k < 5 → leB (ss0 k).v.ar (ss0 k).v.an tr tn) (hl : ltB tr tn r n) (hn : 3 ≤ cntB f 5) : Cho ss r n x := by
  refine ⟨r, n, leB_refl _ _, Nat.le_trans hn (cnt_mono 5 fun j hj hh => ?_), fun k hk g1 g2 => ?_⟩
  · show ((ss j).v.has && decide (leB r n (ss j).v.ar (ss j).v.an)) = true
    rw [h j hj, if_pos ⟨hj, hh⟩]
    simp only [acp, Bool.true_and]
    exact decide_eq_true (leB_refl _ _)
  · rw [h k hk] at g1 g2 ⊢
    by_cases hc : k < 5 ∧ f k = true
    · rw [if_pos hc]
      rfl
    · rw [if_neg hc] at g2
      exact absurd g2 (ltB_not (leB_lt (hg k hk) hl))
theorem prp_acc {f : Nat → Bool} {ss0 ss : Nat → AccV} {tr tn r n : Int} (h : Rep f (fun s => prp s r n) ss0 ss 5) (hg : Good ss0 tr tn) : ∀ k, k < 5 → leB (ss k).v.ar (ss k).v.an tr tn := fun k hk => by
  rw [h k hk]
  split <;> exact (hg k hk).a

/-- The count behind k acceptors. -/
structure TI (f : Nat → Bool) (ss : Nat → AccV) (r n y0 : Int) (s : TalV) (k : Nat) : Prop where
  five : s.n = 5
  b : s.r = r ∧ s.k = n
  ce : s.ce = 2
  y : s.Y = []
  len : s.P.length = cntB f k
  mem : ∀ x ∈ s.P, ∃ j : Nat, j < k ∧ x = (j : Int)
  le : ∀ j, j < k → f j = true → (ss j).v.has = true → s.has = true ∧ leB (ss j).v.ar (ss j).v.an s.ar s.an
  of : s.has = true → ∃ j, j < k ∧ f j = true ∧ (ss j).v.has = true ∧ (ss j).v.ar = s.ar ∧ (ss j).v.an = s.an ∧ (ss j).v.C = s.C
  own : s.has = false → s.C = [y0]
theorem ti_zero (f : Nat → Bool) (ss : Nat → AccV) (r n y0 : Int) : TI f ss r n y0 (TalV.first 5 r n 2 [y0]) 0 :=
  ⟨rfl, ⟨rfl, rfl⟩, rfl, rfl, rfl, (fun x hx => by cases hx), (fun j hj => by omega), (fun h => by cases h), fun _ => rfl⟩
theorem ti_skip {f : Nat → Bool} {ss : Nat → AccV} {r n y0 : Int} {s : TalV} {k : Nat} (h : TI f ss r n y0 s k) (hf : f k = false) : TI f ss r n y0 s (k + 1) := by
  refine ⟨h.five, h.b, h.ce, h.y, by rw [h.len, cntB, if_neg (by rw [hf]; decide)]; rfl, fun x hx => ?_, fun j hj h1 h2 => ?_, fun hh => ?_, h.own⟩
  · obtain ⟨j, hj, e⟩ := h.mem x hx
    exact ⟨j, by omega, e⟩
  · have : j ≠ k := fun e => by subst e; rw [hf] at h1; cases h1
    exact h.le j (by omega) h1 h2
  · obtain ⟨j, hj, e⟩ := h.of hh
    exact ⟨j, by omega, e⟩
theorem ti_step {f : Nat → Bool} {ss : Nat → AccV} {r n y0 tr tn : Int} {s : TalV} {k : Nat} (h : TI f ss r n y0 s k) (hf : f k = true) (hk : k < 5) (hg : GoodA (ss k) tr tn) :
    proB s k (prp (ss k) r n).v = true ∧ TI f ss r n y0 (proS s k (prp (ss k) r n).v) (k + 1) := by
  have hfit : s.fits (prp (ss k) r n).v = true := by
    unfold TalV.fits
    refine decide_eq_true ⟨⟨h.b.1.symm, h.b.2.symm⟩, fun hh => ?_⟩
    have hh' : (ss k).v.has = true := hh
    obtain ⟨e1, x, x0, x5, e2⟩ := hg.has hh'
    refine ⟨hg.ok.a, ?_, ?_⟩
    · show ChainV.may ⟨(ss k).v.ce, (ss k).v.C⟩
      rw [e1, e2]
      exact one_chain x0 x5
    · rw [h.ce]
      exact e1
  have hseat : s.seat k = true := by unfold TalV.seat; rw [h.five]; exact decide_eq_true (by omega)
  have hnew : (k : Int) ∉ s.P := fun hm => by
    obtain ⟨j, hj, e⟩ := h.mem _ hm
    omega
  have hB : proB s k (prp (ss k) r n).v = true := by unfold proB TalV.fresh; rw [hseat, hfit]; simp [hnew]
  refine ⟨hB, ?_⟩
  have hlen : (s.P ++ [(k : Int)]).length = cntB f (k + 1) := by rw [cntB, if_pos hf]; simp [h.len]
  have hmem : ∀ x ∈ s.P ++ [(k : Int)], ∃ j : Nat, j < k + 1 ∧ x = (j : Int) := fun x hx => by
    rcases List.mem_append.1 hx with hx | hx
    · obtain ⟨j, hj, e⟩ := h.mem _ hx
      exact ⟨j, by omega, e⟩
    · rw [List.mem_singleton] at hx
      exact ⟨k, by omega, hx⟩
  unfold proS
  rw [if_pos hB]
  have hbd : s.better (prp (ss k) r n).v = ((ss k).v.has && (!s.has || decide (0 < cmpV (ss k).v.ar (ss k).v.an s.ar s.an))) := rfl
  by_cases hb : s.better (prp (ss k) r n).v = true
  · rw [if_pos hb]
    rw [hbd] at hb
    simp only [Bool.and_eq_true, Bool.or_eq_true, Bool.not_eq_true', decide_eq_true_eq] at hb
    obtain ⟨b1, b2⟩ := hb
    obtain ⟨e1, _⟩ := hg.has b1
    refine ⟨h.five, h.b, e1, h.y, hlen, hmem, fun j hj g1 g2 => ⟨rfl, ?_⟩, fun _ => ⟨k, by omega, hf, b1, rfl, rfl, rfl⟩, fun hh => by cases hh⟩
    show leB (ss j).v.ar (ss j).v.an (ss k).v.ar (ss k).v.an
    by_cases hjk : j = k
    · subst hjk
      exact leB_refl _ _
    · obtain ⟨c1, c2⟩ := h.le j (by omega) g1 g2
      rcases b2 with b2 | b2
      · rw [c1] at b2; cases b2
      · exact leB_trans c2 (ltB_le (cmp_pos.1 b2))
  · rw [if_neg hb]
    rw [hbd] at hb
    refine ⟨h.five, h.b, h.ce, h.y, hlen, hmem, fun j hj g1 g2 => ?_, fun hh => ?_, h.own⟩
    · show s.has = true ∧ leB (ss j).v.ar (ss j).v.an s.ar s.an
      by_cases hjk : j = k
      · subst hjk
        rw [g2] at hb
        simp only [Bool.true_and, Bool.or_eq_true, Bool.not_eq_true', decide_eq_true_eq, not_or, Bool.not_eq_false] at hb
        refine ⟨hb.1, ?_⟩
        have h2 := hb.2
        exact le_of_cmp (by omega)
      · exact h.le j (by omega) g1 g2
    · obtain ⟨j, hj, e⟩ := h.of hh
      exact ⟨j, by omega, e⟩
theorem ti_one {f : Nat → Bool} {ss : Nat → AccV} {r n y0 tr tn : Int} {s : TalV} {k : Nat} (h : TI f ss r n y0 s k) (hk : k ≤ 5) (hg : Good ss tr tn) (h0 : 0 ≤ y0) (h5 : y0 < 5) : ∃ y : Int, 0 ≤ y ∧ y < 5 ∧ s.C = [y] := by
  cases hh : s.has with
  | false => exact ⟨y0, h0, h5, h.own hh⟩
  | true =>
    obtain ⟨j, hj, _, g1, _, _, g2⟩ := h.of hh
    obtain ⟨_, x, x0, x5, e⟩ := (hg j (by omega)).has g1
    exact ⟨x, x0, x5, by rw [← g2]; exact e⟩
theorem ti_safe {f : Nat → Bool} {ss : Nat → AccV} {r n y0 tr tn x : Int} {s : TalV} (h : TI f ss r n y0 s 5) (hr : 3 ≤ s.P.length) (hc : Cho ss tr tn x) : s.C = [x] := by
  obtain ⟨r0, n0, h1, h2, h3⟩ := hc
  rw [h.len] at hr
  obtain ⟨j, hj, g1, g2⟩ := cnt_meet hr h2
  simp only [Bool.and_eq_true, decide_eq_true_eq] at g2
  obtain ⟨c1, c2⟩ := h.le j hj g1 g2.1
  obtain ⟨i, hi, d1, d2, d3, d4, d5⟩ := h.of c1
  rw [← d5]
  exact h3 i hi d2 (by rw [d3, d4]; exact leB_trans g2.2 c2)
theorem ti_rdy {f : Nat → Bool} {ss : Nat → AccV} {r n y0 : Int} {s : TalV} {k : Nat} (h : TI f ss r n y0 s k) : rdyB s = decide (3 ≤ s.P.length) := by
  unfold rdyB
  rw [h.five, decide_eq_decide]
  show (3 : Int) ≤ _ ↔ _
  omega
/-- Those that said yes, behind k acceptors. -/
structure YI (f : Nat → Bool) (s : TalV) (k : Nat) : Prop where
  n : s.n = 5
  rdy : rdyB s = true
  len : s.Y.length = cntB f k
  mem : ∀ x ∈ s.Y, ∃ j : Nat, j < k ∧ x = (j : Int)
theorem yi_zero {f : Nat → Bool} {ss : Nat → AccV} {r n y0 : Int} {s : TalV} {g : Nat → Bool} {k : Nat} (h : TI f ss r n y0 s k) (hr : rdyB s = true) : YI g s 0 := ⟨h.five, hr, by rw [h.y]; rfl, fun x hx => by rw [h.y] at hx; cases hx⟩
theorem yi_skip {f : Nat → Bool} {s : TalV} {k : Nat} (h : YI f s k) (hf : f k = false) : YI f s (k + 1) := by
  refine ⟨h.n, h.rdy, by rw [h.len, cntB, if_neg (by rw [hf]; decide)]; rfl, fun x hx => ?_⟩
  obtain ⟨j, hj, e⟩ := h.mem x hx
  exact ⟨j, by omega, e⟩
theorem yi_step {f : Nat → Bool} {s : TalV} {k : Nat} (h : YI f s k) (hf : f k = true) (hk : k < 5) : yesB s k = true ∧ YI f (yesS s k) (k + 1) := by
  have hseat : s.seat k = true := by unfold TalV.seat; rw [h.n]; exact decide_eq_true (by omega)
  have hnew : (k : Int) ∉ s.Y := fun hm => by
    obtain ⟨j, hj, e⟩ := h.mem _ hm
    omega
  have hB : yesB s k = true := by unfold yesB; rw [hseat, h.rdy]; simp [hnew]
  refine ⟨hB, ?_⟩
  unfold yesS
  rw [if_pos hB]
  refine ⟨h.n, h.rdy, ?_, fun x hx => ?_⟩
  · rw [cntB, if_pos hf]
    simp [TalV.yes, h.len]
  · rcases List.mem_append.1 hx with hx | hx
    · obtain ⟨j, hj, e⟩ := h.mem _ hx
      exact ⟨j, by omega, e⟩
    · rw [List.mem_singleton] at hx
      exact ⟨k, by omega, hx⟩
theorem yi_don {f : Nat → Bool} {s : TalV} (h : YI f s 5) : donB s = decide (3 ≤ cntB f 5) := by
  unfold donB
  rw [h.n, decide_eq_decide, ← h.len]
  show (3 : Int) ≤ _ ↔ _
  omega
/-- The next ballot is greater, and its round at most one more. -/
theorem up_lt {tr tn k : Int} (hm : mayV tr tn = true) (h0 : 0 ≤ k) (h5 : k < 5) (hr : tr < 1000) : nextV tr tn k = (upV tr tn k, k, true) ∧ mayV (upV tr tn k) k = true ∧ ltB tr tn (upV tr tn k) k ∧ upV tr tn k ≤ tr + 1 := by
  have hm' := mayV_yes.1 hm
  have hu : tr ≤ upV tr tn k ∧ upV tr tn k ≤ tr + 1 ∧ ltB tr tn (upV tr tn k) k := by
    unfold upV ltB
    split <;> omega
  exact ⟨nextV_yes hm h0 h5 (by omega), mayV_yes.2 (by omega), hu.2.2, hu.2.1⟩
end Go.Proofs.Ytiidmiioegdfaaa
