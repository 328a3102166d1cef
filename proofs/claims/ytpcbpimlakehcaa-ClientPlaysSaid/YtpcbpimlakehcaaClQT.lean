/-
  THE REFERENCE'S Target, by contract. No condition but that its numbers are of their kind.
-/
import Derived.Test.YtpcbpimlakehcaaClQ
import Derived.Deep.DeepCutAuto
namespace Go.Proofs.Ytpcbpimlakehcaa
open Go.RowKit

/-- There is one, and the first i are nodes of n. -/
def goodV (L : List Int) (n : Int) (i : Nat) : Prop := L ≠ [] ∧ ∀ x ∈ L.take i, 0 ≤ x ∧ x < n
instance (L : List Int) (n : Int) (i : Nat) : Decidable (goodV L n i) := by unfold goodV; infer_instance
theorem goodV_all (L : List Int) (n : Int) (i : Nat) (h : L.length ≤ i) : goodV L n i ↔ mayAskV L n := by unfold goodV mayAskV; rw [List.take_of_length_le h]
theorem goodV_next (L : List Int) (n : Int) (i : Nat) (h : i < L.length) : goodV L n (i + 1) ↔ goodV L n i ∧ 0 ≤ L[i] ∧ L[i] < n := by
  unfold goodV
  rw [List.take_succ_eq_append_getElem h]
  constructor
  · intro ⟨h1, h2⟩
    exact ⟨⟨h1, fun x hx => h2 x (List.mem_append_left _ hx)⟩, h2 _ (List.mem_append_right _ (List.mem_singleton.2 rfl))⟩
  · intro ⟨⟨h1, h2⟩, h3⟩
    refine ⟨h1, fun x hx => ?_⟩
    rcases List.mem_append.1 hx with hx | hx
    · exact h2 x hx
    · rw [List.mem_singleton.1 hx]; exact h3
set_option maxRecDepth 100000 in
set_option maxHeartbeats 2000000 in
theorem qtarget_r (ep : Int) (v : Value) (L : List Int) (n t : Nat) (wr : Bool) (w : World) (hI : Ints w w.heap.size v L) (hn1 : 1 ≤ n) (hn2 : n ≤ 1000) (ht : 1 ≤ t) (ht2 : t ≤ 100000) :
    Calls Try.prog 60 #[.agg #[.int .i64 ep, v], .int .i64 n, .int .i64 t, .bool wr] w fun e w' => e = .returned (.int .i64 (targV L n t wr)) ∧ Below w.heap.size w w' := by
  have hB : Below w.heap.size w (w.alloc (.cells #[.int .i64 ep, v] 24)) := (Below.refl _ w).alloc (Nat.le_refl _) _
  obtain ⟨a, c, rfl, hcap, hmax, _, hc⟩ := hI
  obtain ⟨l, hl⟩ : ∃ l, l = L.length := ⟨_, rfl⟩
  rw [← hl] at hcap hB ⊢
  have h1l : l ≤ maxLen := Nat.le_trans hcap hmax
  unfold maxLen at h1l
  have hx := heap_alloc_new w (.cells #[.int .i64 ep, .slice a l c] 24)
  obtain ⟨W1, hW1⟩ : ∃ W1, W1 = w.alloc (.cells #[.int .i64 ep, .slice a l c] 24) := ⟨_, rfl⟩
  rw [← hW1] at hB hx
  have x1 : W1.cell? ⟨w.heap.size, 1, none⟩ = some (.slice a l c) := by simp [World.cell?, hx]
  clear hx
  have HB := Lib.hid hB
  have HC : Hid (L ≠ [] → ∃ b off, a = some ⟨b, off, none⟩ ∧ ∀ j, j < L.length → W1.cell? ⟨b, off + j, none⟩ = some (.int .i64 (L.getD j 0))) := fun h => by
    obtain ⟨b, off, e, hb, hx⟩ := hc h
    exact ⟨b, off, e, fun j hj => (hB.cell (p := ⟨b, off + j, none⟩) hb).trans (hx j hj)⟩
  have HL := Lib.hid hl
  have n0 : ¬ (n : Int) < 1 := by omega
  have n1 : ¬ (n : Int) = 0 := by omega
  have t0 : ¬ (t : Int) < 0 := by omega
  have t00 : ¬ (t : Int) ≤ 0 := by omega
  have HR : Hid ((t : Int).tmod (n : Int) = ((t % n : Nat) : Int)) := by show _ = _; rfl
  have HW := Lib.hid hW1
  clear hB hc hl hcap hmax hW1
  by_cases h3 : 3 ≤ t
  · have hT : targV L n t wr = ((t % n : Nat) : Int) := by unfold targV; rw [if_neg (by omega)]
    rw [hT]
    have e1 : ((t : Int) == 1) = false := by rw [beq_eq_false_iff_ne]; omega
    have e2 : ((t : Int) == 2) = false := by rw [beq_eq_false_iff_ne]; omega
    clear h3 hT ht ht2
    go_enter Try.func60, Try.ntmps60
    go_wp2_with fail
    go_returns
    rw [← HW.out]
    exact ⟨by first | rfl | (simp; done), HB.out⟩
  have hGT : Hid (goodV L n l ↔ mayAskV L n) := goodV_all L n l (by rw [HL.out]; exact Nat.le_refl _)
  have ht12 : t = 1 ∨ t = 2 := by omega
  have hdec : Hid (∀ g, g = decide (goodV L n l) → (g = true → wr = true → targV L n t wr = L.getD 0 0) ∧ (g = true → wr = false → targV L n t wr = L.getD (t % l) 0) ∧ (g = false → targV L n t wr = ((t % n : Nat) : Int))) := by
    intro g hg
    have hl := HL.out
    unfold targV
    refine ⟨fun h1 h2 => ?_, fun h1 h2 => ?_, fun h1 => ?_⟩
    · rw [if_pos ⟨by omega, hGT.out.1 (of_decide_eq_true (hg.symm.trans h1))⟩, if_pos h2]
    · rw [if_pos ⟨by omega, hGT.out.1 (of_decide_eq_true (hg.symm.trans h1))⟩, if_neg (by rw [h2]; decide), ← hl]
    · rw [if_neg (fun h => of_decide_eq_false (hg.symm.trans h1) (hGT.out.2 h.2))]
  have HG0 : Hid (decide ((0 : Int) < (l : Int)) = decide (goodV L n 0)) := by
    have hl := HL.out
    refine decide_eq_decide.2 ⟨fun h => ⟨fun e => ?_, by simp⟩, fun h => ?_⟩
    · rw [e] at hl; simp at hl; omega
    · have := List.length_pos_iff.2 h.1; omega
  have hw1 : ((t : Int) == 1) = true ∨ (((t : Int) == 1) = false ∧ ((t : Int) == 2) = true) := by
    rcases ht12 with h | h
    · exact .inl (by rw [h]; rfl)
    · exact .inr ⟨by rw [h]; rfl, by rw [h]; rfl⟩
  have HTT : Hid (1 ≤ t ∧ t ≤ 2) := by show _ ∧ _; omega
  clear h3 ht12 hGT ht ht2
  go_enter Try.func60, Try.ntmps60
  rcases hw1 with e1 | ⟨e1, e2⟩
  · go_wp2_with fail
    rw [← HW.out]
    clear HW
    go_loop [11, 10] (fun s11 s10 => ∃ (i : Nat) (g : Bool), i ≤ l ∧ s11 = .int .i64 i ∧ s10 = .bool g ∧ Hid (g = decide (goodV L n i))) (fun s11 _ => l - (intOf s11).toNat)
    case atStart => exact ⟨0, decide ((0 : Int) < (l : Int)), Nat.zero_le _, rfl, by first | rfl | (simp; done), HG0.out⟩
    case round =>
      clear HG0
      obtain ⟨i, g, hi, rfl, rfl, HG⟩ := hrel
      by_cases hlt : i < l
      · have hiL : i < L.length := by rw [← HL.out]; exact hlt
        have i1 : (i : Int) < (l : Int) := by omega
        have i0 : (0 : Int) ≤ (i : Int) := by omega
        obtain ⟨b, off, rfl, hx⟩ := HC.out (by intro e; rw [e] at hiL; simp at hiL)
        have c1 := hx i hiL
        have HN : Hid (goodV L n (i + 1) ↔ goodV L n i ∧ 0 ≤ L.getD i 0 ∧ L.getD i 0 < n) := by
          have h := goodV_next L n i hiL
          rwa [show L[i] = L.getD i 0 by simp [hiL]] at h
        generalize L.getD i 0 = x at c1 HN
        clear hx hiL
        cases g
        · have HG2 : Hid (false = decide (goodV L n (i + 1))) := (decide_eq_false fun h => of_decide_eq_false HG.out.symm (HN.out.1 h).1).symm
          clear HG HN c1
          go_wp2
          go_round
          case rel => first | exact ⟨i + 1, false, by omega, (show (Value.int .i64 ((i : Int) + 1)) = .int .i64 ((i + 1 : Nat) : Int) from rfl), rfl, HG2.out⟩ | ((repeat apply Exists.intro); exact ⟨⟨i + 1, false, by omega, (show (Value.int .i64 ((i : Int) + 1)) = .int .i64 ((i + 1 : Nat) : Int) from rfl), rfl, HG2.out⟩, rfl⟩)
          case measure => simp [intOf]; omega
        · by_cases hx0 : 0 ≤ x
          · by_cases hxn : x < (n : Int)
            · have HG2 : Hid (true = decide (goodV L n (i + 1))) := (decide_eq_true (HN.out.2 ⟨of_decide_eq_true HG.out.symm, hx0, hxn⟩)).symm
              clear HG HN
              go_wp2
              go_round
              case rel => first | exact ⟨i + 1, true, by omega, (show (Value.int .i64 ((i : Int) + 1)) = .int .i64 ((i + 1 : Nat) : Int) from rfl), rfl, HG2.out⟩ | ((repeat apply Exists.intro); exact ⟨⟨i + 1, true, by omega, (show (Value.int .i64 ((i : Int) + 1)) = .int .i64 ((i + 1 : Nat) : Int) from rfl), rfl, HG2.out⟩, rfl⟩)
              case measure => simp [intOf]; omega
            · have HG2 : Hid (false = decide (goodV L n (i + 1))) := (decide_eq_false fun h => hxn (HN.out.1 h).2.2).symm
              clear HG HN
              go_wp2
              go_round
              case rel => first | exact ⟨i + 1, false, by omega, (show (Value.int .i64 ((i : Int) + 1)) = .int .i64 ((i + 1 : Nat) : Int) from rfl), rfl, HG2.out⟩ | ((repeat apply Exists.intro); exact ⟨⟨i + 1, false, by omega, (show (Value.int .i64 ((i : Int) + 1)) = .int .i64 ((i + 1 : Nat) : Int) from rfl), rfl, HG2.out⟩, rfl⟩)
              case measure => simp [intOf]; omega
          · have HG2 : Hid (false = decide (goodV L n (i + 1))) := (decide_eq_false fun h => hx0 (HN.out.1 h).2.1).symm
            clear HG HN
            go_wp2
            go_round
            case rel => first | exact ⟨i + 1, false, by omega, (show (Value.int .i64 ((i : Int) + 1)) = .int .i64 ((i + 1 : Nat) : Int) from rfl), rfl, HG2.out⟩ | ((repeat apply Exists.intro); exact ⟨⟨i + 1, false, by omega, (show (Value.int .i64 ((i : Int) + 1)) = .int .i64 ((i + 1 : Nat) : Int) from rfl), rfl, HG2.out⟩, rfl⟩)
            case measure => simp [intOf]; omega
      · have hil : i = l := by omega
        have i1 : ¬ (i : Int) < (l : Int) := by omega
        have HGL : Hid (g = decide (goodV L n l)) := by rw [← hil]; exact HG.out
        obtain ⟨d1, d2, d3⟩ := hdec.out g HGL.out
        cases g
        · have HV := Lib.hid (d3 rfl)
          clear d1 d2 d3 hil HG HGL
          go_wp2
          go_returns
          exact ⟨by rw [HV.out]; first | rfl | (simp; done), HB.out⟩
        · have hne : L ≠ [] := (of_decide_eq_true HGL.out.symm).1
          have hpos : 0 < l := by rw [HL.out]; exact List.length_pos_iff.2 hne
          obtain ⟨b, off, rfl, hx⟩ := HC.out hne
          have hpos1 : (0 : Int) < (l : Int) := by omega
          cases wr
          · have HV := Lib.hid (d2 rfl rfl)
            have htl : t % l < l := Nat.mod_lt _ hpos
            have c1 := hx (t % l) (by rw [← HL.out]; exact htl)
            have m0 : ¬ (l : Int) = 0 := by omega
            have m1 : (0 : Int) ≤ ((t % l : Nat) : Int) := by omega
            have m2 : ((t % l : Nat) : Int) < (l : Int) := by omega
            generalize L.getD (t % l) 0 = x at c1 HV
            clear d1 d2 d3 hil HG HGL hx hne hpos
            go_wp2_with fail
            go_region
            all_goals
              go_wp2
              go_returns
              exact ⟨by rw [HV.out]; first | rfl | (simp; done), by first | exact HB.out | exact HB.out.drew⟩
          · have HV := Lib.hid (d1 rfl rfl)
            have c1 := hx 0 (by rw [← HL.out]; exact hpos)
            rw [Nat.add_zero] at c1
            generalize L.getD 0 0 = x at c1 HV
            clear d1 d2 d3 hil HG HGL hx hne hpos
            go_wp2
            go_returns
            exact ⟨by rw [HV.out]; first | rfl | (simp; done), HB.out⟩
  · go_wp2_with fail
    rw [← HW.out]
    clear HW
    go_loop [11, 10] (fun s11 s10 => ∃ (i : Nat) (g : Bool), i ≤ l ∧ s11 = .int .i64 i ∧ s10 = .bool g ∧ Hid (g = decide (goodV L n i))) (fun s11 _ => l - (intOf s11).toNat)
    case atStart => exact ⟨0, decide ((0 : Int) < (l : Int)), Nat.zero_le _, rfl, by first | rfl | (simp; done), HG0.out⟩
    case round =>
      clear HG0
      obtain ⟨i, g, hi, rfl, rfl, HG⟩ := hrel
      by_cases hlt : i < l
      · have hiL : i < L.length := by rw [← HL.out]; exact hlt
        have i1 : (i : Int) < (l : Int) := by omega
        have i0 : (0 : Int) ≤ (i : Int) := by omega
        obtain ⟨b, off, rfl, hx⟩ := HC.out (by intro e; rw [e] at hiL; simp at hiL)
        have c1 := hx i hiL
        have HN : Hid (goodV L n (i + 1) ↔ goodV L n i ∧ 0 ≤ L.getD i 0 ∧ L.getD i 0 < n) := by
          have h := goodV_next L n i hiL
          rwa [show L[i] = L.getD i 0 by simp [hiL]] at h
        generalize L.getD i 0 = x at c1 HN
        clear hx hiL
        cases g
        · have HG2 : Hid (false = decide (goodV L n (i + 1))) := (decide_eq_false fun h => of_decide_eq_false HG.out.symm (HN.out.1 h).1).symm
          clear HG HN c1
          go_wp2
          go_round
          case rel => first | exact ⟨i + 1, false, by omega, (show (Value.int .i64 ((i : Int) + 1)) = .int .i64 ((i + 1 : Nat) : Int) from rfl), rfl, HG2.out⟩ | ((repeat apply Exists.intro); exact ⟨⟨i + 1, false, by omega, (show (Value.int .i64 ((i : Int) + 1)) = .int .i64 ((i + 1 : Nat) : Int) from rfl), rfl, HG2.out⟩, rfl⟩)
          case measure => simp [intOf]; omega
        · by_cases hx0 : 0 ≤ x
          · by_cases hxn : x < (n : Int)
            · have HG2 : Hid (true = decide (goodV L n (i + 1))) := (decide_eq_true (HN.out.2 ⟨of_decide_eq_true HG.out.symm, hx0, hxn⟩)).symm
              clear HG HN
              go_wp2
              go_round
              case rel => first | exact ⟨i + 1, true, by omega, (show (Value.int .i64 ((i : Int) + 1)) = .int .i64 ((i + 1 : Nat) : Int) from rfl), rfl, HG2.out⟩ | ((repeat apply Exists.intro); exact ⟨⟨i + 1, true, by omega, (show (Value.int .i64 ((i : Int) + 1)) = .int .i64 ((i + 1 : Nat) : Int) from rfl), rfl, HG2.out⟩, rfl⟩)
              case measure => simp [intOf]; omega
            · have HG2 : Hid (false = decide (goodV L n (i + 1))) := (decide_eq_false fun h => hxn (HN.out.1 h).2.2).symm
              clear HG HN
              go_wp2
              go_round
              case rel => first | exact ⟨i + 1, false, by omega, (show (Value.int .i64 ((i : Int) + 1)) = .int .i64 ((i + 1 : Nat) : Int) from rfl), rfl, HG2.out⟩ | ((repeat apply Exists.intro); exact ⟨⟨i + 1, false, by omega, (show (Value.int .i64 ((i : Int) + 1)) = .int .i64 ((i + 1 : Nat) : Int) from rfl), rfl, HG2.out⟩, rfl⟩)
              case measure => simp [intOf]; omega
          · have HG2 : Hid (false = decide (goodV L n (i + 1))) := (decide_eq_false fun h => hx0 (HN.out.1 h).2.1).symm
            clear HG HN
            go_wp2
            go_round
            case rel => first | exact ⟨i + 1, false, by omega, (show (Value.int .i64 ((i : Int) + 1)) = .int .i64 ((i + 1 : Nat) : Int) from rfl), rfl, HG2.out⟩ | ((repeat apply Exists.intro); exact ⟨⟨i + 1, false, by omega, (show (Value.int .i64 ((i : Int) + 1)) = .int .i64 ((i + 1 : Nat) : Int) from rfl), rfl, HG2.out⟩, rfl⟩)
            case measure => simp [intOf]; omega
      · have hil : i = l := by omega
        have i1 : ¬ (i : Int) < (l : Int) := by omega
        have HGL : Hid (g = decide (goodV L n l)) := by rw [← hil]; exact HG.out
        obtain ⟨d1, d2, d3⟩ := hdec.out g HGL.out
        cases g
        · have HV := Lib.hid (d3 rfl)
          clear d1 d2 d3 hil HG HGL
          go_wp2
          go_returns
          exact ⟨by rw [HV.out]; first | rfl | (simp; done), HB.out⟩
        · have hne : L ≠ [] := (of_decide_eq_true HGL.out.symm).1
          have hpos : 0 < l := by rw [HL.out]; exact List.length_pos_iff.2 hne
          obtain ⟨b, off, rfl, hx⟩ := HC.out hne
          have hpos1 : (0 : Int) < (l : Int) := by omega
          cases wr
          · have HV := Lib.hid (d2 rfl rfl)
            have htl : t % l < l := Nat.mod_lt _ hpos
            have c1 := hx (t % l) (by rw [← HL.out]; exact htl)
            have m0 : ¬ (l : Int) = 0 := by omega
            have m1 : (0 : Int) ≤ ((t % l : Nat) : Int) := by omega
            have m2 : ((t % l : Nat) : Int) < (l : Int) := by omega
            generalize L.getD (t % l) 0 = x at c1 HV
            clear d1 d2 d3 hil HG HGL hx hne hpos
            go_wp2_with fail
            go_region
            all_goals
              go_wp2
              go_returns
              exact ⟨by rw [HV.out]; first | rfl | (simp; done), by first | exact HB.out | exact HB.out.drew⟩
          · have HV := Lib.hid (d1 rfl rfl)
            have c1 := hx 0 (by rw [← HL.out]; exact hpos)
            rw [Nat.add_zero] at c1
            generalize L.getD 0 0 = x at c1 HV
            clear d1 d2 d3 hil HG HGL hx hne hpos
            go_wp2
            go_returns
            exact ⟨by rw [HV.out]; first | rfl | (simp; done), HB.out⟩
end Go.Proofs.Ytpcbpimlakehcaa
