/-
  PROVED: casebooklaw21.ClientTries answers true and leaves its arguments as they were, for any number, any row of ints: the row's own reading and nothing else is assumed.
-/
import Derived.Test.YtpcbpimlakehcaaClT
import Derived.Test.YtpcbpimlakehcaaItemArgs
import Derived.Test.YtpcbpimlakehcaaClockArgs
namespace Go.Proofs.Ytpcbpimlakehcaa.ClientTries
open Go.ChangeShapes Go.WideShapes Go.ChangeAt Go.RowKit

/-- A row of bools. -/
def rowB (k : Nat) (f : Nat → Bool) : List Value := (List.range k).map fun j => .bool (f j)
theorem rowB_get {k : Nat} (f : Nat → Bool) {j : Nat} (h : j < k) : (rowB k f)[j]? = some (.bool (f j)) := by simp [rowB, h]
def upB (f : Nat → Bool) (j : Nat) : Nat → Bool := fun x => if x = j then true else f x
theorem rowB_set (k : Nat) (f : Nat → Bool) (j : Nat) : (rowB k f).set j (.bool true) = rowB k (upB f j) := by
  apply List.ext_getElem
  · simp [rowB]
  · intro i h1 h2
    by_cases e : j = i
    · subst e
      simp [rowB, upB]
    · have e' : ¬ i = j := fun h => e h.symm
      simp [rowB, upB, e, e']
/-- Who was asked in the tries from the third one up to t. -/
def inK (k t : Nat) : Nat → Bool := fun x => decide (∃ j, j < t + 1 ∧ 3 ≤ j ∧ j % k = x)
theorem inK_low (k t : Nat) (h : t ≤ 2) : inK k t = fun _ => false := by
  funext x
  refine decide_eq_false ?_
  rintro ⟨j, h1, h2, _⟩
  omega
theorem inK_next (k t : Nat) (h : 2 ≤ t) : upB (inK k t) ((t + 1) % k) = inK k (t + 1) := by
  funext x
  unfold upB inK
  by_cases e : x = (t + 1) % k
  · rw [if_pos e]
    exact (decide_eq_true ⟨t + 1, by omega, by omega, e.symm⟩).symm
  · rw [if_neg e]
    exact decide_eq_decide.2 ⟨fun ⟨j, h1, h2, h3⟩ => ⟨j, by omega, h2, h3⟩, fun ⟨j, h1, h2, h3⟩ => ⟨j, by
      rcases (show j < t + 1 ∨ j = t + 1 by omega) with h4 | h4
      · exact h4
      · subst h4; exact absurd h3.symm e, h2, h3⟩⟩
theorem inK_all {k t : Nat} (h1 : 1 ≤ k) (h5 : k ≤ 5) (ht : 2 + k ≤ t) {x : Nat} (hx : x < k) : inK k t x = true := by
  refine decide_eq_true ?_
  rcases (show k = 1 ∨ k = 2 ∨ k = 3 ∨ k = 4 ∨ k = 5 by omega) with rfl | rfl | rfl | rfl | rfl
  · exact ⟨3, by omega, by omega, by omega⟩
  · rcases (show x = 0 ∨ x = 1 by omega) with rfl | rfl
    · exact ⟨4, by omega, by omega, by omega⟩
    · exact ⟨3, by omega, by omega, by omega⟩
  · rcases (show x = 0 ∨ x = 1 ∨ x = 2 by omega) with rfl | rfl | rfl
    · exact ⟨3, by omega, by omega, by omega⟩
    · exact ⟨4, by omega, by omega, by omega⟩
    · exact ⟨5, by omega, by omega, by omega⟩
  · rcases (show x = 0 ∨ x = 1 ∨ x = 2 ∨ x = 3 by omega) with rfl | rfl | rfl | rfl
    · exact ⟨4, by omega, by omega, by omega⟩
    · exact ⟨5, by omega, by omega, by omega⟩
    · exact ⟨6, by omega, by omega, by omega⟩
    · exact ⟨3, by omega, by omega, by omega⟩
  · rcases (show x = 0 ∨ x = 1 ∨ x = 2 ∨ x = 3 ∨ x = 4 by omega) with rfl | rfl | rfl | rfl | rfl
    · exact ⟨5, by omega, by omega, by omega⟩
    · exact ⟨6, by omega, by omega, by omega⟩
    · exact ⟨7, by omega, by omega, by omega⟩
    · exact ⟨3, by omega, by omega, by omega⟩
    · exact ⟨4, by omega, by omega, by omega⟩
theorem made_bools {k : Nat} (h1 : 1 ≤ k) (h5 : k ≤ 5) : madeCells #[.bool false] k = (rowB k fun _ => false).toArray := by
  apply Array.ext'
  rw [toList_madeCells_one]
  rcases (show k = 1 ∨ k = 2 ∨ k = 3 ∨ k = 4 ∨ k = 5 by omega) with rfl | rfl | rfl | rfl | rfl <;> rfl
theorem left_to (z : Int) (q : Nat) (hq : 0 < q) (hq2 : q ≤ 100000) : ∃ t : Nat, t < q ∧ wrap64 ((IntKind.u64.wrap z).tmod (q : Int)) = (t : Int) := by
  have h0 : 0 ≤ IntKind.u64.wrap z := by rw [IntKind.wrap_u64]; omega
  have h1 := Int.tmod_nonneg (q : Int) h0
  have h2 := Int.tmod_lt_of_pos (IntKind.u64.wrap z) (show (0 : Int) < (q : Int) by omega)
  refine ⟨((IntKind.u64.wrap z).tmod (q : Int)).toNat, by omega, ?_⟩
  rw [IntWalk.wrap64_in _ (by omega)]
  omega

/-- The client behind t tries, the last one at a. -/
def cs (k a t : Nat) : CliV := ⟨0, k, 1, 0, [], ⟨0, 1, 4, 0, 0, ⟨#[]⟩⟩, (a : Int), t⟩
theorem targ_cs (k a t : Nat) (m : Nat) : targV (cs k a t).L (cs k a t).n m (wrQ (cs k a t).q) = ((m % k : Nat) : Int) := by
  unfold targV
  rw [if_neg (fun h => h.2.1 rfl)]
  rfl
/-- The law's client and its row of who was asked. -/
structure TR (n : Nat) (w : World) (q k a t : Nat) (f : Nat → Bool) (u : World) : Prop where
  co : CO n w n (cs k a t) u
  row : u.heap[q]? = some (.cells (rowB k f).toArray 4 (0, 0))
  ne : n < q
section
variable {n q k a t : Nat} {w u u' : World} {f : Nat → Bool}
theorem TR.on (h : TR n w q k a t f u) (hb : Below u.heap.size u u') : TR n w q k a t f u' := ⟨h.co.on hb, (hb.block _ (lt_of_block h.row)).trans h.row, h.ne⟩
theorem TR.turn {a' t' : Nat} (h : TR n w q k a t f u) (hc : Cli u' n (cs k a' t')) (ho : Only (· = n) u u') : TR n w q k a' t' f u' := ⟨h.co.turn hc ho, (ho.block _ (lt_of_block h.row) (by have := h.ne; show q ≠ n; omega)).trans h.row, h.ne⟩
theorem TR.cell (h : TR n w q k a t f u) {j : Nat} (hj : j < k) : u.cell? ⟨q, j, none⟩ = some (.bool (f j)) ∧ u.frozen? ⟨q, j, none⟩ = false := by
  have hr := h.row
  exact ⟨by rw [cell_of_row _ _ _ _ _ _ hr, List.getElem?_toArray, rowB_get f hj], by simp [World.frozen?, hr]⟩
theorem TR.set (h : TR n w q k a t f u) (j : Nat) : TR n w q k a t (upB f j) (u.setCell ⟨q, j, none⟩ (.bool true)) := by
  have hn := h.ne
  have ho : Only (· = q) u (u.setCell ⟨q, j, none⟩ (.bool true)) := Only.set q j u (.bool true)
  refine ⟨⟨h.co.c.keep ho (by omega) (fun x cs hx e => ?_), ho.below h.co.bel (fun _ e => by omega) (Nat.le_trans h.co.le h.co.bel.size), h.co.low, h.co.le⟩, ?_, hn⟩
  · subst e
    rw [h.row] at hx
    simp only [Option.some.injEq, Obj.cells.injEq] at hx
    exact absurd hx.2.1 (by decide)
  · rw [heap_setCell_same _ _ _ _ _ _ h.row, List.setIfInBounds_toArray, rowB_set]
end

set_option maxRecDepth 100000 in
set_option maxHeartbeats 4000000 in
theorem walk (x : Int) (v : Value) (l : List Int) (w : World) (_hx : (Lit.int .i64 x).wf = true) (hI : Ints w w.heap.size v l) :
    Calls Try.prog 6 #[.int .i64 x, v] w fun e w' => e = .returned (.bool true) ∧ Below w.heap.size w w' := by
  have HT := Lib.hid (fun u => told21_any u)
  obtain ⟨pa, pc, rfl, hcap, hmax, _, hc⟩ := hI
  obtain ⟨len, hl⟩ : ∃ len, len = l.length := ⟨_, rfl⟩
  rw [← hl]
  rw [← hl] at hcap
  have HC := Lib.hid hc
  have HL := Lib.hid hl
  unfold maxLen at hmax
  obtain ⟨k0, hk0, ek⟩ := left_to x 5 (by decide) (by decide)
  obtain ⟨k, hk⟩ : ∃ k, k = k0 + 1 := ⟨_, rfl⟩
  have EK : Hid (wrap64 (1 + wrap64 ((IntKind.u64.wrap x).tmod 5)) = (k : Int)) := by
    show _ = _
    have ek' : wrap64 ((IntKind.u64.wrap x).tmod 5) = (k0 : Int) := ek
    rw [ek', hk]
    exact (IntWalk.wrap64_in _ (by omega)).trans (by omega)
  have hk1 : 1 ≤ k := by omega
  have hk5 : k ≤ 5 := by omega
  have HNew : Hid (Calls Try.prog 16 #[.int .i64 0, .int .i64 k] w fun e w' => e = .returned (.tuple #[.pointer (some ⟨w.heap.size, 0, none⟩), .int .i64 0]) ∧ CO w.heap.size w w.heap.size (newCli 0 k) w') := (clnew_yes 0 k w (by decide) hk1 hk5).mono fun _ _ ⟨he, hc, hb⟩ => ⟨he, CO.new hc hb⟩
  have HAsk : Hid (∀ u, CO w.heap.size w w.heap.size (newCli 0 k) u → Calls Try.prog 17 #[.pointer (some ⟨w.heap.size, 0, none⟩), .int .i64 0, .agg #[.int .i64 0, .int .i64 0, .int .i64 4, .int .i64 0, .int .i64 0, .string ⟨#[]⟩]] u fun e w' => e = .returned (.tuple #[.int .i64 ((1 % k : Nat) : Int), .int .i64 0]) ∧ CO w.heap.size w w.heap.size (cs k 0 1) w') := fun u hu =>
    (clask_ok hu.c 0 ⟨0, 0, 4, 0, 0, ⟨#[]⟩⟩ (by decide) (by decide) (by decide) (by show ReqV.may ⟨0, 1, 4, 0, 0, ⟨#[]⟩⟩; decide) (by show ¬ 0 < 0; decide)).mono fun _ _ ⟨he, hc, ho⟩ => ⟨he.trans (congrArg (fun z => Ending.returned (.tuple #[.int .i64 z, .int .i64 0])) (targ_cs k 0 0 1)), hu.turn hc ho⟩
  obtain ⟨p1, hp1⟩ : ∃ p1, p1 = 1 % k := ⟨_, rfl⟩
  have hp1k : p1 < k := by rw [hp1]; exact Nat.mod_lt _ (by omega)
  rw [← hp1] at HAsk
  have HYes : Hid (∀ u q f (a t now : Nat), t ≤ 1000 → now ≤ 100000 → TR w.heap.size w q k a t f u → dueV (cs k a t) now → Calls Try.prog 19 #[.pointer (some ⟨w.heap.size, 0, none⟩), .int .i64 now] u fun e w' => e = .returned (.tuple #[.int .i64 (((t + 1) % k : Nat) : Int), .bool true]) ∧ TR w.heap.size w q k now (t + 1) f w') := fun u q f a t now ht hn hu hd =>
    (cltick_yes hu.co.c now (by omega) hd (by show t ≤ _; omega)).mono fun _ _ ⟨he, hc, ho⟩ => ⟨he.trans (congrArg (fun z => Ending.returned (.tuple #[.int .i64 z, .bool true])) (targ_cs k a t (t + 1))), hu.turn hc ho⟩
  have HNo : Hid (∀ u q f (a t now : Nat), now ≤ 100000 → TR w.heap.size w q k a t f u → ¬ dueV (cs k a t) now → Calls Try.prog 19 #[.pointer (some ⟨w.heap.size, 0, none⟩), .int .i64 now] u fun e w' => e = .returned (.tuple #[.int .i64 (-1), .bool false]) ∧ TR w.heap.size w q k a t f w') := fun u q f a t now hn hu hd =>
    (cltick_no hu.co.c now (by omega) hd).mono fun _ _ ⟨he, hb⟩ => ⟨he, hu.on hb⟩
  have HTries : Hid (∀ u q f (a t : Nat), TR w.heap.size w q k a t f u → Calls Try.prog 20 #[.pointer (some ⟨w.heap.size, 0, none⟩)] u fun e w' => e = .returned (.int .i64 t) ∧ u = w') := fun u q f a t hu => cltries_r hu.co.c
  have HMB := Lib.hid (made_bools hk1 hk5)
  have hmk := fun u : World => run_make_row' (P := Try.prog) 51 4 (.bool false) 1 Try.underlying51 (by kernel_rfl) rfl .i64 .i64 k (by omega) (by omega) u
  clear ek _hx hk hk0 hc hl hcap hmax hp1
  go_enter Try.func6, Try.ntmps6
  go_wp2_with fail
  rw [EK.out]
  with_reducible refine HNew.out.mono ?_
  rintro e w1 ⟨rfl, k1⟩
  have K1 := Lib.hid k1
  clear k1 HNew EK
  go_wp2_with fail
  with_reducible refine (HAsk.out _ K1.out).mono ?_
  rintro e w2 ⟨rfl, k2⟩
  have K2 := Lib.hid k2
  clear k2 K1 HAsk
  have p1k : (p1 : Int) < (k : Int) := by omega
  have p10 : ¬ (p1 : Int) < 0 := by omega
  have p1n : ¬ (k : Int) ≤ (p1 : Int) := by omega
  have p1n2 : ¬ k ≤ p1 := by omega
  go_wp2_with fail
  clear hmk
  have h0 : TR w.heap.size w w2.heap.size k 0 1 (inK k 1) (w2.alloc (.cells (madeCells #[.bool false] k) 4)) := by
    have h2 := heap_alloc_new w2 (.cells (madeCells #[.bool false] k) 4)
    rw [HMB.out] at h2 ⊢
    rw [inK_low k 1 (by omega)]
    exact ⟨K2.out.on ((Below.refl _ _).alloc (Nat.le_refl _) _), h2, K2.out.c.lt⟩
  have H0 := Lib.hid h0
  obtain ⟨q, hq⟩ : ∃ q, q = w2.heap.size := ⟨_, rfl⟩
  obtain ⟨w3, hw3⟩ : ∃ w3, w3 = w2.alloc (.cells (madeCells #[.bool false] k) 4) := ⟨_, rfl⟩
  rw [← hw3] at H0 ⊢
  rw [← hq] at H0 ⊢
  clear h0 hq hw3 K2 HMB p1k p10 p1n p1n2
  go_wp2
  go_loopw [14, 10, 11, 12] (fun s14 s10 s11 s12 wr => ∃ i now a t : Nat, i ≤ len ∧ i ≤ 60 ∧ s14 = .int .i64 i ∧ s10 = .int .i64 now ∧ s11 = .int .i64 a ∧ s12 = .int .i64 t ∧ Hid (now ≤ 20 * i) ∧ Hid (a ≤ now) ∧ Hid (1 ≤ t) ∧ Hid (t ≤ 1 + i) ∧ Hid (TR w.heap.size w q k a t (inK k t) wr)) (fun s14 _ _ _ _ => 60 - (intOf s14).toNat)
  case atStart => exact ⟨0, 0, 0, 1, Nat.zero_le _, Nat.zero_le _, rfl, rfl, rfl, rfl, Nat.le_refl _, Nat.le_refl _, Nat.le_refl _, by show 1 ≤ 1 + 0; omega, H0.out⟩
  case round =>
    clear H0
    obtain ⟨i, now, a, t, hi, hi6, rfl, rfl, rfl, rfl, HN, HA, H1, H2, HS⟩ := hrel
    by_cases hlt : i < len ∧ i < 60
    · obtain ⟨hl1, hl2⟩ := hlt
      have i1 : (i : Int) < (len : Int) := by omega
      have i2 : (i : Int) < 60 := by omega
      have hlL : i < l.length := by rw [← HL.out]; exact hl1
      obtain ⟨pb, off, rfl, hpb, hc⟩ := HC.out (by intro e; rw [e] at hlL; simp at hlL)
      have c1 := (HS.out.co.bel.cell (p := ⟨pb, off + i, none⟩) hpb).trans (hc i hlL)
      generalize l.getD i 0 = z at c1
      obtain ⟨d, hd20, ed⟩ := left_to z 20 (by decide) (by decide)
      obtain ⟨m, hm⟩ : ∃ m, m = now + d := ⟨_, rfl⟩
      have hn := HN.out
      have ha := HA.out
      have ht1 := H1.out
      have ht2 := H2.out
      have EX : Hid (wrap64 ((now : Int) + wrap64 ((IntKind.u64.wrap z).tmod 20)) = (m : Int)) := by
        show _ = _
        have ed' : wrap64 ((IntKind.u64.wrap z).tmod 20) = (d : Int) := ed
        rw [ed', hm]
        exact (IntWalk.wrap64_in _ (by omega)).trans (by omega)
      have hm1 : m ≤ 1300 := by omega
      have ham : a ≤ m := by omega
      have HMN : Hid (m ≤ 20 * (i + 1)) := by show m ≤ _; omega
      have ht3 : t ≤ 70 := by omega
      obtain ⟨M, hM⟩ : ∃ M, waitV (t : Int) = M := ⟨_, rfl⟩
      have HWt := Lib.hid (fun u => rewait_r t u M hM)
      have hamI : (a : Int) ≤ (m : Int) := by omega
      clear hc hpb hlL hl1 ed hm hd20 hn ha HN HA H2
      by_cases hd : dueV (cs k a t) m
      · have hMd : M ≤ (m : Int) - (a : Int) := by rw [← hM]; exact hd.2.2
        have HX := Lib.hid (HYes.out wr q _ a t m (by omega) (by omega) HS.out hd)
        obtain ⟨X, hX⟩ : ∃ X, X = (t + 1) % k := ⟨_, rfl⟩
        have hXk : X < k := by rw [hX]; exact Nat.mod_lt _ (by omega)
        have x0 : ¬ (X : Int) < 0 := by omega
        have x1 : ¬ (k : Int) ≤ (X : Int) := by omega
        have x2 : (X : Int) < (k : Int) := by omega
        have x3 : (0 : Int) ≤ (X : Int) := by omega
        have HXE := Lib.hid hX
        rw [← hX] at HX
        clear hX hM hd HS hamI
        go_wp2_with fail
        rw [EX.out]
        with_reducible refine HX.out.mono ?_
        rintro e w4 ⟨rfl, s4⟩
        have S4 := Lib.hid s4
        clear s4 HX EX c1
        go_wp2_with fail
        with_reducible refine (HWt.out _).mono ?_
        rintro e w5 ⟨rfl, b5⟩
        have S5 := Lib.hid (S4.out.on b5)
        clear b5 S4 HWt
        have HTr := Lib.hid (HTries.out _ _ _ _ _ S5.out)
        by_cases ht : 2 ≤ t
        · have ht' : (2 : Int) < (t : Int) + 1 := by omega
          obtain ⟨d0, d1⟩ := S5.out.cell hXk
          have S6 := Lib.hid (S5.out.set X)
          rw [HXE.out, inK_next k t ht] at S6
          rw [← HXE.out] at S6
          clear S5
          go_wp2_with fail
          with_reducible refine HTr.out.mono ?_
          rintro e w6 ⟨rfl, rfl⟩
          clear HTr
          go_wp2
          go_roundw
          case rel => first | exact ⟨i + 1, m, m, t + 1, by omega, by omega, (show (Value.int .i64 ((i : Int) + 1)) = .int .i64 ((i + 1 : Nat) : Int) from rfl), rfl, rfl, (show (Value.int .i64 ((t : Int) + 1)) = .int .i64 ((t + 1 : Nat) : Int) from rfl), HMN.out, Nat.le_refl _, by show 1 ≤ t + 1; omega, by show t + 1 ≤ 1 + (i + 1); omega, S6.out⟩ | ((repeat apply Exists.intro); exact ⟨⟨i + 1, m, m, t + 1, by omega, by omega, (show (Value.int .i64 ((i : Int) + 1)) = .int .i64 ((i + 1 : Nat) : Int) from rfl), rfl, rfl, (show (Value.int .i64 ((t : Int) + 1)) = .int .i64 ((t + 1 : Nat) : Int) from rfl), HMN.out, Nat.le_refl _, by show 1 ≤ t + 1; omega, by show t + 1 ≤ 1 + (i + 1); omega, S6.out⟩, rfl⟩)
          case measure => simp [intOf]; omega
        · have ht' : ¬ (2 : Int) < (t : Int) + 1 := by omega
          have S6 : Hid (TR w.heap.size w q k m (t + 1) (inK k (t + 1)) w5) := by
            have h := S5.out
            rw [inK_low k t (by omega)] at h
            rw [inK_low k (t + 1) (by omega)]
            exact h
          clear S5
          go_wp2_with fail
          with_reducible refine HTr.out.mono ?_
          rintro e w6 ⟨rfl, rfl⟩
          clear HTr
          go_wp2
          go_roundw
          case rel => first | exact ⟨i + 1, m, m, t + 1, by omega, by omega, (show (Value.int .i64 ((i : Int) + 1)) = .int .i64 ((i + 1 : Nat) : Int) from rfl), rfl, rfl, (show (Value.int .i64 ((t : Int) + 1)) = .int .i64 ((t + 1 : Nat) : Int) from rfl), HMN.out, Nat.le_refl _, by show 1 ≤ t + 1; omega, by show t + 1 ≤ 1 + (i + 1); omega, S6.out⟩ | ((repeat apply Exists.intro); exact ⟨⟨i + 1, m, m, t + 1, by omega, by omega, (show (Value.int .i64 ((i : Int) + 1)) = .int .i64 ((i + 1 : Nat) : Int) from rfl), rfl, rfl, (show (Value.int .i64 ((t : Int) + 1)) = .int .i64 ((t + 1 : Nat) : Int) from rfl), HMN.out, Nat.le_refl _, by show 1 ≤ t + 1; omega, by show t + 1 ≤ 1 + (i + 1); omega, S6.out⟩, rfl⟩)
          case measure => simp [intOf]; omega
      · have hMd : ¬ M ≤ (m : Int) - (a : Int) := by rw [← hM]; exact fun h => hd ⟨ht1, hamI, h⟩
        have HX := Lib.hid (HNo.out wr q _ a t m (by omega) HS.out hd)
        have HAM := Lib.hid ham
        clear hM hd HS hamI
        go_wp2_with fail
        rw [EX.out]
        with_reducible refine HX.out.mono ?_
        rintro e w4 ⟨rfl, s4⟩
        have S4 := Lib.hid s4
        clear s4 HX EX c1
        go_wp2_with fail
        with_reducible refine (HWt.out _).mono ?_
        rintro e w5 ⟨rfl, b5⟩
        have S5 := Lib.hid (S4.out.on b5)
        clear b5 S4 HWt
        go_wp2
        go_roundw
        case rel => first | exact ⟨i + 1, m, a, t, by omega, by omega, (show (Value.int .i64 ((i : Int) + 1)) = .int .i64 ((i + 1 : Nat) : Int) from rfl), rfl, rfl, rfl, HMN.out, HAM.out, H1.out, by show t ≤ 1 + (i + 1); omega, S5.out⟩ | ((repeat apply Exists.intro); exact ⟨⟨i + 1, m, a, t, by omega, by omega, (show (Value.int .i64 ((i : Int) + 1)) = .int .i64 ((i + 1 : Nat) : Int) from rfl), rfl, rfl, rfl, HMN.out, HAM.out, H1.out, by show t ≤ 1 + (i + 1); omega, S5.out⟩, rfl⟩)
        case measure => simp [intOf]; omega
    · have hls : ¬ ((i : Int) < (len : Int) ∧ (i : Int) < 60) := by omega
      obtain ⟨f, hf⟩ : ∃ f, f = inK k t := ⟨_, rfl⟩
      have HF := Lib.hid hf
      have HI5 := HF.out
      rw [← hf] at HS
      have hall : Hid (2 + k ≤ t → ∀ y, y < k → f y = true) := fun h y hy => by rw [HF.out]; exact inK_all hk1 hk5 h hy
      have ht9 : t ≤ 61 := by have := H2.out; omega
      clear hf HI5 HF HC HL HYes HNo HTries
      have HB0 : Hid (0 ≤ t) := Nat.zero_le _
      by_cases hil : (i : Int) < (len : Int)
      · have hi60 : ¬ (i : Int) < 60 := fun h => hls ⟨hil, h⟩
        clear hls
        go_wp2
        go_loopw [18, 17] (fun s18 s17 wr2 => ∃ (j : Nat) (g : Bool), j ≤ k ∧ s18 = .int .i64 j ∧ s17 = .bool g ∧ Hid ((∀ y, y < j → f y = true) → g = true) ∧ Hid (TR w.heap.size w q k a t f wr2)) (fun s18 _ _ => k - (intOf s18).toNat)
        case atStart => exact ⟨0, true, Nat.zero_le _, rfl, rfl, fun _ => rfl, HS.out⟩
        case round =>
          clear HS
          obtain ⟨j, g, hj, rfl, rfl, HG, HS⟩ := hrel
          by_cases hjk : j < k
          · have j1 : (j : Int) < (k : Int) := by omega
            obtain ⟨d0, -⟩ := HS.out.cell hjk
            cases g
            · have HG2 : Hid ((∀ y, y < j + 1 → f y = true) → false = true) := fun h => HG.out fun y hy => h y (by omega)
              clear HG d0
              go_wp2
              go_roundw
              case rel => first | exact ⟨j + 1, false, by omega, (show (Value.int .i64 ((j : Int) + 1)) = .int .i64 ((j + 1 : Nat) : Int) from rfl), rfl, HG2.out, HS.out⟩ | ((repeat apply Exists.intro); exact ⟨⟨j + 1, false, by omega, (show (Value.int .i64 ((j : Int) + 1)) = .int .i64 ((j + 1 : Nat) : Int) from rfl), rfl, HG2.out, HS.out⟩, rfl⟩)
              case measure => simp [intOf]; omega
            · obtain ⟨g2, hg2⟩ : ∃ g2, g2 = f j := ⟨_, rfl⟩
              have HG2 : Hid ((∀ y, y < j + 1 → f y = true) → g2 = true) := fun h => hg2.trans (h j (by omega))
              rw [← hg2] at d0
              clear HG hg2
              go_wp2
              go_roundw
              case rel => first | exact ⟨j + 1, g2, by omega, (show (Value.int .i64 ((j : Int) + 1)) = .int .i64 ((j + 1 : Nat) : Int) from rfl), rfl, HG2.out, HS.out⟩ | ((repeat apply Exists.intro); exact ⟨⟨j + 1, g2, by omega, (show (Value.int .i64 ((j : Int) + 1)) = .int .i64 ((j + 1 : Nat) : Int) from rfl), rfl, HG2.out, HS.out⟩, rfl⟩)
              case measure => simp [intOf]; omega
          · have j1 : ¬ (j : Int) < (k : Int) := by omega
            have HGA : Hid (2 + k ≤ t → g = true) := fun h => HG.out fun y hy => hall.out h y (by omega)
            have HB := Lib.hid HS.out.co.bel
            clear HG hall HS
            go_wp2_with fail
            with_reducible refine (HT.out _).mono ?_
            rintro e w9 ⟨rfl, b9⟩
            have HB9 := Lib.hid (HB.out.trans (b9.mono HB.out.size))
            clear b9 HB
            by_cases h2 : t < 2 + k
            · have h2' : (t : Int) < 2 + (k : Int) := by omega
              go_wp2
              go_returns
              exact ⟨by first | rfl | (simp; done), HB9.out⟩
            · have h2' : ¬ (t : Int) < 2 + (k : Int) := by omega
              obtain rfl : g = true := HGA.out (by omega)
              go_wp2
              go_returns
              exact ⟨by first | rfl | (simp; done), HB9.out⟩
      · clear hls
        go_wp2
        go_loopw [18, 17] (fun s18 s17 wr2 => ∃ (j : Nat) (g : Bool), j ≤ k ∧ s18 = .int .i64 j ∧ s17 = .bool g ∧ Hid ((∀ y, y < j → f y = true) → g = true) ∧ Hid (TR w.heap.size w q k a t f wr2)) (fun s18 _ _ => k - (intOf s18).toNat)
        case atStart => exact ⟨0, true, Nat.zero_le _, rfl, rfl, fun _ => rfl, HS.out⟩
        case round =>
          clear HS
          obtain ⟨j, g, hj, rfl, rfl, HG, HS⟩ := hrel
          by_cases hjk : j < k
          · have j1 : (j : Int) < (k : Int) := by omega
            obtain ⟨d0, -⟩ := HS.out.cell hjk
            cases g
            · have HG2 : Hid ((∀ y, y < j + 1 → f y = true) → false = true) := fun h => HG.out fun y hy => h y (by omega)
              clear HG d0
              go_wp2
              go_roundw
              case rel => first | exact ⟨j + 1, false, by omega, (show (Value.int .i64 ((j : Int) + 1)) = .int .i64 ((j + 1 : Nat) : Int) from rfl), rfl, HG2.out, HS.out⟩ | ((repeat apply Exists.intro); exact ⟨⟨j + 1, false, by omega, (show (Value.int .i64 ((j : Int) + 1)) = .int .i64 ((j + 1 : Nat) : Int) from rfl), rfl, HG2.out, HS.out⟩, rfl⟩)
              case measure => simp [intOf]; omega
            · obtain ⟨g2, hg2⟩ : ∃ g2, g2 = f j := ⟨_, rfl⟩
              have HG2 : Hid ((∀ y, y < j + 1 → f y = true) → g2 = true) := fun h => hg2.trans (h j (by omega))
              rw [← hg2] at d0
              clear HG hg2
              go_wp2
              go_roundw
              case rel => first | exact ⟨j + 1, g2, by omega, (show (Value.int .i64 ((j : Int) + 1)) = .int .i64 ((j + 1 : Nat) : Int) from rfl), rfl, HG2.out, HS.out⟩ | ((repeat apply Exists.intro); exact ⟨⟨j + 1, g2, by omega, (show (Value.int .i64 ((j : Int) + 1)) = .int .i64 ((j + 1 : Nat) : Int) from rfl), rfl, HG2.out, HS.out⟩, rfl⟩)
              case measure => simp [intOf]; omega
          · have j1 : ¬ (j : Int) < (k : Int) := by omega
            have HGA : Hid (2 + k ≤ t → g = true) := fun h => HG.out fun y hy => hall.out h y (by omega)
            have HB := Lib.hid HS.out.co.bel
            clear HG hall HS
            go_wp2_with fail
            with_reducible refine (HT.out _).mono ?_
            rintro e w9 ⟨rfl, b9⟩
            have HB9 := Lib.hid (HB.out.trans (b9.mono HB.out.size))
            clear b9 HB
            by_cases h2 : t < 2 + k
            · have h2' : (t : Int) < 2 + (k : Int) := by omega
              go_wp2
              go_returns
              exact ⟨by first | rfl | (simp; done), HB9.out⟩
            · have h2' : ¬ (t : Int) < 2 + (k : Int) := by omega
              obtain rfl : g = true := HGA.out (by omega)
              go_wp2
              go_returns
              exact ⟨by first | rfl | (simp; done), HB9.out⟩

set_option maxRecDepth 100000 in
theorem lifted (os : Os) (started : os.Started) (H : Type) (enc : TypeId × Value → H) :
    ReturnsInHanded {} Try.checked os 6 .any (Rows.clientTriesSpec.pre6 enc Try.prog Try.f6 Rows.clientTriesRow.domain false) (Rows.clientTriesSpec.post enc Try.prog Try.f6 false true false false) := by
  refine returnsInHanded_of_change (C := Try.checked) own started (by kernel_rfl) Try.func6
    (ChangeSpec.witness6 (enc := enc) (C := Try.checked) false ⟨#[], #[.int .i64 0, .slice none 0 0], []⟩ 8 (by kernel_rfl) (by kernel_rfl) (by kernel_rfl) (by kernel_rfl)) ?_
  intro W base args ds gs before hval0 hW hcnd _
  have hval : ∀ (j : Nat) t v, Try.f6.params[j]? = some t → args[j]? = some v → Value.okWide Try.prog W .any base t v := hval0
  have hW' := hW
  obtain ⟨p, q, hA0, hV, rfl, hfz, hnd⟩ := hW
  have hA : DataW.TrodAll enc Try.prog W 0 (fun _ => true) true Try.f6.params.toList args.toList ds p := hA0
  rw [Try.params6] at hA hval
  obtain ⟨v0, vs0, d0, ds0, p0, q0, hargs, rfl, rfl, h0, r0⟩ := trodAll_cons hA
  obtain ⟨v1, vs1, d1, ds1, p1, q1, rfl, rfl, rfl, h1, r1⟩ := trodAll_cons r0
  obtain ⟨rfl, rfl, rfl⟩ := trodAll_nil r1
  obtain rfl : args = #[v0, v1] := by cases args; simp_all
  obtain ⟨rfl, rfl⟩ := trodVars_none hV
  obtain ⟨a0, rfl, rfl, rfl, w0⟩ := open_int Try.underlying3 (hval 0 3 v0 rfl rfl) h0
  obtain ⟨a1, len1, cap1, rfl⟩ := okWide_slice Try.underlying22 (hval 1 22 v1 rfl rfl)
  have k1 := h1
  have lt1 : ∀ x ∈ p1, x.block < W.heap.size := by obtain ⟨m, hm⟩ := k1; exact DataW.trod_lt m _ _ _ hm
  obtain ⟨l1, w1⟩ := cints_open h1
  clear hA0 hval0
  refine (walk a0 (.slice a1 len1 cap1) l1 W w0 w1).mono fun e W' ⟨he, bel⟩ => ?_
  subst he
  exact ⟨_, rfl, _, _, _, [], _, [], hW', trodAll_mk1 (shut_bool Try.underlying4 _), (trodAll_cons_mk (shut_int Try.underlying3 w0) (trodAll_cons_mk (Below.trod laidOut (by kernel_rfl) (of_decide_eq_true (by kernel_rfl)) k1 bel lt1) trodAll_mk0)), rfl, bel.frame _, fun h => by cases h⟩

theorem over : Rows.clientTriesRow.holds Try.pinned (OpenSpec.ofChange Rows.clientTriesSpec) :=
  OpenClaim.holds_of_wide 6 Try.f6 rfl rfl rfl rfl rfl rfl rfl ⟨rfl, rfl, rfl, rfl, rfl⟩ rfl rfl rfl rfl rfl (by kernel_rfl) Try.func6 (by kernel_rfl)
    (of_decide_eq_true (by kernel_rfl)) (by unfold Func.isWrapper; first | (rw [if_pos (by decide +kernel)]; kernel_rfl) | (rw [if_neg (by decide +kernel)]; exact ⟨rfl, rfl⟩))
    (fun os started H enc _ => lifted os started H enc)
end Go.Proofs.Ytpcbpimlakehcaa.ClientTries

namespace Go.Proofs.Ytpcbpimlakehcaa
theorem clientTries_holds : Rows.ClientTriesSaid := ClientTries.over
#print axioms clientTries_holds
end Go.Proofs.Ytpcbpimlakehcaa
