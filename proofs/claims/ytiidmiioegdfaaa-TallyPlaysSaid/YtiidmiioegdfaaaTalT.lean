/-
  TOLD: what casebooklaw14.told asks holds.
-/
import Derived.Test.YtiidmiioegdfaaaTalC
import Derived.Test.YtiidmiioegdfaaaItemRC
import Derived.Test.YtiidmiioegdfaaaPackBase
namespace Go.Proofs.Ytiidmiioegdfaaa
open Go.RowKit Go.Maps

theorem KTal.vot {w w' : World} (h : KTal w w') {b : Nat} {v : VoteV} {cv : Value} (hc : VotB w b v cv) : VotB w' b v cv := h.same b _ _ hc (by decide)
theorem KTal.bal {w w' : World} (h : KTal w w') {b : Nat} {r k : Int} (hc : BalB w b r k) : BalB w' b r k := h.same b _ _ hc (by decide)
theorem KTal.ch {w w' : World} (h : KTal w w') {b : Nat} {ep : Int} {v : Value} (hc : ChT w b ep v) : ChT w' b ep v := h.same b _ _ hc (by decide)
theorem row_one (w : World) (x : Int) : RowI (w.alloc (.cells #[.int .i64 x] 3)) (.slice (some ⟨w.heap.size, 0, none⟩) 1 1) [x] := by
  refine ⟨_, _, rfl, Nat.le_refl _, by simp [maxLen], fun e => by simp at e, fun _ => ⟨_, _, _, rfl, heap_alloc_new w _, fun j hj => ?_⟩⟩
  have : j = 0 := by simpa using hj
  subst this
  rw [Nat.zero_add, cell_of_row _ _ _ _ _ _ (heap_alloc_new w _)]
  rfl

/-- told's count, and its boxes. -/
structure T14 (n : Nat) (w : World) (p q r1 : Nat) (s : TalV) (u : World) : Prop where
  t : TO n w p s u
  b : BalB u (n + 2) 5 1
  c : ChT u q 2 (.slice (some ⟨r1, 0, none⟩) 1 1)
  r : RowI u (.slice (some ⟨r1, 0, none⟩) 1 1) [1]
section
variable {n p q r1 : Nat} {w u u' : World} {s s' : TalV}
theorem T14.on (h : T14 n w p q r1 s u) (hb : Below u.heap.size u u') : T14 n w p q r1 s u' := ⟨h.t.on hb, h.b.keep hb h.b.lt, h.c.keep hb h.c.lt, h.r.on hb⟩
theorem T14.turn (h : T14 n w p q r1 s u) (ht : TO n w p s' u') (hk : KTal u u') : T14 n w p q r1 s' u' := ⟨ht, hk.bal h.b, hk.ch h.c, hk.row h.r⟩
theorem T14.still (h : T14 n w p q r1 s u) (hb : Below u.heap.size u u') : T14 n w p q r1 s u' := h.on hb
end
def s14a : TalV := ⟨3, 5, 1, [0], [], 2, [0], false, 0, 0⟩
def s14b : TalV := ⟨3, 5, 1, [0, 1], [], 2, [1], true, 3, 0⟩
def s14c : TalV := ⟨3, 5, 1, [0, 1], [0], 2, [1], true, 3, 0⟩
def s14d : TalV := ⟨3, 5, 1, [0, 1], [0, 2], 2, [1], true, 3, 0⟩
theorem p14a : proS (TalV.first 3 5 1 2 [0]) 0 ⟨5, 1, 0, 0, false, 0, []⟩ = s14a ∧ proB (TalV.first 3 5 1 2 [0]) 0 ⟨5, 1, 0, 0, false, 0, []⟩ = true := by
  have h : proB (TalV.first 3 5 1 2 [0]) 0 ⟨5, 1, 0, 0, false, 0, []⟩ = true := by decide
  exact ⟨by rw [proS, if_pos h, if_neg (by decide)]; rfl, h⟩
theorem p14b : proS s14a 1 ⟨5, 1, 3, 0, true, 2, [1]⟩ = s14b ∧ proB s14a 1 ⟨5, 1, 3, 0, true, 2, [1]⟩ = true := by
  have h : proB s14a 1 ⟨5, 1, 3, 0, true, 2, [1]⟩ = true := by decide
  exact ⟨by rw [proS, if_pos h, if_pos (by decide)]; rfl, h⟩
theorem y14c : yesS s14b 0 = s14c ∧ yesB s14b 0 = true := by
  have h : yesB s14b 0 = true := by decide
  exact ⟨by rw [yesS, if_pos h]; rfl, h⟩
theorem y14d : yesS s14c 2 = s14d ∧ yesB s14c 2 = true := by
  have h : yesB s14c 2 = true := by decide
  exact ⟨by rw [yesS, if_pos h]; rfl, h⟩
theorem y14e : yesS s14d 2 = s14d ∧ yesB s14d 2 = false := by
  have h : yesB s14d 2 = false := by decide
  exact ⟨by rw [yesS, if_neg (by rw [h]; decide)], h⟩

set_option maxHeartbeats 8000000 in
set_option maxRecDepth 100000 in
theorem told14_any (w : World) : Calls Try.prog 8 #[] w fun e w' => e = .returned (.bool true) ∧ Below w.heap.size w w' := by
  obtain ⟨n, hn⟩ : ∃ n, n = w.heap.size := ⟨_, rfl⟩
  obtain ⟨W0, hW0⟩ : ∃ W, W = ((w.alloc (.cells #[.int .i64 0] 3)).alloc (.cells #[.int .i64 2, .slice (some ⟨w.heap.size, 0, none⟩) 1 1] 26)).alloc (.cells #[.int .i64 5, .int .i64 1] 23) := ⟨_, rfl⟩
  have b0 : Below n w W0 := by rw [hW0, hn]; exact (((Below.refl _ w).alloc (Nat.le_refl _) _).alloc (by simp) _).alloc (by simp; omega) _
  have r0 : RowI W0 (.slice (some ⟨n, 0, none⟩) 1 1) [0] := by
    rw [hW0, hn]
    exact (row_one w 0).on (((Below.refl _ _).alloc (Nat.le_refl _) _).alloc (by simp) _)
  have c0 : ChT W0 (n + 1) 2 (.slice (some ⟨n, 0, none⟩) 1 1) := by
    rw [hW0, hn]
    have h := ChT.fresh (w.alloc (.cells #[.int .i64 0] 3)) 2 (.slice (some ⟨w.heap.size, 0, none⟩) 1 1)
    rw [World.size_alloc] at h
    exact h.keep ((Below.refl _ _).alloc (Nat.le_refl _) _) (by simp)
  have q0 : BalB W0 (n + 2) 5 1 := by
    rw [hW0, hn]
    have h := BalB.fresh ((w.alloc (.cells #[.int .i64 0] 3)).alloc (.cells #[.int .i64 2, .slice (some ⟨w.heap.size, 0, none⟩) 1 1] 26)) 5 1
    rwa [World.size_alloc, World.size_alloc] at h
  have hs0 : n ≤ W0.heap.size := by rw [hW0, hn]; simp; omega
  have HN : Hid (Calls Try.prog 9 #[.int .i64 3, .agg #[.int .i64 5, .int .i64 1], .agg #[.int .i64 2, .slice (some ⟨n, 0, none⟩) 1 1]] W0 fun e w' => ∃ p, e = .returned (.tuple #[.pointer (some ⟨p, 0, none⟩), .int .i64 0]) ∧ Hid (TO n w p (TalV.first 3 5 1 2 [0]) w' ∧ Below W0.heap.size W0 w')) :=
    to_new 3 (by decide) (by decide) 5 1 (by decide) 2 _ [0] _ r0.ints (Nat.le_refl _) (by decide) b0 hs0
  have HP1 : Hid (∀ u p q r1, T14 n w p q r1 (TalV.first 3 5 1 2 [0]) u → Calls Try.prog 14 #[.pointer (some ⟨p, 0, none⟩), .int .i64 0, .agg #[.int .i64 5, .int .i64 1, .int .i64 0, .int .i64 0, .bool false, .int .i64 0, .slice none 0 0]] u fun e w' => e = .returned (.bool true) ∧ Hid (T14 n w p q r1 s14a w')) :=
    fun u p q r1 hu => (to_pro hu.t 0 ⟨5, 1, 0, 0, false, 0, []⟩ (.slice none 0 0) _ (RowI.none u).ints (Nat.le_refl _) (by decide) (by decide) (by decide) p14a.1 p14a.2).mono fun _ _ ⟨he, hh⟩ => ⟨he, hu.turn hh.out.1 hh.out.2⟩
  have HR1 : Hid (∀ u p q r1, T14 n w p q r1 s14a u → Calls Try.prog 18 #[.pointer (some ⟨p, 0, none⟩)] u fun e w' => e = .returned (.bool false) ∧ Hid (T14 n w p q r1 s14a w')) :=
    fun u p q r1 hu => (to_rdy hu.t (by decide)).mono fun _ _ ⟨he, hh⟩ => ⟨he, hu.on hh.out.2⟩
  have HP2 : Hid (∀ u p q r1, T14 n w p q r1 s14a u → Calls Try.prog 14 #[.pointer (some ⟨p, 0, none⟩), .int .i64 1, .agg #[.int .i64 5, .int .i64 1, .int .i64 3, .int .i64 0, .bool true, .int .i64 2, .slice (some ⟨r1, 0, none⟩) 1 1]] u fun e w' => e = .returned (.bool true) ∧ Hid (T14 n w p q r1 s14b w')) :=
    fun u p q r1 hu => (to_pro hu.t 1 ⟨5, 1, 3, 0, true, 2, [1]⟩ _ _ hu.r.ints (Nat.le_refl _) (by decide) (by decide) (by decide) p14b.1 p14b.2).mono fun _ _ ⟨he, hh⟩ => ⟨he, hu.turn hh.out.1 hh.out.2⟩
  have HR2 : Hid (∀ u p q r1, T14 n w p q r1 s14b u → Calls Try.prog 18 #[.pointer (some ⟨p, 0, none⟩)] u fun e w' => e = .returned (.bool true) ∧ Hid (T14 n w p q r1 s14b w')) :=
    fun u p q r1 hu => (to_rdy hu.t (by decide)).mono fun _ _ ⟨he, hh⟩ => ⟨he, hu.on hh.out.2⟩
  have HC : Hid (∀ u p q r1, T14 n w p q r1 s14b u → Calls Try.prog 21 #[.pointer (some ⟨p, 0, none⟩)] u fun e w' => ∃ a c, e = .returned (.agg #[.int .i64 2, .slice a 1 c]) ∧ Hid (RowI w' (.slice a 1 c) [1] ∧ T14 n w p q r1 s14b w')) :=
    fun u p q r1 hu => (to_chain hu.t).mono fun _ _ ⟨a, c, he, hh⟩ => ⟨a, c, he, hh.out.1, hu.on hh.out.2.2⟩
  have HSC : Hid (∀ u v1 v2 p q r1, T14 n w p q r1 s14b u → RowI u v1 [1] → RowI u v2 [1] → Calls Try.prog 20 #[.agg #[.int .i64 2, v1], .agg #[.int .i64 2, v2]] u fun e w' => e = .returned (.bool true) ∧ Hid (T14 n w p q r1 s14b w')) := fun u v1 v2 p q r1 hu h1 h2 =>
    (refsame_any 2 2 v1 v2 [1] [1] u.heap.size u h1.ints h2.ints (Nat.le_refl _) (by decide)).mono fun _ _ ⟨he, hb⟩ => ⟨by simpa using he, hu.on hb⟩
  have HY1 : Hid (∀ u p q r1, T14 n w p q r1 s14b u → Calls Try.prog 16 #[.pointer (some ⟨p, 0, none⟩), .int .i64 0] u fun e w' => e = .returned (.bool true) ∧ Hid (T14 n w p q r1 s14c w')) :=
    fun u p q r1 hu => (to_yes hu.t 0 y14c.1 y14c.2).mono fun _ _ ⟨he, hh⟩ => ⟨he, hu.turn hh.out.1 hh.out.2⟩
  have HD1 : Hid (∀ u p q r1, T14 n w p q r1 s14c u → Calls Try.prog 19 #[.pointer (some ⟨p, 0, none⟩)] u fun e w' => e = .returned (.bool false) ∧ Hid (T14 n w p q r1 s14c w')) :=
    fun u p q r1 hu => (to_don hu.t (by decide)).mono fun _ _ ⟨he, hh⟩ => ⟨he, hu.on hh.out.2⟩
  have HY2 : Hid (∀ u p q r1, T14 n w p q r1 s14c u → Calls Try.prog 16 #[.pointer (some ⟨p, 0, none⟩), .int .i64 2] u fun e w' => e = .returned (.bool true) ∧ Hid (T14 n w p q r1 s14d w')) :=
    fun u p q r1 hu => (to_yes hu.t 2 y14d.1 y14d.2).mono fun _ _ ⟨he, hh⟩ => ⟨he, hu.turn hh.out.1 hh.out.2⟩
  have HD2 : Hid (∀ u p q r1, T14 n w p q r1 s14d u → Calls Try.prog 19 #[.pointer (some ⟨p, 0, none⟩)] u fun e w' => e = .returned (.bool true) ∧ Hid (T14 n w p q r1 s14d w')) :=
    fun u p q r1 hu => (to_don hu.t (by decide)).mono fun _ _ ⟨he, hh⟩ => ⟨he, hu.on hh.out.2⟩
  have HY3 : Hid (∀ u p q r1, T14 n w p q r1 s14d u → Calls Try.prog 16 #[.pointer (some ⟨p, 0, none⟩), .int .i64 2] u fun e w' => e = .returned (.bool false) ∧ Hid (T14 n w p q r1 s14d w')) :=
    fun u p q r1 hu => (to_yes hu.t 2 y14e.1 y14e.2).mono fun _ _ ⟨he, hh⟩ => ⟨he, hu.turn hh.out.1 hh.out.2⟩
  have HM5 : Hid (∀ u, Calls Try.prog 12 #[.int .i64 5] u fun e w' => e = .returned (.int .i64 3) ∧ u = w') := fun u => tymost_r 5 u (by decide) (by decide)
  have HM4 : Hid (∀ u, Calls Try.prog 12 #[.int .i64 4] u fun e w' => e = .returned (.int .i64 3) ∧ u = w') := fun u => tymost_r 4 u (by decide) (by decide)
  have HM0 : Hid (∀ u, Calls Try.prog 12 #[.int .i64 0] u fun e w' => e = .returned (.int .i64 0) ∧ u = w') := fun u => tymost_r 0 u (by decide) (by decide)
  have C0 := Lib.hid c0
  have Q0 := Lib.hid q0
  have HW0 := Lib.hid hW0
  have HNN := Lib.hid hn
  obtain ⟨g0, g1, _, _⟩ := c0.cells
  obtain ⟨g2, g3, _, _⟩ := q0.cells
  rw [hW0, hn] at g0 g1 g2 g3
  rw [← hn]
  clear hW0 b0 r0 c0 q0 hs0 hn
  go_enter Try.func8, Try.ntmps8
  go_wp2_with fail
  rw [← HW0.out, ← HNN.out, show n + 1 + 1 = n + 2 from rfl]
  clear g0 g1 g2 g3
  refine HN.out.mono ?_
  rintro e w1 ⟨p, rfl, H1⟩
  obtain ⟨y2, hy2⟩ : ∃ y, y = w1.alloc (.cells #[.int .i64 1] 3) := ⟨_, rfl⟩
  obtain ⟨y3, hy3⟩ : ∃ y, y = y2.alloc (.cells #[.int .i64 2, .slice (some ⟨w1.heap.size, 0, none⟩) 1 1] 26) := ⟨_, rfl⟩
  have e2 : Below w1.heap.size w1 y2 := by rw [hy2]; exact (Below.refl _ _).alloc (Nat.le_refl _) _
  have e3 : Below y2.heap.size y2 y3 := by rw [hy3]; exact (Below.refl _ _).alloc (Nat.le_refl _) _
  obtain ⟨r1, hr1⟩ : ∃ r, r = w1.heap.size := ⟨_, rfl⟩
  obtain ⟨q, hq⟩ : ∃ q, q = y2.heap.size := ⟨_, rfl⟩
  have hqr : q = r1 + 1 := by rw [hq, hy2, hr1]; simp
  have HQR := Lib.hid hqr
  have T3 : T14 n w p q r1 (TalV.first 3 5 1 2 [0]) y3 := by
    refine ⟨(H1.out.1.on e2).on e3, ?_, ?_, ?_⟩
    · have h := Q0.out.keep H1.out.2 Q0.out.lt
      have h := h.keep e2 h.lt
      exact h.keep e3 h.lt
    · rw [hy3, hq, hr1]; exact ChT.fresh y2 _ _
    · have h := row_one w1 1
      rw [← hy2, ← hr1] at h
      exact h.on e3
  have HT3 := Lib.hid T3
  have HY3' : Hid (y3 = (w1.alloc (.cells #[.int .i64 1] 3)).alloc (.cells #[.int .i64 2, .slice (some ⟨r1, 0, none⟩) 1 1] 26)) := by show _ = _; rw [hy3, hy2, hr1]
  have HR1' := Lib.hid hr1
  obtain ⟨g2, g3, _, _⟩ := T3.b.cells
  rw [HY3'.out, HR1'.out] at g2 g3
  clear hy2 hy3 e2 e3 hq hqr T3 hr1
  go_wp2_with fail
  rw [← HR1'.out, ← HY3'.out]
  clear g2 g3
  refine (HP1.out _ _ _ _ HT3.out).mono ?_
  rintro e w2 ⟨rfl, H2⟩
  rw [← HQR.out]
  go_wp2_with fail
  refine (HR1.out _ _ _ _ H2.out).mono ?_
  rintro e w3 ⟨rfl, H3⟩
  obtain ⟨g2, g3, _, _⟩ := H3.out.b.cells
  obtain ⟨g4, g5, _, _⟩ := H3.out.c.cells
  go_wp2_with fail
  refine (HP2.out _ _ _ _ H3.out).mono ?_
  rintro e w4 ⟨rfl, H4⟩
  clear g2 g3 g4 g5
  go_wp2_with fail
  have HS : Hid (∀ u s, T14 n w p q r1 s u → (fun u => u.cell? ⟨q, 0, none⟩ = some (.int .i64 2) ∧ u.cell? ⟨q, 1, none⟩ = some (.slice (some ⟨r1, 0, none⟩) 1 1)) u) := fun u s h => ⟨h.c.cells.1, h.c.cells.2.1⟩
  refine wp_region_held_drew (S := (fun u => u.cell? ⟨q, 0, none⟩ = some (.int .i64 2) ∧ u.cell? ⟨q, 1, none⟩ = some (.slice (some ⟨r1, 0, none⟩) 1 1))) (by kernel_rfl) (HS.out _ _ (H4.out.on (Below.drew (Below.refl _ _)))) (fun hHeld => ?_)
  first
    | (refine held_take 0 38 (v := ?_) rfl rfl (by kernel_rfl) (by kernel_rfl) (by kernel_rfl) (fun _ _ _ h => h) (by assumption) (by rfl) ?_ ?_; rotate_left; (focus (intro w hSw; obtain ⟨hS0, hS1⟩ := hSw; go_simp <;> with_reducible rfl)))
    | refine held_pass 0 38 rfl rfl (by kernel_rfl) (by kernel_rfl) (by kernel_rfl) (fun _ _ _ h => h) (by assumption) (by rfl) ?_
  simp only [Act.put, List.setIfInBounds_toArray, List.set_cons_zero, List.set_cons_succ]
  first
    | (refine held_take 1 39 (v := ?_) rfl rfl (by kernel_rfl) (by kernel_rfl) (by kernel_rfl) (fun _ _ _ h => h) (by assumption) (by rfl) ?_ ?_; rotate_left; (focus (intro w hSw; obtain ⟨hS0, hS1⟩ := hSw; go_simp <;> with_reducible rfl)))
    | refine held_pass 1 39 rfl rfl (by kernel_rfl) (by kernel_rfl) (by kernel_rfl) (fun _ _ _ h => h) (by assumption) (by rfl) ?_
  simp only [Act.put, List.setIfInBounds_toArray, List.set_cons_zero, List.set_cons_succ]
  first
    | (refine held_take 2 40 (v := ?_) rfl rfl (by kernel_rfl) (by kernel_rfl) (by kernel_rfl) (fun _ _ _ h => h) (by assumption) (by rfl) ?_ ?_; rotate_left; (focus (intro w hSw; obtain ⟨hS0, hS1⟩ := hSw; go_simp <;> with_reducible rfl)))
    | refine held_pass 2 40 rfl rfl (by kernel_rfl) (by kernel_rfl) (by kernel_rfl) (fun _ _ _ h => h) (by assumption) (by rfl) ?_
  simp only [Act.put, List.setIfInBounds_toArray, List.set_cons_zero, List.set_cons_succ]
  first
    | (refine held_take 3 41 (v := ?_) rfl rfl (by kernel_rfl) (by kernel_rfl) (by kernel_rfl) (fun _ _ _ h => h) (by assumption) (by rfl) ?_ ?_; rotate_left; (focus (intro w hSw; obtain ⟨hS0, hS1⟩ := hSw; go_simp <;> with_reducible rfl)))
    | refine held_pass 3 41 rfl rfl (by kernel_rfl) (by kernel_rfl) (by kernel_rfl) (fun _ _ _ h => h) (by assumption) (by rfl) ?_
  simp only [Act.put, List.setIfInBounds_toArray, List.set_cons_zero, List.set_cons_succ]
  first
    | (refine held_take 4 42 (v := ?_) rfl rfl (by kernel_rfl) (by kernel_rfl) (by kernel_rfl) (fun _ _ _ h => h) (by assumption) (by rfl) ?_ ?_; rotate_left; (focus (intro w hSw; obtain ⟨hS0, hS1⟩ := hSw; go_simp <;> with_reducible rfl)))
    | refine held_pass 4 42 rfl rfl (by kernel_rfl) (by kernel_rfl) (by kernel_rfl) (fun _ _ _ h => h) (by assumption) (by rfl) ?_
  simp only [Act.put, List.setIfInBounds_toArray, List.set_cons_zero, List.set_cons_succ]
  first
    | (refine held_take 5 43 (v := ?_) rfl rfl (by kernel_rfl) (by kernel_rfl) (by kernel_rfl) (fun _ _ _ h => h) (by assumption) (by rfl) ?_ ?_; rotate_left; (focus (intro w hSw; obtain ⟨hS0, hS1⟩ := hSw; go_simp <;> with_reducible rfl)))
    | refine held_pass 5 43 rfl rfl (by kernel_rfl) (by kernel_rfl) (by kernel_rfl) (fun _ _ _ h => h) (by assumption) (by rfl) ?_
  simp only [Act.put, List.setIfInBounds_toArray, List.set_cons_zero, List.set_cons_succ]
  first
    | (refine held_take 6 44 (v := ?_) rfl rfl (by kernel_rfl) (by kernel_rfl) (by kernel_rfl) (fun _ _ _ h => h) (by assumption) (by rfl) ?_ ?_; rotate_left; (focus (intro w hSw; obtain ⟨hS0, hS1⟩ := hSw; go_simp <;> with_reducible rfl)))
    | refine held_pass 6 44 rfl rfl (by kernel_rfl) (by kernel_rfl) (by kernel_rfl) (fun _ _ _ h => h) (by assumption) (by rfl) ?_
  simp only [Act.put, List.setIfInBounds_toArray, List.set_cons_zero, List.set_cons_succ]
  first
    | (refine held_take 7 45 (v := ?_) rfl rfl (by kernel_rfl) (by kernel_rfl) (by kernel_rfl) (fun _ _ _ h => h) (by assumption) (by rfl) ?_ ?_; rotate_left; (focus (intro w hSw; obtain ⟨hS0, hS1⟩ := hSw; go_simp <;> with_reducible rfl)))
    | refine held_pass 7 45 rfl rfl (by kernel_rfl) (by kernel_rfl) (by kernel_rfl) (fun _ _ _ h => h) (by assumption) (by rfl) ?_
  simp only [Act.put, List.setIfInBounds_toArray, List.set_cons_zero, List.set_cons_succ]
  first
    | (refine held_take 8 46 (v := ?_) rfl rfl (by kernel_rfl) (by kernel_rfl) (by kernel_rfl) (fun _ _ _ h => h) (by assumption) (by rfl) ?_ ?_; rotate_left; (focus (intro w hSw; obtain ⟨hS0, hS1⟩ := hSw; go_simp <;> with_reducible rfl)))
    | refine held_pass 8 46 rfl rfl (by kernel_rfl) (by kernel_rfl) (by kernel_rfl) (fun _ _ _ h => h) (by assumption) (by rfl) ?_
  simp only [Act.put, List.setIfInBounds_toArray, List.set_cons_zero, List.set_cons_succ]
  first
    | (refine held_take 9 47 (v := ?_) rfl rfl (by kernel_rfl) (by kernel_rfl) (by kernel_rfl) (fun _ _ _ h => h) (by assumption) (by rfl) ?_ ?_; rotate_left; (focus (intro w hSw; obtain ⟨hS0, hS1⟩ := hSw; go_simp <;> with_reducible rfl)))
    | refine held_pass 9 47 rfl rfl (by kernel_rfl) (by kernel_rfl) (by kernel_rfl) (fun _ _ _ h => h) (by assumption) (by rfl) ?_
  simp only [Act.put, List.setIfInBounds_toArray, List.set_cons_zero, List.set_cons_succ]
  refine held_call 10 48 rfl rfl (by kernel_rfl) (by rfl) (fun K hK => ?_)
  simp only [Go.wp_at_succ, Go.wp_at_zero]
  go_simp
  refine (HR2.out _ _ _ _ (H4.out.on (Below.drew (Below.refl _ _)))).mono ?_
  rintro e w5 ⟨rfl, H5⟩
  first | (with_reducible refine hK.out _ _ ?_ (fun hHeld => ?_)) | (go_wp2_with fail; refine hK.out _ _ ?_ (fun hHeld => ?_))
  · exact HS.out _ _ H5.out
  clear hK K
  try simp only [Act.put, List.setIfInBounds_toArray, List.set_cons_zero, List.set_cons_succ]
  first
    | (refine held_take 11 49 (v := ?_) rfl rfl (by kernel_rfl) (by kernel_rfl) (by kernel_rfl) (fun _ _ _ h => h) (by assumption) (by rfl) ?_ ?_; rotate_left; (focus (intro w hSw; obtain ⟨hS0, hS1⟩ := hSw; go_simp <;> with_reducible rfl)))
    | refine held_pass 11 49 rfl rfl (by kernel_rfl) (by kernel_rfl) (by kernel_rfl) (fun _ _ _ h => h) (by assumption) (by rfl) ?_
  simp only [Act.put, List.setIfInBounds_toArray, List.set_cons_zero, List.set_cons_succ]
  first
    | (refine held_take 12 50 (v := ?_) rfl rfl (by kernel_rfl) (by kernel_rfl) (by kernel_rfl) (fun _ _ _ h => h) (by assumption) (by rfl) ?_ ?_; rotate_left; (focus (intro w hSw; obtain ⟨hS0, hS1⟩ := hSw; go_simp <;> with_reducible rfl)))
    | refine held_pass 12 50 rfl rfl (by kernel_rfl) (by kernel_rfl) (by kernel_rfl) (fun _ _ _ h => h) (by assumption) (by rfl) ?_
  simp only [Act.put, List.setIfInBounds_toArray, List.set_cons_zero, List.set_cons_succ]
  first
    | (refine held_take 13 51 (v := ?_) rfl rfl (by kernel_rfl) (by kernel_rfl) (by kernel_rfl) (fun _ _ _ h => h) (by assumption) (by rfl) ?_ ?_; rotate_left; (focus (intro w hSw; obtain ⟨hS0, hS1⟩ := hSw; go_simp <;> with_reducible rfl)))
    | refine held_pass 13 51 rfl rfl (by kernel_rfl) (by kernel_rfl) (by kernel_rfl) (fun _ _ _ h => h) (by assumption) (by rfl) ?_
  simp only [Act.put, List.setIfInBounds_toArray, List.set_cons_zero, List.set_cons_succ]
  first
    | (refine held_take 15 53 (v := ?_) rfl rfl (by kernel_rfl) (by kernel_rfl) (by kernel_rfl) (fun _ _ _ h => h) (by assumption) (by rfl) ?_ ?_; rotate_left; (focus (intro w hSw; obtain ⟨hS0, hS1⟩ := hSw; go_simp <;> with_reducible rfl)))
    | refine held_pass 15 53 rfl rfl (by kernel_rfl) (by kernel_rfl) (by kernel_rfl) (fun _ _ _ h => h) (by assumption) (by rfl) ?_
  simp only [Act.put, List.setIfInBounds_toArray, List.set_cons_zero, List.set_cons_succ]
  refine held_call 14 52 rfl rfl (by kernel_rfl) (by rfl) (fun K hK => ?_)
  simp only [Go.wp_at_succ, Go.wp_at_zero]
  go_simp
  refine (HC.out _ _ _ _ H5.out).mono ?_
  rintro e w6 ⟨ca, cc, rfl, H6⟩
  first | (with_reducible refine hK.out _ _ ?_ (fun hHeld => ?_)) | (go_wp2_with fail; refine hK.out _ _ ?_ (fun hHeld => ?_))
  · exact HS.out _ _ H6.out.2
  clear hK K
  try simp only [Act.put, List.setIfInBounds_toArray, List.set_cons_zero, List.set_cons_succ]
  refine held_call 16 54 rfl rfl (by kernel_rfl) (by rfl) (fun K hK => ?_)
  simp only [Go.wp_at_succ, Go.wp_at_zero]
  go_simp
  refine (HSC.out _ _ _ _ _ _ H6.out.2 H6.out.1 H6.out.2.r).mono ?_
  rintro e w7 ⟨rfl, H7⟩
  first | (with_reducible refine hK.out _ _ ?_ (fun hHeld => ?_)) | (go_wp2_with fail; refine hK.out _ _ ?_ (fun hHeld => ?_))
  · exact HS.out _ _ H7.out
  clear hK K
  try simp only [Act.put, List.setIfInBounds_toArray, List.set_cons_zero, List.set_cons_succ]
  first
    | (refine held_take 17 55 (v := ?_) rfl rfl (by kernel_rfl) (by kernel_rfl) (by kernel_rfl) (fun _ _ _ h => h) (by assumption) (by rfl) ?_ ?_; rotate_left; (focus (intro w hSw; obtain ⟨hS0, hS1⟩ := hSw; go_simp <;> with_reducible rfl)))
    | refine held_pass 17 55 rfl rfl (by kernel_rfl) (by kernel_rfl) (by kernel_rfl) (fun _ _ _ h => h) (by assumption) (by rfl) ?_
  simp only [Act.put, List.setIfInBounds_toArray, List.set_cons_zero, List.set_cons_succ]
  first
    | (refine held_take 18 56 (v := ?_) rfl rfl (by kernel_rfl) (by kernel_rfl) (by kernel_rfl) (fun _ _ _ h => h) (by assumption) (by rfl) ?_ ?_; rotate_left; (focus (intro w hSw; obtain ⟨hS0, hS1⟩ := hSw; go_simp <;> with_reducible rfl)))
    | refine held_pass 18 56 rfl rfl (by kernel_rfl) (by kernel_rfl) (by kernel_rfl) (fun _ _ _ h => h) (by assumption) (by rfl) ?_
  simp only [Act.put, List.setIfInBounds_toArray, List.set_cons_zero, List.set_cons_succ]
  first
    | (refine held_take 19 57 (v := ?_) rfl rfl (by kernel_rfl) (by kernel_rfl) (by kernel_rfl) (fun _ _ _ h => h) (by assumption) (by rfl) ?_ ?_; rotate_left; (focus (intro w hSw; obtain ⟨hS0, hS1⟩ := hSw; go_simp <;> with_reducible rfl)))
    | refine held_pass 19 57 rfl rfl (by kernel_rfl) (by kernel_rfl) (by kernel_rfl) (fun _ _ _ h => h) (by assumption) (by rfl) ?_
  simp only [Act.put, List.setIfInBounds_toArray, List.set_cons_zero, List.set_cons_succ]
  refine held_call 20 58 rfl rfl (by kernel_rfl) (by rfl) (fun K hK => ?_)
  simp only [Go.wp_at_succ, Go.wp_at_zero]
  go_simp
  refine (HY1.out _ _ _ _ H7.out).mono ?_
  rintro e w8 ⟨rfl, H8⟩
  first | (with_reducible refine hK.out _ _ ?_ (fun hHeld => ?_)) | (go_wp2_with fail; refine hK.out _ _ ?_ (fun hHeld => ?_))
  · exact HS.out _ _ H8.out
  clear hK K
  try simp only [Act.put, List.setIfInBounds_toArray, List.set_cons_zero, List.set_cons_succ]
  first
    | (refine held_take 21 59 (v := ?_) rfl rfl (by kernel_rfl) (by kernel_rfl) (by kernel_rfl) (fun _ _ _ h => h) (by assumption) (by rfl) ?_ ?_; rotate_left; (focus (intro w hSw; obtain ⟨hS0, hS1⟩ := hSw; go_simp <;> with_reducible rfl)))
    | refine held_pass 21 59 rfl rfl (by kernel_rfl) (by kernel_rfl) (by kernel_rfl) (fun _ _ _ h => h) (by assumption) (by rfl) ?_
  simp only [Act.put, List.setIfInBounds_toArray, List.set_cons_zero, List.set_cons_succ]
  first
    | (refine held_take 22 60 (v := ?_) rfl rfl (by kernel_rfl) (by kernel_rfl) (by kernel_rfl) (fun _ _ _ h => h) (by assumption) (by rfl) ?_ ?_; rotate_left; (focus (intro w hSw; obtain ⟨hS0, hS1⟩ := hSw; go_simp <;> with_reducible rfl)))
    | refine held_pass 22 60 rfl rfl (by kernel_rfl) (by kernel_rfl) (by kernel_rfl) (fun _ _ _ h => h) (by assumption) (by rfl) ?_
  simp only [Act.put, List.setIfInBounds_toArray, List.set_cons_zero, List.set_cons_succ]
  first
    | (refine held_take 23 61 (v := ?_) rfl rfl (by kernel_rfl) (by kernel_rfl) (by kernel_rfl) (fun _ _ _ h => h) (by assumption) (by rfl) ?_ ?_; rotate_left; (focus (intro w hSw; obtain ⟨hS0, hS1⟩ := hSw; go_simp <;> with_reducible rfl)))
    | refine held_pass 23 61 rfl rfl (by kernel_rfl) (by kernel_rfl) (by kernel_rfl) (fun _ _ _ h => h) (by assumption) (by rfl) ?_
  simp only [Act.put, List.setIfInBounds_toArray, List.set_cons_zero, List.set_cons_succ]
  refine held_call 24 62 rfl rfl (by kernel_rfl) (by rfl) (fun K hK => ?_)
  simp only [Go.wp_at_succ, Go.wp_at_zero]
  go_simp
  refine (HD1.out _ _ _ _ H8.out).mono ?_
  rintro e w9 ⟨rfl, H9⟩
  first | (with_reducible refine hK.out _ _ ?_ (fun hHeld => ?_)) | (go_wp2_with fail; refine hK.out _ _ ?_ (fun hHeld => ?_))
  · exact HS.out _ _ H9.out
  clear hK K
  try simp only [Act.put, List.setIfInBounds_toArray, List.set_cons_zero, List.set_cons_succ]
  first
    | (refine held_take 25 63 (v := ?_) rfl rfl (by kernel_rfl) (by kernel_rfl) (by kernel_rfl) (fun _ _ _ h => h) (by assumption) (by rfl) ?_ ?_; rotate_left; (focus (intro w hSw; obtain ⟨hS0, hS1⟩ := hSw; go_simp <;> with_reducible rfl)))
    | refine held_pass 25 63 rfl rfl (by kernel_rfl) (by kernel_rfl) (by kernel_rfl) (fun _ _ _ h => h) (by assumption) (by rfl) ?_
  simp only [Act.put, List.setIfInBounds_toArray, List.set_cons_zero, List.set_cons_succ]
  first
    | (refine held_take 26 64 (v := ?_) rfl rfl (by kernel_rfl) (by kernel_rfl) (by kernel_rfl) (fun _ _ _ h => h) (by assumption) (by rfl) ?_ ?_; rotate_left; (focus (intro w hSw; obtain ⟨hS0, hS1⟩ := hSw; go_simp <;> with_reducible rfl)))
    | refine held_pass 26 64 rfl rfl (by kernel_rfl) (by kernel_rfl) (by kernel_rfl) (fun _ _ _ h => h) (by assumption) (by rfl) ?_
  simp only [Act.put, List.setIfInBounds_toArray, List.set_cons_zero, List.set_cons_succ]
  first
    | (refine held_take 27 65 (v := ?_) rfl rfl (by kernel_rfl) (by kernel_rfl) (by kernel_rfl) (fun _ _ _ h => h) (by assumption) (by rfl) ?_ ?_; rotate_left; (focus (intro w hSw; obtain ⟨hS0, hS1⟩ := hSw; go_simp <;> with_reducible rfl)))
    | refine held_pass 27 65 rfl rfl (by kernel_rfl) (by kernel_rfl) (by kernel_rfl) (fun _ _ _ h => h) (by assumption) (by rfl) ?_
  simp only [Act.put, List.setIfInBounds_toArray, List.set_cons_zero, List.set_cons_succ]
  first
    | (refine held_take 28 66 (v := ?_) rfl rfl (by kernel_rfl) (by kernel_rfl) (by kernel_rfl) (fun _ _ _ h => h) (by assumption) (by rfl) ?_ ?_; rotate_left; (focus (intro w hSw; obtain ⟨hS0, hS1⟩ := hSw; go_simp <;> with_reducible rfl)))
    | refine held_pass 28 66 rfl rfl (by kernel_rfl) (by kernel_rfl) (by kernel_rfl) (fun _ _ _ h => h) (by assumption) (by rfl) ?_
  simp only [Act.put, List.setIfInBounds_toArray, List.set_cons_zero, List.set_cons_succ]
  refine held_call 29 67 rfl rfl (by kernel_rfl) (by rfl) (fun K hK => ?_)
  simp only [Go.wp_at_succ, Go.wp_at_zero]
  go_simp
  refine (HY2.out _ _ _ _ H9.out).mono ?_
  rintro e w10 ⟨rfl, H10⟩
  first | (with_reducible refine hK.out _ _ ?_ (fun hHeld => ?_)) | (go_wp2_with fail; refine hK.out _ _ ?_ (fun hHeld => ?_))
  · exact HS.out _ _ H10.out
  clear hK K
  try simp only [Act.put, List.setIfInBounds_toArray, List.set_cons_zero, List.set_cons_succ]
  first
    | (refine held_take 30 68 (v := ?_) rfl rfl (by kernel_rfl) (by kernel_rfl) (by kernel_rfl) (fun _ _ _ h => h) (by assumption) (by rfl) ?_ ?_; rotate_left; (focus (intro w hSw; obtain ⟨hS0, hS1⟩ := hSw; go_simp <;> with_reducible rfl)))
    | refine held_pass 30 68 rfl rfl (by kernel_rfl) (by kernel_rfl) (by kernel_rfl) (fun _ _ _ h => h) (by assumption) (by rfl) ?_
  simp only [Act.put, List.setIfInBounds_toArray, List.set_cons_zero, List.set_cons_succ]
  first
    | (refine held_take 31 69 (v := ?_) rfl rfl (by kernel_rfl) (by kernel_rfl) (by kernel_rfl) (fun _ _ _ h => h) (by assumption) (by rfl) ?_ ?_; rotate_left; (focus (intro w hSw; obtain ⟨hS0, hS1⟩ := hSw; go_simp <;> with_reducible rfl)))
    | refine held_pass 31 69 rfl rfl (by kernel_rfl) (by kernel_rfl) (by kernel_rfl) (fun _ _ _ h => h) (by assumption) (by rfl) ?_
  simp only [Act.put, List.setIfInBounds_toArray, List.set_cons_zero, List.set_cons_succ]
  first
    | (refine held_take 32 70 (v := ?_) rfl rfl (by kernel_rfl) (by kernel_rfl) (by kernel_rfl) (fun _ _ _ h => h) (by assumption) (by rfl) ?_ ?_; rotate_left; (focus (intro w hSw; obtain ⟨hS0, hS1⟩ := hSw; go_simp <;> with_reducible rfl)))
    | refine held_pass 32 70 rfl rfl (by kernel_rfl) (by kernel_rfl) (by kernel_rfl) (fun _ _ _ h => h) (by assumption) (by rfl) ?_
  simp only [Act.put, List.setIfInBounds_toArray, List.set_cons_zero, List.set_cons_succ]
  refine held_call 33 71 rfl rfl (by kernel_rfl) (by rfl) (fun K hK => ?_)
  simp only [Go.wp_at_succ, Go.wp_at_zero]
  go_simp
  refine (HD2.out _ _ _ _ H10.out).mono ?_
  rintro e w11 ⟨rfl, H11⟩
  first | (with_reducible refine hK.out _ _ ?_ (fun hHeld => ?_)) | (go_wp2_with fail; refine hK.out _ _ ?_ (fun hHeld => ?_))
  · exact HS.out _ _ H11.out
  clear hK K
  try simp only [Act.put, List.setIfInBounds_toArray, List.set_cons_zero, List.set_cons_succ]
  first
    | (refine held_take 34 72 (v := ?_) rfl rfl (by kernel_rfl) (by kernel_rfl) (by kernel_rfl) (fun _ _ _ h => h) (by assumption) (by rfl) ?_ ?_; rotate_left; (focus (intro w hSw; obtain ⟨hS0, hS1⟩ := hSw; go_simp <;> with_reducible rfl)))
    | refine held_pass 34 72 rfl rfl (by kernel_rfl) (by kernel_rfl) (by kernel_rfl) (fun _ _ _ h => h) (by assumption) (by rfl) ?_
  simp only [Act.put, List.setIfInBounds_toArray, List.set_cons_zero, List.set_cons_succ]
  first
    | (refine held_take 35 73 (v := ?_) rfl rfl (by kernel_rfl) (by kernel_rfl) (by kernel_rfl) (fun _ _ _ h => h) (by assumption) (by rfl) ?_ ?_; rotate_left; (focus (intro w hSw; obtain ⟨hS0, hS1⟩ := hSw; go_simp <;> with_reducible rfl)))
    | refine held_pass 35 73 rfl rfl (by kernel_rfl) (by kernel_rfl) (by kernel_rfl) (fun _ _ _ h => h) (by assumption) (by rfl) ?_
  simp only [Act.put, List.setIfInBounds_toArray, List.set_cons_zero, List.set_cons_succ]
  first
    | (refine held_take 36 74 (v := ?_) rfl rfl (by kernel_rfl) (by kernel_rfl) (by kernel_rfl) (fun _ _ _ h => h) (by assumption) (by rfl) ?_ ?_; rotate_left; (focus (intro w hSw; obtain ⟨hS0, hS1⟩ := hSw; go_simp <;> with_reducible rfl)))
    | refine held_pass 36 74 rfl rfl (by kernel_rfl) (by kernel_rfl) (by kernel_rfl) (fun _ _ _ h => h) (by assumption) (by rfl) ?_
  simp only [Act.put, List.setIfInBounds_toArray, List.set_cons_zero, List.set_cons_succ]
  refine held_call 37 75 rfl rfl (by kernel_rfl) (by rfl) (fun K hK => ?_)
  simp only [Go.wp_at_succ, Go.wp_at_zero]
  go_simp
  refine (HY3.out _ _ _ _ H11.out).mono ?_
  rintro e w12 ⟨rfl, H12⟩
  first | (with_reducible refine hK.out _ _ ?_ (fun hHeld => ?_)) | (go_wp2_with fail; refine hK.out _ _ ?_ (fun hHeld => ?_))
  · exact HS.out _ _ H12.out
  clear hK K
  try simp only [Act.put, List.setIfInBounds_toArray, List.set_cons_zero, List.set_cons_succ]
  first
    | (refine held_take 38 76 (v := ?_) rfl rfl (by kernel_rfl) (by kernel_rfl) (by kernel_rfl) (fun _ _ _ h => h) (by assumption) (by rfl) ?_ ?_; rotate_left; (focus (intro w hSw; obtain ⟨hS0, hS1⟩ := hSw; go_simp <;> with_reducible rfl)))
    | refine held_pass 38 76 rfl rfl (by kernel_rfl) (by kernel_rfl) (by kernel_rfl) (fun _ _ _ h => h) (by assumption) (by rfl) ?_
  simp only [Act.put, List.setIfInBounds_toArray, List.set_cons_zero, List.set_cons_succ]
  first
    | (refine held_take 39 77 (v := ?_) rfl rfl (by kernel_rfl) (by kernel_rfl) (by kernel_rfl) (fun _ _ _ h => h) (by assumption) (by rfl) ?_ ?_; rotate_left; (focus (intro w hSw; obtain ⟨hS0, hS1⟩ := hSw; go_simp <;> with_reducible rfl)))
    | refine held_pass 39 77 rfl rfl (by kernel_rfl) (by kernel_rfl) (by kernel_rfl) (fun _ _ _ h => h) (by assumption) (by rfl) ?_
  simp only [Act.put, List.setIfInBounds_toArray, List.set_cons_zero, List.set_cons_succ]
  first
    | (refine held_take 40 78 (v := ?_) rfl rfl (by kernel_rfl) (by kernel_rfl) (by kernel_rfl) (fun _ _ _ h => h) (by assumption) (by rfl) ?_ ?_; rotate_left; (focus (intro w hSw; obtain ⟨hS0, hS1⟩ := hSw; go_simp <;> with_reducible rfl)))
    | refine held_pass 40 78 rfl rfl (by kernel_rfl) (by kernel_rfl) (by kernel_rfl) (fun _ _ _ h => h) (by assumption) (by rfl) ?_
  simp only [Act.put, List.setIfInBounds_toArray, List.set_cons_zero, List.set_cons_succ]
  refine held_call 41 79 rfl rfl (by kernel_rfl) (by rfl) (fun K hK => ?_)
  simp only [Go.wp_at_succ, Go.wp_at_zero]
  go_simp
  refine (HM5.out _).mono ?_
  rintro e wz ⟨rfl, rfl⟩
  first | (with_reducible refine hK.out _ _ ?_ (fun hHeld => ?_)) | (go_wp2_with fail; refine hK.out _ _ ?_ (fun hHeld => ?_))
  · exact HS.out _ _ H12.out
  clear hK K
  try simp only [Act.put, List.setIfInBounds_toArray, List.set_cons_zero, List.set_cons_succ]
  first
    | (refine held_take 42 80 (v := ?_) rfl rfl (by kernel_rfl) (by kernel_rfl) (by kernel_rfl) (fun _ _ _ h => h) (by assumption) (by rfl) ?_ ?_; rotate_left; (focus (intro w hSw; obtain ⟨hS0, hS1⟩ := hSw; go_simp <;> with_reducible rfl)))
    | refine held_pass 42 80 rfl rfl (by kernel_rfl) (by kernel_rfl) (by kernel_rfl) (fun _ _ _ h => h) (by assumption) (by rfl) ?_
  simp only [Act.put, List.setIfInBounds_toArray, List.set_cons_zero, List.set_cons_succ]
  first
    | (refine held_take 43 81 (v := ?_) rfl rfl (by kernel_rfl) (by kernel_rfl) (by kernel_rfl) (fun _ _ _ h => h) (by assumption) (by rfl) ?_ ?_; rotate_left; (focus (intro w hSw; obtain ⟨hS0, hS1⟩ := hSw; go_simp <;> with_reducible rfl)))
    | refine held_pass 43 81 rfl rfl (by kernel_rfl) (by kernel_rfl) (by kernel_rfl) (fun _ _ _ h => h) (by assumption) (by rfl) ?_
  simp only [Act.put, List.setIfInBounds_toArray, List.set_cons_zero, List.set_cons_succ]
  first
    | (refine held_take 44 82 (v := ?_) rfl rfl (by kernel_rfl) (by kernel_rfl) (by kernel_rfl) (fun _ _ _ h => h) (by assumption) (by rfl) ?_ ?_; rotate_left; (focus (intro w hSw; obtain ⟨hS0, hS1⟩ := hSw; go_simp <;> with_reducible rfl)))
    | refine held_pass 44 82 rfl rfl (by kernel_rfl) (by kernel_rfl) (by kernel_rfl) (fun _ _ _ h => h) (by assumption) (by rfl) ?_
  simp only [Act.put, List.setIfInBounds_toArray, List.set_cons_zero, List.set_cons_succ]
  refine held_call 45 83 rfl rfl (by kernel_rfl) (by rfl) (fun K hK => ?_)
  simp only [Go.wp_at_succ, Go.wp_at_zero]
  go_simp
  refine (HM4.out _).mono ?_
  rintro e wz ⟨rfl, rfl⟩
  first | (with_reducible refine hK.out _ _ ?_ (fun hHeld => ?_)) | (go_wp2_with fail; refine hK.out _ _ ?_ (fun hHeld => ?_))
  · exact HS.out _ _ H12.out
  clear hK K
  try simp only [Act.put, List.setIfInBounds_toArray, List.set_cons_zero, List.set_cons_succ]
  first
    | (refine held_take 46 84 (v := ?_) rfl rfl (by kernel_rfl) (by kernel_rfl) (by kernel_rfl) (fun _ _ _ h => h) (by assumption) (by rfl) ?_ ?_; rotate_left; (focus (intro w hSw; obtain ⟨hS0, hS1⟩ := hSw; go_simp <;> with_reducible rfl)))
    | refine held_pass 46 84 rfl rfl (by kernel_rfl) (by kernel_rfl) (by kernel_rfl) (fun _ _ _ h => h) (by assumption) (by rfl) ?_
  simp only [Act.put, List.setIfInBounds_toArray, List.set_cons_zero, List.set_cons_succ]
  first
    | (refine held_take 47 85 (v := ?_) rfl rfl (by kernel_rfl) (by kernel_rfl) (by kernel_rfl) (fun _ _ _ h => h) (by assumption) (by rfl) ?_ ?_; rotate_left; (focus (intro w hSw; obtain ⟨hS0, hS1⟩ := hSw; go_simp <;> with_reducible rfl)))
    | refine held_pass 47 85 rfl rfl (by kernel_rfl) (by kernel_rfl) (by kernel_rfl) (fun _ _ _ h => h) (by assumption) (by rfl) ?_
  simp only [Act.put, List.setIfInBounds_toArray, List.set_cons_zero, List.set_cons_succ]
  first
    | (refine held_take 48 86 (v := ?_) rfl rfl (by kernel_rfl) (by kernel_rfl) (by kernel_rfl) (fun _ _ _ h => h) (by assumption) (by rfl) ?_ ?_; rotate_left; (focus (intro w hSw; obtain ⟨hS0, hS1⟩ := hSw; go_simp <;> with_reducible rfl)))
    | refine held_pass 48 86 rfl rfl (by kernel_rfl) (by kernel_rfl) (by kernel_rfl) (fun _ _ _ h => h) (by assumption) (by rfl) ?_
  simp only [Act.put, List.setIfInBounds_toArray, List.set_cons_zero, List.set_cons_succ]
  refine held_call 49 87 rfl rfl (by kernel_rfl) (by rfl) (fun K hK => ?_)
  simp only [Go.wp_at_succ, Go.wp_at_zero]
  go_simp
  refine (HM0.out _).mono ?_
  rintro e wz ⟨rfl, rfl⟩
  first | (with_reducible refine hK.out _ _ ?_ (fun hHeld => ?_)) | (go_wp2_with fail; refine hK.out _ _ ?_ (fun hHeld => ?_))
  · exact HS.out _ _ H12.out
  clear hK K
  try simp only [Act.put, List.setIfInBounds_toArray, List.set_cons_zero, List.set_cons_succ]
  first
    | (refine held_take 50 88 (v := ?_) rfl rfl (by kernel_rfl) (by kernel_rfl) (by kernel_rfl) (fun _ _ _ h => h) (by assumption) (by rfl) ?_ ?_; rotate_left; (focus (intro w hSw; obtain ⟨hS0, hS1⟩ := hSw; go_simp <;> with_reducible rfl)))
    | refine held_pass 50 88 rfl rfl (by kernel_rfl) (by kernel_rfl) (by kernel_rfl) (fun _ _ _ h => h) (by assumption) (by rfl) ?_
  simp only [Act.put, List.setIfInBounds_toArray, List.set_cons_zero, List.set_cons_succ]
  first
    | (refine held_take 51 89 (v := ?_) rfl rfl (by kernel_rfl) (by kernel_rfl) (by kernel_rfl) (fun _ _ _ h => h) (by assumption) (by rfl) ?_ ?_; rotate_left; (focus (intro w hSw; obtain ⟨hS0, hS1⟩ := hSw; go_simp <;> with_reducible rfl)))
    | refine held_pass 51 89 rfl rfl (by kernel_rfl) (by kernel_rfl) (by kernel_rfl) (fun _ _ _ h => h) (by assumption) (by rfl) ?_
  simp only [Act.put, List.setIfInBounds_toArray, List.set_cons_zero, List.set_cons_succ]
  first
    | (refine held_take 52 0 (v := ?_) rfl rfl (by kernel_rfl) (by kernel_rfl) (by kernel_rfl) (fun _ _ _ h => h) (by assumption) (by rfl) ?_ ?_; rotate_left; (focus (intro w hSw; obtain ⟨hS0, hS1⟩ := hSw; go_simp <;> with_reducible rfl)))
    | refine held_pass 52 0 rfl rfl (by kernel_rfl) (by kernel_rfl) (by kernel_rfl) (fun _ _ _ h => h) (by assumption) (by rfl) ?_
  simp only [Act.put, List.setIfInBounds_toArray, List.set_cons_zero]
  refine wpAnyH_done (by kernel_rfl) ?_ _
  have HZ := Lib.hid H12.out
  clear HS
  go_wp2
  go_returns
  exact ⟨by first | rfl | trivial, HZ.out.t.bel⟩
end Go.Proofs.Ytiidmiioegdfaaa
