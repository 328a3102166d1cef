/-
  PROVED: casebooklaw14.TallyBest answers true and leaves its arguments as they were, for any numbers: the row's own reading and nothing else is assumed.
-/
import Derived.Test.YtiidmiioegdfaaaTalT
import Derived.Test.YtiidmiioegdfaaaClockV
import Derived.Test.YtiidmiioegdfaaaClockArgs
import Derived.Test.YtiidmiioegdfaaaBallotArgs
import Derived.Deep.DeepCutAuto
namespace Go.Proofs.Ytiidmiioegdfaaa.TallyBest
open Go.ChangeShapes Go.WideShapes Go.ChangeAt Go.RowKit

/-- The law's count and its boxes. -/
structure TB (n : Nat) (w : World) (p : Nat) (s : TalV) (u : World) : Prop where
  t : TO n w p s u
  b : BalB u (n + 1) 1000 4
  c : ChT u (n + 2) 7 (.slice (some ⟨n, 0, none⟩) 1 1)
  r : RowI u (.slice (some ⟨n, 0, none⟩) 1 1) [4]
section
variable {n p : Nat} {w u u' : World} {s s' : TalV}
theorem TB.on (h : TB n w p s u) (hb : Below u.heap.size u u') : TB n w p s u' := ⟨h.t.on hb, h.b.keep hb h.b.lt, h.c.keep hb h.c.lt, h.r.on hb⟩
theorem TB.turn (h : TB n w p s u) (ht : TO n w p s' u') (hk : KTal u u') : TB n w p s' u' := ⟨ht, hk.bal h.b, hk.ch h.c, hk.row h.r⟩
theorem TB.beside (h : TB n w p s u) {q : Nat} {cs : Array Value} {T : TypeId} (hq : u.heap[q]? = some (.cells cs T (0, 0))) (hT : T ≠ 68) (hi : T ≠ 3) (hn : n + 2 < q) (ho : Only (· = q) u u') : TB n w p s u' :=
  ⟨h.t.beside hq hT hi (by omega) ho, (ho.block _ h.b.lt (by show ¬ _ = q; omega)).trans h.b, (ho.block _ h.c.lt (by show ¬ _ = q; omega)).trans h.c, h.r.beside hq hi ho⟩
end
/-- The end: the law's count, the chain that it wants. -/
structure TE (n : Nat) (w : World) (p q : Nat) (wv : Value) (s : TalV) (u : World) : Prop where
  t : TB n w p s u
  c : ChT u q 7 wv
  r : RowI u wv s.C
theorem TE.on {n p q : Nat} {wv : Value} {w u u' : World} {s : TalV} (h : TE n w p q wv s u) (hb : Below u.heap.size u u') : TE n w p q wv s u' := ⟨h.t.on hb, h.c.keep hb h.c.lt, h.r.on hb⟩
theorem TE.turn {n p q : Nat} {wv : Value} {w u u' : World} {s : TalV} (h : TE n w p q wv s u) (ht : TO n w p s u') (hk : KTal u u') : TE n w p q wv s u' := ⟨h.t.turn ht hk, hk.ch h.c, hk.row h.r⟩
/-- What the count is behind i steps; best and top as the law has them. -/
structure Inv (s : TalV) (t i : Nat) (best : Int) (top : Nat) : Prop where
  n : s.n = 5
  b : s.r = 1000 ∧ s.k = 4
  ce : s.ce = 7
  len : s.P.length = i
  mem : ∀ x ∈ s.P, ∃ j : Nat, j < i ∧ x = (((j + t) % 5 : Nat) : Int)
  tp : top < 900
  st : (best = -1 ∧ top = 0 ∧ s.has = false ∧ s.C = [4]) ∨ (0 ≤ best ∧ best < 5 ∧ 1 ≤ top ∧ s.has = true ∧ s.ar = top ∧ s.an = best ∧ s.C = [best])
/-- The vote of the step's node. -/
def votV (r nn : Int) : VoteV := if 0 < r then ⟨1000, 4, r, nn, true, 7, [nn]⟩ else ⟨1000, 4, 0, 0, false, 0, []⟩
theorem one_may (x : Int) (h0 : 0 ≤ x) (h5 : x < 5) : ChainV.may ⟨7, [x]⟩ := by
  refine ⟨by show (0 : Int) ≤ 7; omega, by show (7 : Int) ≤ 1073741824; omega, by simp, by simp, ?_, by simp⟩
  intro y hy
  rw [List.mem_singleton] at hy
  subst hy
  omega
theorem pro_step {s : TalV} {t i : Nat} {best : Int} {top : Nat} (h : Inv s t i best top) (hi5 : i < 5) (r nn : Nat) (hr : r < 900) (hnn : nn = (i + t) % 5) :
    proB s nn (votV r nn) = true ∧ proB (proS s nn (votV r nn)) nn (votV r nn) = false ∧ proS (proS s nn (votV r nn)) nn (votV r nn) = proS s nn (votV r nn) ∧
    Inv (proS s nn (votV r nn)) t (i + 1) (if 0 < r ∧ (top < r ∨ r = top ∧ best < nn) then (nn : Int) else best) (if 0 < r ∧ (top < r ∨ r = top ∧ best < nn) then r else top) := by
  have hfit : s.fits (votV r nn) = true := by
    unfold TalV.fits votV
    by_cases h0 : 0 < r
    · rw [if_pos (by omega)]
      have h1 : mayV r nn = true := mayV_yes.2 (by omega)
      have h2 : ChainV.may ⟨7, [(nn : Int)]⟩ := one_may nn (by omega) (by omega)
      simp [h.b.1, h.b.2, h.ce, h1, h2]
    · rw [if_neg (by omega)]
      simp [h.b.1, h.b.2]
  have hseat : s.seat nn = true := by unfold TalV.seat; rw [h.n]; exact decide_eq_true (by omega)
  have hnew : (nn : Int) ∉ s.P := fun hm => by
    obtain ⟨j, hj, e⟩ := h.mem _ hm
    omega
  have hB : proB s nn (votV r nn) = true := by unfold proB TalV.fresh; rw [hseat, hfit]; simp [hnew]
  have hmem : (nn : Int) ∈ (proS s nn (votV r nn)).P := by
    unfold proS
    rw [if_pos hB]
    split <;> simp [TalV.said, TalV.take]
  have hB2 : proB (proS s nn (votV r nn)) nn (votV r nn) = false := by unfold proB TalV.fresh; simp [hmem]
  refine ⟨hB, hB2, by rw [proS, if_neg (by rw [hB2]; decide)], ?_⟩
  have hlen : (s.P ++ [(nn : Int)]).length = i + 1 := by simp [h.len]
  have hmem2 : ∀ x ∈ s.P ++ [(nn : Int)], ∃ j : Nat, j < i + 1 ∧ x = (((j + t) % 5 : Nat) : Int) := fun x hx => by
    rcases List.mem_append.1 hx with hx | hx
    · obtain ⟨j, hj, e⟩ := h.mem _ hx
      exact ⟨j, by omega, e⟩
    · rw [List.mem_singleton] at hx
      exact ⟨i, by omega, by rw [hx, hnn]⟩
  have htop := h.tp
  by_cases h0 : 0 < r
  · have hv : votV r nn = ⟨1000, 4, r, nn, true, 7, [(nn : Int)]⟩ := by unfold votV; rw [if_pos (by omega)]
    have hbet : s.better (votV r nn) = decide (top < r ∨ r = top ∧ best < nn) := by
      rw [hv]
      unfold TalV.better
      rcases h.st with ⟨e1, e2, e3, e4⟩ | ⟨e1, e2, e3, e4, e5, e6, e7⟩
      · rw [e3]
        simp
        omega
      · rw [e4, e5, e6]
        simp only [Bool.true_and, Bool.not_true, Bool.false_or]
        rw [decide_eq_decide]
        unfold cmpV
        split
        · omega
        · split <;> omega
    unfold proS
    rw [if_pos hB]
    by_cases hc : top < r ∨ r = top ∧ best < nn
    · rw [if_pos (by rw [hbet]; exact decide_eq_true hc), if_pos ⟨h0, hc⟩, if_pos ⟨h0, hc⟩, hv]
      exact ⟨h.n, h.b, rfl, hlen, hmem2, hr, .inr ⟨by omega, by omega, by omega, rfl, rfl, rfl, rfl⟩⟩
    · rw [if_neg (by rw [hbet, decide_eq_false hc]; decide), if_neg (fun hh => hc hh.2), if_neg (fun hh => hc hh.2)]
      exact ⟨h.n, h.b, h.ce, hlen, hmem2, htop, h.st⟩
  · have hv : votV r nn = ⟨1000, 4, 0, 0, false, 0, []⟩ := by unfold votV; rw [if_neg (by omega)]
    unfold proS
    rw [if_pos hB, if_neg (by rw [hv]; simp [TalV.better]), if_neg (fun hh => h0 hh.1), if_neg (fun hh => h0 hh.1)]
    exact ⟨h.n, h.b, h.ce, hlen, hmem2, htop, h.st⟩

set_option maxRecDepth 100000 in
set_option maxHeartbeats 8000000 in
theorem walk (v : Value) (l : List Int) (z : Int) (w : World) (hIn : Ints w w.heap.size v l) (_hz : (Lit.int .i64 z).wf = true) :
    Calls Try.prog 6 #[v, .int .i64 z] w fun e w' => e = .returned (.bool true) ∧ Below w.heap.size w w' := by
  have HT := Lib.hid (fun u => told14_any u)
  obtain ⟨a0, c0, rfl⟩ : ∃ a c, v = .slice a l.length c := by obtain ⟨a, c, h, _⟩ := hIn; exact ⟨a, c, h⟩
  obtain ⟨m, hm⟩ : ∃ m, m = l.length := ⟨_, rfl⟩
  rw [← hm]
  by_cases hm5 : m < 5
  · clear hIn _hz hm
    go_enter Try.func6, Try.ntmps6
    go_wp2_with fail
    refine (HT.out _).mono ?_
    rintro e w1 ⟨rfl, B1⟩
    go_wp2
    go_returns
    exact ⟨by first | rfl | trivial, B1⟩
  obtain ⟨n, hn⟩ : ∃ n, n = w.heap.size := ⟨_, rfl⟩
  obtain ⟨W0, hW0⟩ : ∃ W, W = ((w.alloc (.cells #[.int .i64 4] 3)).alloc (.cells #[.int .i64 1000, .int .i64 4] 23)).alloc (.cells #[.int .i64 7, .slice (some ⟨w.heap.size, 0, none⟩) 1 1] 26) := ⟨_, rfl⟩
  have b0 : Below n w W0 := by rw [hW0, hn]; exact (((Below.refl _ w).alloc (Nat.le_refl _) _).alloc (by simp) _).alloc (by simp; omega) _
  have r0 : RowI W0 (.slice (some ⟨n, 0, none⟩) 1 1) [4] := by
    rw [hW0, hn]
    exact (row_one w 4).on (((Below.refl _ _).alloc (Nat.le_refl _) _).alloc (by simp) _)
  have q0 : BalB W0 (n + 1) 1000 4 := by
    rw [hW0, hn]
    have h := BalB.fresh (w.alloc (.cells #[.int .i64 4] 3)) 1000 4
    rw [World.size_alloc] at h
    exact h.keep ((Below.refl _ _).alloc (Nat.le_refl _) _) (by simp)
  have k0 : ChT W0 (n + 2) 7 (.slice (some ⟨n, 0, none⟩) 1 1) := by
    rw [hW0, hn]
    have h := ChT.fresh ((w.alloc (.cells #[.int .i64 4] 3)).alloc (.cells #[.int .i64 1000, .int .i64 4] 23)) 7 (.slice (some ⟨w.heap.size, 0, none⟩) 1 1)
    rwa [World.size_alloc, World.size_alloc] at h
  have hs0 : n ≤ W0.heap.size := by rw [hW0, hn]; simp; omega
  have HN : Hid (Calls Try.prog 9 #[.int .i64 5, .agg #[.int .i64 1000, .int .i64 4], .agg #[.int .i64 7, .slice (some ⟨n, 0, none⟩) 1 1]] W0 fun e w' => ∃ p, e = .returned (.tuple #[.pointer (some ⟨p, 0, none⟩), .int .i64 0]) ∧ Hid (TO n w p (TalV.first 5 1000 4 7 [4]) w' ∧ Below W0.heap.size W0 w')) :=
    to_new 5 (by decide) (by decide) 1000 4 (by decide) 7 _ [4] _ r0.ints (Nat.le_refl _) (by decide) b0 hs0
  have HW0 := Lib.hid hW0
  have HNN := Lib.hid hn
  have R0 := Lib.hid r0
  have Q0 := Lib.hid q0
  have K0 := Lib.hid k0
  have HIN := Lib.hid hIn
  have HM := Lib.hid hm
  obtain ⟨g0, g1, _, _⟩ := q0.cells
  obtain ⟨g2, g3, _, _⟩ := k0.cells
  rw [hW0, hn] at g0 g1 g2 g3
  rw [← hn]
  obtain ⟨t, ht, eq⟩ := left_of z 5 (by decide) (by decide)
  have E : Hid (wrap64 ((IntKind.u64.wrap z).tmod 5) = (t : Int)) := eq
  clear hIn _hz hm hW0 b0 r0 q0 k0 hs0 hn eq
  go_enter Try.func6, Try.ntmps6
  go_wp2_with fail
  rw [← HW0.out, ← HNN.out]
  clear g0 g1 g2 g3
  refine HN.out.mono ?_
  rintro e w1 ⟨p, rfl, H1⟩
  have T1 : Hid (TB n w p (TalV.first 5 1000 4 7 [4]) w1) := ⟨H1.out.1, Q0.out.keep H1.out.2 Q0.out.lt, K0.out.keep H1.out.2 K0.out.lt, R0.out.on H1.out.2⟩
  clear HN HW0 R0 Q0 K0 H1
  go_wp2_with fail
  rw [show n + 1 + 1 = n + 2 from rfl]
  go_loopw [9, 10, 11] (fun s9 s10 s11 wr => ∃ (best : Int) (top i : Nat) (s : TalV), s9 = .int .i64 best ∧ s10 = .int .i64 top ∧ s11 = .int .i64 i ∧ i ≤ 5 ∧ Hid (TB n w p s wr ∧ Inv s t i best top)) (fun _ _ s11 _ => 5 - (intOf s11).toNat)
  case atStart => exact ⟨-1, 0, 0, _, rfl, rfl, rfl, by omega, T1.out, rfl, ⟨rfl, rfl⟩, rfl, rfl, (fun x hx => by cases hx), by omega, .inl ⟨rfl, rfl, rfl, rfl⟩⟩
  case round =>
    obtain ⟨best, top, i, s, rfl, rfl, rfl, hi5, HR⟩ := hrel
    by_cases hlt : i < 5
    · obtain ⟨nn, hnn⟩ : ∃ nn, nn = (i + t) % 5 := ⟨_, rfl⟩
      have hnm : nn < l.length := by have := HM.out; omega
      obtain ⟨ab, off, rfl, hab, hc⟩ := (ints_cell HIN.out).2 nn hnm
      have hcell := (HR.out.1.t.bel.cell (p := ⟨ab, off + nn, none⟩) (by have := HNN.out; show ab < n; omega)).trans hc
      generalize l.getD nn 0 = x at hcell
      obtain ⟨r, hr, eqr⟩ := left_of x 900 (by decide) (by decide)
      have ER : Hid (wrap64 ((IntKind.u64.wrap x).tmod 900) = (r : Int)) := eqr
      have EI : Hid ((wrap64 ((i : Int) + wrap64 ((IntKind.u64.wrap z).tmod 5))).tmod 5 = (nn : Int)) := by
        show _ = _
        rw [E.out, IntWalk.wrap64_in _ (by omega), hnn, Int.tmod_eq_emod_of_nonneg (by omega)]
        omega
      have hq := pro_step HR.out.2 hlt r nn hr hnn
      have HQ := Lib.hid hq
      have HNQ := Lib.hid hnn
      have hnn5 : nn < 5 := by omega
      clear hc eqr hnm hq hnn
      obtain ⟨c0', c1', _, _⟩ := HR.out.1.b.cells
      have hcell2 : (wr.alloc (.cells #[.int .i64 1000, .int .i64 4, .int .i64 0, .int .i64 0, .bool false, .int .i64 0, .slice none 0 0] 40)).cell? ⟨ab, off + nn, none⟩ = some (.int .i64 x) := by
        rw [World.cell?_of_block (w := wr) (((Below.refl wr.heap.size wr).alloc (Nat.le_refl _) _).block ab (Nat.lt_of_lt_of_le hab HR.out.1.t.bel.size))]
        exact hcell
      clear hcell
      have hnm' : (nn : Int) < (m : Int) := by have := HM.out; omega
      go_upto_region 12 with fail
      rw [EI.out]
      go_upto_region 14 with fail
      rw [ER.out]
      obtain ⟨q, hqq⟩ : ∃ q, q = wr.heap.size := ⟨_, rfl⟩
      obtain ⟨y0, hy0⟩ : ∃ y, y = wr.alloc (.cells #[.int .i64 1000, .int .i64 4, .int .i64 0, .int .i64 0, .bool false, .int .i64 0, .slice none 0 0] 40) := ⟨_, rfl⟩
      have by0 : Below wr.heap.size wr y0 := by rw [hy0]; exact (Below.refl _ _).alloc (Nat.le_refl _) _
      have vy0 : VotB y0 q ⟨1000, 4, 0, 0, false, 0, []⟩ (.slice none 0 0) := by rw [hy0, hqq]; exact VotB.fresh wr ⟨1000, 4, 0, 0, false, 0, []⟩ _
      have hq2 : n + 2 < q := by rw [hqq]; exact HR.out.1.c.lt
      have TY0 := Lib.hid (HR.out.1.on by0)
      have VY0 := Lib.hid vy0
      obtain ⟨s', hs'⟩ : ∃ s', s' = proS s nn (votV r nn) := ⟨_, rfl⟩
      have HP1 : Hid (∀ u vv, TB n w p s u → RowI u vv (votV r nn).C → Calls Try.prog 14 #[.pointer (some ⟨p, 0, none⟩), .int .i64 nn, .agg #[.int .i64 (votV r nn).pr, .int .i64 (votV r nn).pn, .int .i64 (votV r nn).ar, .int .i64 (votV r nn).an, .bool (votV r nn).has, .int .i64 (votV r nn).ce, vv]] u fun e w' => e = .returned (.bool true) ∧ Hid (TB n w p s' w' ∧ KTal u w')) := fun u vv hu hv =>
        (to_pro hu.t nn (votV r nn) vv _ hv.ints (Nat.le_refl _) (by unfold votV; split <;> simp) (by unfold votV; split <;> simp) (by unfold votV; split <;> simp) hs'.symm HQ.out.1).mono fun _ _ ⟨he, hh⟩ => ⟨he, hu.turn hh.out.1 hh.out.2, hh.out.2⟩
      have HP2 : Hid (∀ u vv, TB n w p s' u → RowI u vv (votV r nn).C → Calls Try.prog 14 #[.pointer (some ⟨p, 0, none⟩), .int .i64 nn, .agg #[.int .i64 (votV r nn).pr, .int .i64 (votV r nn).pn, .int .i64 (votV r nn).ar, .int .i64 (votV r nn).an, .bool (votV r nn).has, .int .i64 (votV r nn).ce, vv]] u fun e w' => e = .returned (.bool false) ∧ Hid (TB n w p s' w' ∧ KTal u w')) := fun u vv hu hv =>
        (to_pro hu.t nn (votV r nn) vv _ hv.ints (Nat.le_refl _) (by unfold votV; split <;> simp) (by unfold votV; split <;> simp) (by unfold votV; split <;> simp) (by rw [hs']; exact HQ.out.2.2.1) (by rw [hs']; exact HQ.out.2.1)).mono fun _ _ ⟨he, hh⟩ => ⟨he, hu.turn hh.out.1 hh.out.2, hh.out.2⟩
      have HI' : Hid (Inv s' t (i + 1) (if 0 < r ∧ (top < r ∨ r = top ∧ best < nn) then (nn : Int) else best) (if 0 < r ∧ (top < r ∨ r = top ∧ best < nn) then r else top)) := by rw [hs']; exact HQ.out.2.2.2
      rw [← hy0]
      have HY0 := Lib.hid hy0
      rw [← hqq]
      clear HQ hs' hqq hy0 by0 vy0 hcell2 c0' c1'
      by_cases h0 : 0 < r
      · have hv : votV r nn = ⟨1000, 4, r, nn, true, 7, [(nn : Int)]⟩ := by unfold votV; rw [if_pos (by omega)]
        rw [hv] at HP1 HP2
        simp only at HP1 HP2
        have h0' : (0 : Int) < (r : Int) := by omega
        obtain ⟨rb, hrb⟩ : ∃ rb, rb = y0.heap.size := ⟨_, rfl⟩
        obtain ⟨y1, hy1⟩ : ∃ y, y = y0.alloc (.cells #[.int .i64 (nn : Int)] 3) := ⟨_, rfl⟩
        have by1 : Below y0.heap.size y0 y1 := by rw [hy1]; exact (Below.refl _ _).alloc (Nat.le_refl _) _
        have vy1 := VY0.out.keep by1 VY0.out.lt
        have ty1 := TY0.out.on by1
        have ry1 : RowI y1 (.slice (some ⟨rb, 0, none⟩) 1 1) [(nn : Int)] := by rw [hy1, hrb]; exact row_one y0 nn
        obtain ⟨y2, hy2⟩ : ∃ y, y = ((((y1.setCell ⟨q, 4, none⟩ (.bool true)).setCell ⟨q, 2, none⟩ (.int .i64 (r : Int))).setCell ⟨q, 3, none⟩ (.int .i64 (nn : Int))).setCell ⟨q, 5, none⟩ (.int .i64 7)).setCell ⟨q, 6, none⟩ (.slice (some ⟨rb, 0, none⟩) 1 1) := ⟨_, rfl⟩
        have oy2 : Only (· = q) y1 y2 := by rw [hy2]; exact ((((Only.set q 4 y1 _).trans (Only.set q 2 _ _)).trans (Only.set q 3 _ _)).trans (Only.set q 5 _ _)).trans (Only.set q 6 _ _)
        have vy2 : VotB y2 q ⟨1000, 4, r, nn, true, 7, [(nn : Int)]⟩ (.slice (some ⟨rb, 0, none⟩) 1 1) := by
          show _ = _
          rw [hy2, heap_setCell_same _ _ _ _ _ _ (heap_setCell_same _ _ _ _ _ _ (heap_setCell_same _ _ _ _ _ _ (heap_setCell_same _ _ _ _ _ _ (heap_setCell_same _ _ _ _ _ _ vy1))))]
          rfl
        have TY2 := Lib.hid (ty1.beside vy1 (by decide) (by decide) hq2 oy2)
        have RY2 := Lib.hid (ry1.beside vy1 (by decide) oy2)
        have VY2 := Lib.hid vy2
        have HRB := Lib.hid hrb
        have HY2 : Hid (y2 = (((((y0.alloc (.cells #[.int .i64 (nn : Int)] 3)).setCell ⟨q, 4, none⟩ (.bool true)).setCell ⟨q, 2, none⟩ (.int .i64 (r : Int))).setCell ⟨q, 3, none⟩ (.int .i64 (nn : Int))).setCell ⟨q, 5, none⟩ (.int .i64 7)).setCell ⟨q, 6, none⟩ (.slice (some ⟨rb, 0, none⟩) 1 1)) := by show _ = _; rw [hy2, hy1]
        obtain ⟨v0, v1, v2, v3, v4, v5, v6⟩ := vy1.cells
        have f2 := vy1.free 2
        have f3 := vy1.free 3
        have f4 := vy1.free 4
        have f5 := vy1.free 5
        have f6 := vy1.free 6
        obtain ⟨e0, e1, e2, e3, e4, e5, e6⟩ := vy2.cells
        rw [HY2.out, HRB.out] at e0 e1 e2 e3 e4 e5 e6
        rw [hy1] at v0 v1 v2 v3 v4 v5 v6 f2 f3 f4 f5 f6
        clear hv hrb hy1 hy2 by1 vy1 ty1 ry1 oy2 vy2 TY0 VY0 HY0
        by_cases hA : top < r
        · have hc : 0 < r ∧ (top < r ∨ r = top ∧ best < nn) := ⟨h0, .inl hA⟩
          rw [if_pos hc, if_pos hc] at HI'
          have a1 : (top : Int) < (r : Int) := by omega
          clear hc
          go_wp2_with fail
          rw [← HRB.out, ← HY2.out]
          clear e0 e1 e2 e3 e4 e5 e6 v0 v1 v2 v3 v4 v5 v6 f2 f3 f4 f5 f6
          refine (HP1.out _ _ TY2.out RY2.out).mono ?_
          rintro e w2 ⟨rfl, H2⟩
          have V2 := Lib.hid (H2.out.2.vot VY2.out)
          have R2 := Lib.hid (H2.out.2.row RY2.out)
          obtain ⟨e0, e1, e2, e3, e4, e5, e6⟩ := V2.out.cells
          go_wp2_with fail
          refine (HP2.out _ _ H2.out.1 R2.out).mono ?_
          rintro e w3 ⟨rfl, H3⟩
          go_wp2_with fail
          go_roundw
          case rel => exact ⟨nn, r, i + 1, s', rfl, rfl, by go_num, by omega, H3.out.1, HI'.out⟩
          case measure => simp [intOf]; omega
        · have a1 : ¬ ((top : Int) < (r : Int)) := by omega
          by_cases hB : r = top
          · have a2 : ((r : Int) == (top : Int)) = true := by rw [hB]; simp
            by_cases hC : best < nn
            · have hc : 0 < r ∧ (top < r ∨ r = top ∧ best < nn) := ⟨h0, .inr ⟨hB, hC⟩⟩
              rw [if_pos hc, if_pos hc] at HI'
              have HB := Lib.hid hB
              clear hc hB hA
              go_wp2_with fail
              rw [← HRB.out, ← HY2.out]
              clear e0 e1 e2 e3 e4 e5 e6 v0 v1 v2 v3 v4 v5 v6 f2 f3 f4 f5 f6
              refine (HP1.out _ _ TY2.out RY2.out).mono ?_
              rintro e w2 ⟨rfl, H2⟩
              have V2 := Lib.hid (H2.out.2.vot VY2.out)
              have R2 := Lib.hid (H2.out.2.row RY2.out)
              obtain ⟨e0, e1, e2, e3, e4, e5, e6⟩ := V2.out.cells
              go_wp2_with fail
              refine (HP2.out _ _ H2.out.1 R2.out).mono ?_
              rintro e w3 ⟨rfl, H3⟩
              go_wp2_with fail
              go_roundw
              case rel => exact ⟨nn, r, i + 1, s', rfl, rfl, by go_num, by omega, H3.out.1, HI'.out⟩
              case measure => simp [intOf]; omega
            · have hc : ¬ (0 < r ∧ (top < r ∨ r = top ∧ best < nn)) := by omega
              rw [if_neg hc, if_neg hc] at HI'
              clear hc hB hA
              go_wp2_with fail
              rw [← HRB.out, ← HY2.out]
              clear e0 e1 e2 e3 e4 e5 e6 v0 v1 v2 v3 v4 v5 v6 f2 f3 f4 f5 f6
              refine (HP1.out _ _ TY2.out RY2.out).mono ?_
              rintro e w2 ⟨rfl, H2⟩
              have V2 := Lib.hid (H2.out.2.vot VY2.out)
              have R2 := Lib.hid (H2.out.2.row RY2.out)
              obtain ⟨e0, e1, e2, e3, e4, e5, e6⟩ := V2.out.cells
              go_wp2_with fail
              refine (HP2.out _ _ H2.out.1 R2.out).mono ?_
              rintro e w3 ⟨rfl, H3⟩
              go_wp2_with fail
              go_roundw
              case rel => exact ⟨best, top, i + 1, s', rfl, rfl, by go_num, by omega, H3.out.1, HI'.out⟩
              case measure => simp [intOf]; omega
          · have a2 : ((r : Int) == (top : Int)) = false := beq_eq_false_iff_ne.2 (by omega)
            have hc : ¬ (0 < r ∧ (top < r ∨ r = top ∧ best < nn)) := by omega
            rw [if_neg hc, if_neg hc] at HI'
            clear hc
            go_wp2_with fail
            rw [← HRB.out, ← HY2.out]
            clear e0 e1 e2 e3 e4 e5 e6 v0 v1 v2 v3 v4 v5 v6 f2 f3 f4 f5 f6
            refine (HP1.out _ _ TY2.out RY2.out).mono ?_
            rintro e w2 ⟨rfl, H2⟩
            have V2 := Lib.hid (H2.out.2.vot VY2.out)
            have R2 := Lib.hid (H2.out.2.row RY2.out)
            obtain ⟨e0, e1, e2, e3, e4, e5, e6⟩ := V2.out.cells
            go_wp2_with fail
            refine (HP2.out _ _ H2.out.1 R2.out).mono ?_
            rintro e w3 ⟨rfl, H3⟩
            go_wp2_with fail
            go_roundw
            case rel => exact ⟨best, top, i + 1, s', rfl, rfl, by go_num, by omega, H3.out.1, HI'.out⟩
            case measure => simp [intOf]; omega
      · obtain rfl : r = 0 := by omega
        have hv : votV ((0 : Nat) : Int) nn = ⟨1000, 4, 0, 0, false, 0, []⟩ := by unfold votV; rw [if_neg (by omega)]
        rw [hv] at HP1 HP2
        simp only at HP1 HP2
        rw [if_neg (by omega), if_neg (by omega)] at HI'
        obtain ⟨e0, e1, e2, e3, e4, e5, e6⟩ := VY0.out.cells
        have NY0 : Hid (RowI y0 (.slice none 0 0) []) := RowI.none _
        clear hv h0 ER
        go_wp2_with fail
        clear e0 e1 e2 e3 e4 e5 e6
        refine (HP1.out _ _ TY0.out NY0.out).mono ?_
        rintro e w2 ⟨rfl, H2⟩
        have V2 := Lib.hid (H2.out.2.vot VY0.out)
        have R2 := Lib.hid (H2.out.2.row NY0.out)
        obtain ⟨e0, e1, e2, e3, e4, e5, e6⟩ := V2.out.cells
        go_wp2_with fail
        refine (HP2.out _ _ H2.out.1 R2.out).mono ?_
        rintro e w3 ⟨rfl, H3⟩
        go_wp2_with fail
        go_roundw
        case rel => exact ⟨best, top, i + 1, s', rfl, rfl, by go_num, by omega, H3.out.1, HI'.out⟩
        case measure => simp [intOf]; omega
    · obtain rfl : i = 5 := by omega
      have hI5 := HR.out.2
      have hrdy : rdyB s = true := by unfold rdyB; rw [hI5.n, hI5.len]; decide
      have hp5 : proB s 5 ⟨1000, 4, 0, 0, false, 0, []⟩ = false := by
        have hst : s.seat 5 = false := by unfold TalV.seat; rw [hI5.n]; decide
        unfold proB
        rw [hst]
        rfl
      have hs5 : proS s 5 ⟨1000, 4, 0, 0, false, 0, []⟩ = s := by rw [proS, if_neg (by rw [hp5]; decide)]
      obtain ⟨lc, hlc⟩ : ∃ lc, lc = s.C.length := ⟨_, rfl⟩
      have HRD : Hid (∀ u q wv, TE n w p q wv s u → Calls Try.prog 18 #[.pointer (some ⟨p, 0, none⟩)] u fun e w' => e = .returned (.bool true) ∧ Hid (TE n w p q wv s w')) := fun u q wv hu =>
        (to_rdy hu.t.t hrdy).mono fun _ _ ⟨he, hh⟩ => ⟨he, hu.on hh.out.2⟩
      have HCH : Hid (∀ u q wv, TE n w p q wv s u → Calls Try.prog 21 #[.pointer (some ⟨p, 0, none⟩)] u fun e w' => ∃ a c, e = .returned (.agg #[.int .i64 7, .slice a lc c]) ∧ Hid (RowI w' (.slice a lc c) s.C ∧ TE n w p q wv s w')) := fun u q wv hu =>
        (to_chain hu.t.t).mono fun _ _ ⟨a, c, he, hh⟩ => ⟨a, c, by rw [he, hI5.ce, hlc], by rw [hlc]; exact ⟨hh.out.1, hu.on hh.out.2.2⟩⟩
      have HSC : Hid (∀ u v1 q wv, TE n w p q wv s u → RowI u v1 s.C → Calls Try.prog 20 #[.agg #[.int .i64 7, v1], .agg #[.int .i64 7, wv]] u fun e w' => e = .returned (.bool true) ∧ Hid (TE n w p q wv s w')) := fun u v1 q wv hu h1 =>
        (refsame_any 7 7 v1 wv s.C s.C u.heap.size u h1.ints hu.r.ints (Nat.le_refl _) (by have := hu.t.t.ok.c; omega)).mono fun _ _ ⟨he, hb⟩ => ⟨by simpa using he, hu.on hb⟩
      have HPF : Hid (∀ u q wv, TE n w p q wv s u → Calls Try.prog 14 #[.pointer (some ⟨p, 0, none⟩), .int .i64 5, .agg #[.int .i64 1000, .int .i64 4, .int .i64 0, .int .i64 0, .bool false, .int .i64 0, .slice none 0 0]] u fun e w' => e = .returned (.bool false) ∧ Hid (TE n w p q wv s w')) := fun u q wv hu =>
        (to_pro hu.t.t 5 ⟨1000, 4, 0, 0, false, 0, []⟩ (.slice none 0 0) _ (RowI.none u).ints (Nat.le_refl _) (by decide) (by decide) (by decide) hs5 hp5).mono fun _ _ ⟨he, hh⟩ => ⟨he, hu.turn hh.out.1 hh.out.2⟩
      have HS : Hid (∀ u q wv, TE n w p q wv s u → (fun u => (u.cell? ⟨n + 1, 0, none⟩ = some (.int .i64 1000) ∧ u.cell? ⟨n + 1, 1, none⟩ = some (.int .i64 4)) ∧ u.cell? ⟨q, 0, none⟩ = some (.int .i64 7) ∧ u.cell? ⟨q, 1, none⟩ = some (wv)) u) := fun u q wv h => ⟨⟨h.t.b.cells.1, h.t.b.cells.2.1⟩, h.c.cells.1, h.c.cells.2.1⟩
      have hst := hI5.st
      obtain ⟨q, hqq⟩ : ∃ q, q = wr.heap.size := ⟨_, rfl⟩
      obtain ⟨y0, hy0⟩ : ∃ y, y = wr.alloc (.cells #[.int .i64 7, .slice (some ⟨n, 0, none⟩) 1 1] 26) := ⟨_, rfl⟩
      have by0 : Below wr.heap.size wr y0 := by rw [hy0]; exact (Below.refl _ _).alloc (Nat.le_refl _) _
      have cy0 : ChT y0 q 7 (.slice (some ⟨n, 0, none⟩) 1 1) := by rw [hy0, hqq]; exact ChT.fresh wr _ _
      have hq2 : n + 2 < q := by rw [hqq]; exact HR.out.1.c.lt
      have TY0 := Lib.hid (HR.out.1.on by0)
      have CY0 := Lib.hid cy0
      have HY0 := Lib.hid hy0
      have HQQ := Lib.hid hqq
      obtain ⟨g0, g1, _, _⟩ := HR.out.1.c.cells
      clear hI5 hrdy hp5 hs5 hlc hqq hy0 by0
      by_cases hb : 0 ≤ best
      · have hC : s.C = [best] := by
          rcases hst with ⟨e1, _⟩ | ⟨_, _, _, _, _, _, e⟩
          · omega
          · exact e
        obtain ⟨z0, hz0⟩ : ∃ y, y = wr.alloc (.cells #[.int .i64 7, .slice (some ⟨wr.heap.size + 1, 0, none⟩) 1 1] 26) := ⟨_, rfl⟩
        obtain ⟨y2, hy2⟩ : ∃ y, y = z0.alloc (.cells #[.int .i64 best] 3) := ⟨_, rfl⟩
        have bz0 : Below wr.heap.size wr z0 := by rw [hz0]; exact (Below.refl _ _).alloc (Nat.le_refl _) _
        have bz1 : Below z0.heap.size z0 y2 := by rw [hy2]; exact (Below.refl _ _).alloc (Nat.le_refl _) _
        have hzs : z0.heap.size = q + 1 := by rw [hz0, HQQ.out]; simp
        have cz0 : ChT z0 q 7 (.slice (some ⟨q + 1, 0, none⟩) 1 1) := by rw [hz0, HQQ.out]; exact ChT.fresh wr _ _
        have rz1 : RowI y2 (.slice (some ⟨q + 1, 0, none⟩) 1 1) [best] := by rw [hy2, ← hzs]; exact row_one z0 best
        have TE1 : Hid (TE n w p q (.slice (some ⟨q + 1, 0, none⟩) 1 1) s y2) := ⟨(HR.out.1.on bz0).on bz1, cz0.keep bz1 cz0.lt, by rw [hC]; exact rz1⟩
        have HY2 : Hid (y2 = (wr.alloc (.cells #[.int .i64 7, .slice (some ⟨q + 1, 0, none⟩) 1 1] 26)).alloc (.cells #[.int .i64 best] 3)) := by show _ = _; rw [hy2, hz0, HQQ.out]
        clear hst hC hz0 hy2 bz0 bz1 hzs cz0 rz1 cy0 TY0 CY0
        go_wp2_with fail
        rw [← HQQ.out, ← HY2.out]
        clear g0 g1
        refine wp_region_held_drew (S := (fun u => (u.cell? ⟨n + 1, 0, none⟩ = some (.int .i64 1000) ∧ u.cell? ⟨n + 1, 1, none⟩ = some (.int .i64 4)) ∧ u.cell? ⟨q, 0, none⟩ = some (.int .i64 7) ∧ u.cell? ⟨q, 1, none⟩ = some (.slice (some ⟨q + 1, 0, none⟩) 1 1))) (by kernel_rfl) (HS.out _ _ _ (TE1.out.on (Below.drew (Below.refl _ _)))) (fun hHeld => ?_)
        refine held_call 0 98 rfl rfl (by kernel_rfl) (by rfl) (fun K hK => ?_)
        simp only [Go.wp_at_zero]
        go_simp
        refine (HT.out _).mono ?_
        rintro e k1 ⟨rfl, B1⟩
        have K1 := Lib.hid ((TE1.out.on (Below.drew (Below.refl _ _))).on B1)
        clear B1
        first | (with_reducible refine hK.out _ _ ?_ (fun hHeld => ?_)) | (go_wp2_with fail; refine hK.out _ _ ?_ (fun hHeld => ?_))
        · exact HS.out _ _ _ K1.out
        clear hK K
        try simp only [Act.put, List.setIfInBounds_toArray, List.set_cons_zero, List.set_cons_succ]
        first
          | (refine held_take 1 99 (v := ?_) rfl rfl (by kernel_rfl) (by kernel_rfl) (by kernel_rfl) (fun _ _ _ h => h) (by assumption) (by rfl) ?_ ?_; rotate_left; (focus (intro w hSw; obtain ⟨⟨hS0, hS1⟩, hS2, hS3⟩ := hSw; go_simp <;> with_reducible rfl)))
          | refine held_pass 1 99 rfl rfl (by kernel_rfl) (by kernel_rfl) (by kernel_rfl) (fun _ _ _ h => h) (by assumption) (by rfl) ?_
        simp only [Act.put, List.setIfInBounds_toArray, List.set_cons_zero, List.set_cons_succ]
        first
          | (refine held_take 2 100 (v := ?_) rfl rfl (by kernel_rfl) (by kernel_rfl) (by kernel_rfl) (fun _ _ _ h => h) (by assumption) (by rfl) ?_ ?_; rotate_left; (focus (intro w hSw; obtain ⟨⟨hS0, hS1⟩, hS2, hS3⟩ := hSw; go_simp <;> with_reducible rfl)))
          | refine held_pass 2 100 rfl rfl (by kernel_rfl) (by kernel_rfl) (by kernel_rfl) (fun _ _ _ h => h) (by assumption) (by rfl) ?_
        simp only [Act.put, List.setIfInBounds_toArray, List.set_cons_zero, List.set_cons_succ]
        refine held_call 3 101 rfl rfl (by kernel_rfl) (by rfl) (fun K hK => ?_)
        simp only [Go.wp_at_succ, Go.wp_at_zero]
        go_simp
        refine (HRD.out _ _ _ K1.out).mono ?_
        rintro e k2 ⟨rfl, K2⟩
        first | (with_reducible refine hK.out _ _ ?_ (fun hHeld => ?_)) | (go_wp2_with fail; refine hK.out _ _ ?_ (fun hHeld => ?_))
        · exact HS.out _ _ _ K2.out
        clear hK K
        try simp only [Act.put, List.setIfInBounds_toArray, List.set_cons_zero, List.set_cons_succ]
        first
          | (refine held_take 4 102 (v := ?_) rfl rfl (by kernel_rfl) (by kernel_rfl) (by kernel_rfl) (fun _ _ _ h => h) (by assumption) (by rfl) ?_ ?_; rotate_left; (focus (intro w hSw; obtain ⟨⟨hS0, hS1⟩, hS2, hS3⟩ := hSw; go_simp <;> with_reducible rfl)))
          | refine held_pass 4 102 rfl rfl (by kernel_rfl) (by kernel_rfl) (by kernel_rfl) (fun _ _ _ h => h) (by assumption) (by rfl) ?_
        simp only [Act.put, List.setIfInBounds_toArray, List.set_cons_zero, List.set_cons_succ]
        first
          | (refine held_take 5 103 (v := ?_) rfl rfl (by kernel_rfl) (by kernel_rfl) (by kernel_rfl) (fun _ _ _ h => h) (by assumption) (by rfl) ?_ ?_; rotate_left; (focus (intro w hSw; obtain ⟨⟨hS0, hS1⟩, hS2, hS3⟩ := hSw; go_simp <;> with_reducible rfl)))
          | refine held_pass 5 103 rfl rfl (by kernel_rfl) (by kernel_rfl) (by kernel_rfl) (fun _ _ _ h => h) (by assumption) (by rfl) ?_
        simp only [Act.put, List.setIfInBounds_toArray, List.set_cons_zero, List.set_cons_succ]
        first
          | (refine held_take 6 104 (v := ?_) rfl rfl (by kernel_rfl) (by kernel_rfl) (by kernel_rfl) (fun _ _ _ h => h) (by assumption) (by rfl) ?_ ?_; rotate_left; (focus (intro w hSw; obtain ⟨⟨hS0, hS1⟩, hS2, hS3⟩ := hSw; go_simp <;> with_reducible rfl)))
          | refine held_pass 6 104 rfl rfl (by kernel_rfl) (by kernel_rfl) (by kernel_rfl) (fun _ _ _ h => h) (by assumption) (by rfl) ?_
        simp only [Act.put, List.setIfInBounds_toArray, List.set_cons_zero, List.set_cons_succ]
        first
          | (refine held_take 8 106 (v := ?_) rfl rfl (by kernel_rfl) (by kernel_rfl) (by kernel_rfl) (fun _ _ _ h => h) (by assumption) (by rfl) ?_ ?_; rotate_left; (focus (intro w hSw; obtain ⟨⟨hS0, hS1⟩, hS2, hS3⟩ := hSw; go_simp <;> with_reducible rfl)))
          | refine held_pass 8 106 rfl rfl (by kernel_rfl) (by kernel_rfl) (by kernel_rfl) (fun _ _ _ h => h) (by assumption) (by rfl) ?_
        simp only [Act.put, List.setIfInBounds_toArray, List.set_cons_zero, List.set_cons_succ]
        refine held_call 7 105 rfl rfl (by kernel_rfl) (by rfl) (fun K hK => ?_)
        simp only [Go.wp_at_succ, Go.wp_at_zero]
        go_simp
        refine (HCH.out _ _ _ K2.out).mono ?_
        rintro e k3 ⟨ca, cc, rfl, K3⟩
        first | (with_reducible refine hK.out _ _ ?_ (fun hHeld => ?_)) | (go_wp2_with fail; refine hK.out _ _ ?_ (fun hHeld => ?_))
        · exact HS.out _ _ _ K3.out.2
        clear hK K
        try simp only [Act.put, List.setIfInBounds_toArray, List.set_cons_zero, List.set_cons_succ]
        refine held_call 9 107 rfl rfl (by kernel_rfl) (by rfl) (fun K hK => ?_)
        simp only [Go.wp_at_succ, Go.wp_at_zero]
        go_simp
        refine (HSC.out _ _ _ _ K3.out.2 K3.out.1).mono ?_
        rintro e k4 ⟨rfl, K4⟩
        first | (with_reducible refine hK.out _ _ ?_ (fun hHeld => ?_)) | (go_wp2_with fail; refine hK.out _ _ ?_ (fun hHeld => ?_))
        · exact HS.out _ _ _ K4.out
        clear hK K
        try simp only [Act.put, List.setIfInBounds_toArray, List.set_cons_zero, List.set_cons_succ]
        first
          | (refine held_take 10 108 (v := ?_) rfl rfl (by kernel_rfl) (by kernel_rfl) (by kernel_rfl) (fun _ _ _ h => h) (by assumption) (by rfl) ?_ ?_; rotate_left; (focus (intro w hSw; obtain ⟨⟨hS0, hS1⟩, hS2, hS3⟩ := hSw; go_simp <;> with_reducible rfl)))
          | refine held_pass 10 108 rfl rfl (by kernel_rfl) (by kernel_rfl) (by kernel_rfl) (fun _ _ _ h => h) (by assumption) (by rfl) ?_
        simp only [Act.put, List.setIfInBounds_toArray, List.set_cons_zero, List.set_cons_succ]
        first
          | (refine held_take 11 109 (v := ?_) rfl rfl (by kernel_rfl) (by kernel_rfl) (by kernel_rfl) (fun _ _ _ h => h) (by assumption) (by rfl) ?_ ?_; rotate_left; (focus (intro w hSw; obtain ⟨⟨hS0, hS1⟩, hS2, hS3⟩ := hSw; go_simp <;> with_reducible rfl)))
          | refine held_pass 11 109 rfl rfl (by kernel_rfl) (by kernel_rfl) (by kernel_rfl) (fun _ _ _ h => h) (by assumption) (by rfl) ?_
        simp only [Act.put, List.setIfInBounds_toArray, List.set_cons_zero, List.set_cons_succ]
        first
          | (refine held_take 12 110 (v := ?_) rfl rfl (by kernel_rfl) (by kernel_rfl) (by kernel_rfl) (fun _ _ _ h => h) (by assumption) (by rfl) ?_ ?_; rotate_left; (focus (intro w hSw; obtain ⟨⟨hS0, hS1⟩, hS2, hS3⟩ := hSw; go_simp <;> with_reducible rfl)))
          | refine held_pass 12 110 rfl rfl (by kernel_rfl) (by kernel_rfl) (by kernel_rfl) (fun _ _ _ h => h) (by assumption) (by rfl) ?_
        simp only [Act.put, List.setIfInBounds_toArray, List.set_cons_zero, List.set_cons_succ]
        first
          | (refine held_take 13 111 (v := ?_) rfl rfl (by kernel_rfl) (by kernel_rfl) (by kernel_rfl) (fun _ _ _ h => h) (by assumption) (by rfl) ?_ ?_; rotate_left; (focus (intro w hSw; obtain ⟨⟨hS0, hS1⟩, hS2, hS3⟩ := hSw; go_simp <;> with_reducible rfl)))
          | refine held_pass 13 111 rfl rfl (by kernel_rfl) (by kernel_rfl) (by kernel_rfl) (fun _ _ _ h => h) (by assumption) (by rfl) ?_
        simp only [Act.put, List.setIfInBounds_toArray, List.set_cons_zero, List.set_cons_succ]
        first
          | (refine held_take 14 112 (v := ?_) rfl rfl (by kernel_rfl) (by kernel_rfl) (by kernel_rfl) (fun _ _ _ h => h) (by assumption) (by rfl) ?_ ?_; rotate_left; (focus (intro w hSw; obtain ⟨⟨hS0, hS1⟩, hS2, hS3⟩ := hSw; go_simp <;> with_reducible rfl)))
          | refine held_pass 14 112 rfl rfl (by kernel_rfl) (by kernel_rfl) (by kernel_rfl) (fun _ _ _ h => h) (by assumption) (by rfl) ?_
        simp only [Act.put, List.setIfInBounds_toArray, List.set_cons_zero, List.set_cons_succ]
        refine held_call 15 113 rfl rfl (by kernel_rfl) (by rfl) (fun K hK => ?_)
        simp only [Go.wp_at_succ, Go.wp_at_zero]
        go_simp
        refine (HPF.out _ _ _ K4.out).mono ?_
        rintro e k5 ⟨rfl, K5⟩
        first | (with_reducible refine hK.out _ _ ?_ (fun hHeld => ?_)) | (go_wp2_with fail; refine hK.out _ _ ?_ (fun hHeld => ?_))
        · exact HS.out _ _ _ K5.out
        clear hK K
        try simp only [Act.put, List.setIfInBounds_toArray, List.set_cons_zero, List.set_cons_succ]
        first
          | (refine held_take 16 114 (v := ?_) rfl rfl (by kernel_rfl) (by kernel_rfl) (by kernel_rfl) (fun _ _ _ h => h) (by assumption) (by rfl) ?_ ?_; rotate_left; (focus (intro w hSw; obtain ⟨⟨hS0, hS1⟩, hS2, hS3⟩ := hSw; go_simp <;> with_reducible rfl)))
          | refine held_pass 16 114 rfl rfl (by kernel_rfl) (by kernel_rfl) (by kernel_rfl) (fun _ _ _ h => h) (by assumption) (by rfl) ?_
        simp only [Act.put, List.setIfInBounds_toArray, List.set_cons_zero, List.set_cons_succ]
        first
          | (refine held_take 17 115 (v := ?_) rfl rfl (by kernel_rfl) (by kernel_rfl) (by kernel_rfl) (fun _ _ _ h => h) (by assumption) (by rfl) ?_ ?_; rotate_left; (focus (intro w hSw; obtain ⟨⟨hS0, hS1⟩, hS2, hS3⟩ := hSw; go_simp <;> with_reducible rfl)))
          | refine held_pass 17 115 rfl rfl (by kernel_rfl) (by kernel_rfl) (by kernel_rfl) (fun _ _ _ h => h) (by assumption) (by rfl) ?_
        simp only [Act.put, List.setIfInBounds_toArray, List.set_cons_zero, List.set_cons_succ]
        first
          | (refine held_take 18 4 (v := ?_) rfl rfl (by kernel_rfl) (by kernel_rfl) (by kernel_rfl) (fun _ _ _ h => h) (by assumption) (by rfl) ?_ ?_; rotate_left; (focus (intro w hSw; obtain ⟨⟨hS0, hS1⟩, hS2, hS3⟩ := hSw; go_simp <;> with_reducible rfl)))
          | refine held_pass 18 4 rfl rfl (by kernel_rfl) (by kernel_rfl) (by kernel_rfl) (fun _ _ _ h => h) (by assumption) (by rfl) ?_
        simp only [Act.put, List.setIfInBounds_toArray, List.set_cons_zero, List.set_cons_succ]
        refine wpAnyH_done (by kernel_rfl) ?_ _
        go_wp2
        go_returns
        exact ⟨by first | rfl | trivial, K5.out.t.t.bel⟩
      · have hC : s.C = [4] := by
          rcases hst with ⟨_, _, _, e⟩ | ⟨e, _⟩
          · exact e
          · omega
        have TE1 : Hid (TE n w p q (.slice (some ⟨n, 0, none⟩) 1 1) s y0) := ⟨TY0.out, CY0.out, by rw [hC]; exact TY0.out.r⟩
        clear hst hC cy0 TY0 CY0
        go_wp2_with fail
        rw [← HQQ.out, ← HY0.out]
        clear g0 g1
        refine wp_region_held_drew (S := (fun u => (u.cell? ⟨n + 1, 0, none⟩ = some (.int .i64 1000) ∧ u.cell? ⟨n + 1, 1, none⟩ = some (.int .i64 4)) ∧ u.cell? ⟨q, 0, none⟩ = some (.int .i64 7) ∧ u.cell? ⟨q, 1, none⟩ = some (.slice (some ⟨n, 0, none⟩) 1 1))) (by kernel_rfl) (HS.out _ _ _ (TE1.out.on (Below.drew (Below.refl _ _)))) (fun hHeld => ?_)
        refine held_call 0 98 rfl rfl (by kernel_rfl) (by rfl) (fun K hK => ?_)
        simp only [Go.wp_at_zero]
        go_simp
        refine (HT.out _).mono ?_
        rintro e k1 ⟨rfl, B1⟩
        have K1 := Lib.hid ((TE1.out.on (Below.drew (Below.refl _ _))).on B1)
        clear B1
        first | (with_reducible refine hK.out _ _ ?_ (fun hHeld => ?_)) | (go_wp2_with fail; refine hK.out _ _ ?_ (fun hHeld => ?_))
        · exact HS.out _ _ _ K1.out
        clear hK K
        try simp only [Act.put, List.setIfInBounds_toArray, List.set_cons_zero, List.set_cons_succ]
        first
          | (refine held_take 1 99 (v := ?_) rfl rfl (by kernel_rfl) (by kernel_rfl) (by kernel_rfl) (fun _ _ _ h => h) (by assumption) (by rfl) ?_ ?_; rotate_left; (focus (intro w hSw; obtain ⟨⟨hS0, hS1⟩, hS2, hS3⟩ := hSw; go_simp <;> with_reducible rfl)))
          | refine held_pass 1 99 rfl rfl (by kernel_rfl) (by kernel_rfl) (by kernel_rfl) (fun _ _ _ h => h) (by assumption) (by rfl) ?_
        simp only [Act.put, List.setIfInBounds_toArray, List.set_cons_zero, List.set_cons_succ]
        first
          | (refine held_take 2 100 (v := ?_) rfl rfl (by kernel_rfl) (by kernel_rfl) (by kernel_rfl) (fun _ _ _ h => h) (by assumption) (by rfl) ?_ ?_; rotate_left; (focus (intro w hSw; obtain ⟨⟨hS0, hS1⟩, hS2, hS3⟩ := hSw; go_simp <;> with_reducible rfl)))
          | refine held_pass 2 100 rfl rfl (by kernel_rfl) (by kernel_rfl) (by kernel_rfl) (fun _ _ _ h => h) (by assumption) (by rfl) ?_
        simp only [Act.put, List.setIfInBounds_toArray, List.set_cons_zero, List.set_cons_succ]
        refine held_call 3 101 rfl rfl (by kernel_rfl) (by rfl) (fun K hK => ?_)
        simp only [Go.wp_at_succ, Go.wp_at_zero]
        go_simp
        refine (HRD.out _ _ _ K1.out).mono ?_
        rintro e k2 ⟨rfl, K2⟩
        first | (with_reducible refine hK.out _ _ ?_ (fun hHeld => ?_)) | (go_wp2_with fail; refine hK.out _ _ ?_ (fun hHeld => ?_))
        · exact HS.out _ _ _ K2.out
        clear hK K
        try simp only [Act.put, List.setIfInBounds_toArray, List.set_cons_zero, List.set_cons_succ]
        first
          | (refine held_take 4 102 (v := ?_) rfl rfl (by kernel_rfl) (by kernel_rfl) (by kernel_rfl) (fun _ _ _ h => h) (by assumption) (by rfl) ?_ ?_; rotate_left; (focus (intro w hSw; obtain ⟨⟨hS0, hS1⟩, hS2, hS3⟩ := hSw; go_simp <;> with_reducible rfl)))
          | refine held_pass 4 102 rfl rfl (by kernel_rfl) (by kernel_rfl) (by kernel_rfl) (fun _ _ _ h => h) (by assumption) (by rfl) ?_
        simp only [Act.put, List.setIfInBounds_toArray, List.set_cons_zero, List.set_cons_succ]
        first
          | (refine held_take 5 103 (v := ?_) rfl rfl (by kernel_rfl) (by kernel_rfl) (by kernel_rfl) (fun _ _ _ h => h) (by assumption) (by rfl) ?_ ?_; rotate_left; (focus (intro w hSw; obtain ⟨⟨hS0, hS1⟩, hS2, hS3⟩ := hSw; go_simp <;> with_reducible rfl)))
          | refine held_pass 5 103 rfl rfl (by kernel_rfl) (by kernel_rfl) (by kernel_rfl) (fun _ _ _ h => h) (by assumption) (by rfl) ?_
        simp only [Act.put, List.setIfInBounds_toArray, List.set_cons_zero, List.set_cons_succ]
        first
          | (refine held_take 6 104 (v := ?_) rfl rfl (by kernel_rfl) (by kernel_rfl) (by kernel_rfl) (fun _ _ _ h => h) (by assumption) (by rfl) ?_ ?_; rotate_left; (focus (intro w hSw; obtain ⟨⟨hS0, hS1⟩, hS2, hS3⟩ := hSw; go_simp <;> with_reducible rfl)))
          | refine held_pass 6 104 rfl rfl (by kernel_rfl) (by kernel_rfl) (by kernel_rfl) (fun _ _ _ h => h) (by assumption) (by rfl) ?_
        simp only [Act.put, List.setIfInBounds_toArray, List.set_cons_zero, List.set_cons_succ]
        first
          | (refine held_take 8 106 (v := ?_) rfl rfl (by kernel_rfl) (by kernel_rfl) (by kernel_rfl) (fun _ _ _ h => h) (by assumption) (by rfl) ?_ ?_; rotate_left; (focus (intro w hSw; obtain ⟨⟨hS0, hS1⟩, hS2, hS3⟩ := hSw; go_simp <;> with_reducible rfl)))
          | refine held_pass 8 106 rfl rfl (by kernel_rfl) (by kernel_rfl) (by kernel_rfl) (fun _ _ _ h => h) (by assumption) (by rfl) ?_
        simp only [Act.put, List.setIfInBounds_toArray, List.set_cons_zero, List.set_cons_succ]
        refine held_call 7 105 rfl rfl (by kernel_rfl) (by rfl) (fun K hK => ?_)
        simp only [Go.wp_at_succ, Go.wp_at_zero]
        go_simp
        refine (HCH.out _ _ _ K2.out).mono ?_
        rintro e k3 ⟨ca, cc, rfl, K3⟩
        first | (with_reducible refine hK.out _ _ ?_ (fun hHeld => ?_)) | (go_wp2_with fail; refine hK.out _ _ ?_ (fun hHeld => ?_))
        · exact HS.out _ _ _ K3.out.2
        clear hK K
        try simp only [Act.put, List.setIfInBounds_toArray, List.set_cons_zero, List.set_cons_succ]
        refine held_call 9 107 rfl rfl (by kernel_rfl) (by rfl) (fun K hK => ?_)
        simp only [Go.wp_at_succ, Go.wp_at_zero]
        go_simp
        refine (HSC.out _ _ _ _ K3.out.2 K3.out.1).mono ?_
        rintro e k4 ⟨rfl, K4⟩
        first | (with_reducible refine hK.out _ _ ?_ (fun hHeld => ?_)) | (go_wp2_with fail; refine hK.out _ _ ?_ (fun hHeld => ?_))
        · exact HS.out _ _ _ K4.out
        clear hK K
        try simp only [Act.put, List.setIfInBounds_toArray, List.set_cons_zero, List.set_cons_succ]
        first
          | (refine held_take 10 108 (v := ?_) rfl rfl (by kernel_rfl) (by kernel_rfl) (by kernel_rfl) (fun _ _ _ h => h) (by assumption) (by rfl) ?_ ?_; rotate_left; (focus (intro w hSw; obtain ⟨⟨hS0, hS1⟩, hS2, hS3⟩ := hSw; go_simp <;> with_reducible rfl)))
          | refine held_pass 10 108 rfl rfl (by kernel_rfl) (by kernel_rfl) (by kernel_rfl) (fun _ _ _ h => h) (by assumption) (by rfl) ?_
        simp only [Act.put, List.setIfInBounds_toArray, List.set_cons_zero, List.set_cons_succ]
        first
          | (refine held_take 11 109 (v := ?_) rfl rfl (by kernel_rfl) (by kernel_rfl) (by kernel_rfl) (fun _ _ _ h => h) (by assumption) (by rfl) ?_ ?_; rotate_left; (focus (intro w hSw; obtain ⟨⟨hS0, hS1⟩, hS2, hS3⟩ := hSw; go_simp <;> with_reducible rfl)))
          | refine held_pass 11 109 rfl rfl (by kernel_rfl) (by kernel_rfl) (by kernel_rfl) (fun _ _ _ h => h) (by assumption) (by rfl) ?_
        simp only [Act.put, List.setIfInBounds_toArray, List.set_cons_zero, List.set_cons_succ]
        first
          | (refine held_take 12 110 (v := ?_) rfl rfl (by kernel_rfl) (by kernel_rfl) (by kernel_rfl) (fun _ _ _ h => h) (by assumption) (by rfl) ?_ ?_; rotate_left; (focus (intro w hSw; obtain ⟨⟨hS0, hS1⟩, hS2, hS3⟩ := hSw; go_simp <;> with_reducible rfl)))
          | refine held_pass 12 110 rfl rfl (by kernel_rfl) (by kernel_rfl) (by kernel_rfl) (fun _ _ _ h => h) (by assumption) (by rfl) ?_
        simp only [Act.put, List.setIfInBounds_toArray, List.set_cons_zero, List.set_cons_succ]
        first
          | (refine held_take 13 111 (v := ?_) rfl rfl (by kernel_rfl) (by kernel_rfl) (by kernel_rfl) (fun _ _ _ h => h) (by assumption) (by rfl) ?_ ?_; rotate_left; (focus (intro w hSw; obtain ⟨⟨hS0, hS1⟩, hS2, hS3⟩ := hSw; go_simp <;> with_reducible rfl)))
          | refine held_pass 13 111 rfl rfl (by kernel_rfl) (by kernel_rfl) (by kernel_rfl) (fun _ _ _ h => h) (by assumption) (by rfl) ?_
        simp only [Act.put, List.setIfInBounds_toArray, List.set_cons_zero, List.set_cons_succ]
        first
          | (refine held_take 14 112 (v := ?_) rfl rfl (by kernel_rfl) (by kernel_rfl) (by kernel_rfl) (fun _ _ _ h => h) (by assumption) (by rfl) ?_ ?_; rotate_left; (focus (intro w hSw; obtain ⟨⟨hS0, hS1⟩, hS2, hS3⟩ := hSw; go_simp <;> with_reducible rfl)))
          | refine held_pass 14 112 rfl rfl (by kernel_rfl) (by kernel_rfl) (by kernel_rfl) (fun _ _ _ h => h) (by assumption) (by rfl) ?_
        simp only [Act.put, List.setIfInBounds_toArray, List.set_cons_zero, List.set_cons_succ]
        refine held_call 15 113 rfl rfl (by kernel_rfl) (by rfl) (fun K hK => ?_)
        simp only [Go.wp_at_succ, Go.wp_at_zero]
        go_simp
        refine (HPF.out _ _ _ K4.out).mono ?_
        rintro e k5 ⟨rfl, K5⟩
        first | (with_reducible refine hK.out _ _ ?_ (fun hHeld => ?_)) | (go_wp2_with fail; refine hK.out _ _ ?_ (fun hHeld => ?_))
        · exact HS.out _ _ _ K5.out
        clear hK K
        try simp only [Act.put, List.setIfInBounds_toArray, List.set_cons_zero, List.set_cons_succ]
        first
          | (refine held_take 16 114 (v := ?_) rfl rfl (by kernel_rfl) (by kernel_rfl) (by kernel_rfl) (fun _ _ _ h => h) (by assumption) (by rfl) ?_ ?_; rotate_left; (focus (intro w hSw; obtain ⟨⟨hS0, hS1⟩, hS2, hS3⟩ := hSw; go_simp <;> with_reducible rfl)))
          | refine held_pass 16 114 rfl rfl (by kernel_rfl) (by kernel_rfl) (by kernel_rfl) (fun _ _ _ h => h) (by assumption) (by rfl) ?_
        simp only [Act.put, List.setIfInBounds_toArray, List.set_cons_zero, List.set_cons_succ]
        first
          | (refine held_take 17 115 (v := ?_) rfl rfl (by kernel_rfl) (by kernel_rfl) (by kernel_rfl) (fun _ _ _ h => h) (by assumption) (by rfl) ?_ ?_; rotate_left; (focus (intro w hSw; obtain ⟨⟨hS0, hS1⟩, hS2, hS3⟩ := hSw; go_simp <;> with_reducible rfl)))
          | refine held_pass 17 115 rfl rfl (by kernel_rfl) (by kernel_rfl) (by kernel_rfl) (fun _ _ _ h => h) (by assumption) (by rfl) ?_
        simp only [Act.put, List.setIfInBounds_toArray, List.set_cons_zero, List.set_cons_succ]
        first
          | (refine held_take 18 4 (v := ?_) rfl rfl (by kernel_rfl) (by kernel_rfl) (by kernel_rfl) (fun _ _ _ h => h) (by assumption) (by rfl) ?_ ?_; rotate_left; (focus (intro w hSw; obtain ⟨⟨hS0, hS1⟩, hS2, hS3⟩ := hSw; go_simp <;> with_reducible rfl)))
          | refine held_pass 18 4 rfl rfl (by kernel_rfl) (by kernel_rfl) (by kernel_rfl) (fun _ _ _ h => h) (by assumption) (by rfl) ?_
        simp only [Act.put, List.setIfInBounds_toArray, List.set_cons_zero, List.set_cons_succ]
        refine wpAnyH_done (by kernel_rfl) ?_ _
        go_wp2
        go_returns
        exact ⟨by first | rfl | trivial, K5.out.t.t.bel⟩

set_option maxRecDepth 100000 in
theorem lifted (os : Os) (started : os.Started) (H : Type) (enc : TypeId × Value → H) :
    ReturnsInHanded {} Try.checked os 6 .any (Rows.tallyBestSpec.pre6 enc Try.prog Try.f6 Rows.tallyBestRow.domain false) (Rows.tallyBestSpec.post enc Try.prog Try.f6 false true false false) := by
  refine returnsInHanded_of_change (C := Try.checked) own started (by kernel_rfl) Try.func6
    (ChangeSpec.witness6 (enc := enc) (C := Try.checked) false ⟨#[], #[.slice none 0 0, .int .i64 0], []⟩ 8 (by kernel_rfl) (by kernel_rfl) (by kernel_rfl) (by kernel_rfl)) ?_
  intro W base args ds gs before hval0 hW hcnd _
  have hval : ∀ (j : Nat) t v, Try.f6.params[j]? = some t → args[j]? = some v → Value.okWide Try.prog W .any base t v := hval0
  have hW' := hW
  obtain ⟨p, q, hA0, hV, rfl, hfz, hnd⟩ := hW
  have hA : DataW.TrodAll enc Try.prog W 0 (fun _ => true) true Try.f6.params.toList args.toList ds p := hA0
  rw [Try.params6] at hA hval
  obtain ⟨v0, vs0, d0, ds0, p0, q0, hargs, rfl, rfl, h0, r0⟩ := trodAll_cons hA
  obtain ⟨v1, vs1, d1, ds1, p1, q1, rfl, rfl, rfl, h1, r1⟩ := trodAll_cons r0
  obtain ⟨rfl, rfl, rfl⟩ := trodAll_nil r1
  obtain rfl : args = #[v0, v1] := by cases args; simp_all
  obtain ⟨rfl, rfl⟩ := trodVars_none hV
  obtain ⟨a0, len0, cap0, rfl⟩ := okWide_slice Try.underlying24 (hval 0 24 v0 rfl rfl)
  have k0 := h0
  have lt0 : ∀ x ∈ p0, x.block < W.heap.size := by obtain ⟨m, hm⟩ := k0; exact DataW.trod_lt m _ _ _ hm
  obtain ⟨l0, w0⟩ := cints_open h0
  obtain ⟨a1, rfl, rfl, rfl, w1⟩ := open_int Try.underlying3 (hval 1 3 v1 rfl rfl) h1
  clear hA0 hval0
  refine (walk (.slice a0 len0 cap0) l0 a1 W w0 w1).mono fun e W' ⟨he, bel⟩ => ?_
  subst he
  exact ⟨_, rfl, _, _, _, [], _, [], hW', trodAll_mk1 (shut_bool Try.underlying4 _), (trodAll_cons_mk (Below.trod laidOut (by kernel_rfl) (of_decide_eq_true (by kernel_rfl)) k0 bel lt0) (trodAll_cons_mk (shut_int Try.underlying3 w1) trodAll_mk0)), rfl, bel.frame _, fun h => by cases h⟩

theorem over : Rows.tallyBestRow.holds Try.pinned (OpenSpec.ofChange Rows.tallyBestSpec) :=
  OpenClaim.holds_of_wide 6 Try.f6 rfl rfl rfl rfl rfl rfl rfl ⟨rfl, rfl, rfl, rfl, rfl⟩ rfl rfl rfl rfl rfl (by kernel_rfl) Try.func6 (by kernel_rfl)
    (of_decide_eq_true (by kernel_rfl)) (by unfold Func.isWrapper; first | (rw [if_pos (by decide +kernel)]; kernel_rfl) | (rw [if_neg (by decide +kernel)]; exact ⟨rfl, rfl⟩))
    (fun os started H enc _ => lifted os started H enc)
end Go.Proofs.Ytiidmiioegdfaaa.TallyBest

namespace Go.Proofs.Ytiidmiioegdfaaa
theorem tallyBest_holds : Rows.TallyBestSaid := TallyBest.over
#print axioms tallyBest_holds
end Go.Proofs.Ytiidmiioegdfaaa
