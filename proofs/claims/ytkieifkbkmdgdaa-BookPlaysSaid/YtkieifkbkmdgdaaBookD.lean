/-
  THE REFERENCE's TABLE: Del. Of at most five thousand keys.
-/
import Derived.Test.YtkieifkbkmdgdaaBookR
import Derived.Deep.RegionLaw
import Derived.Deep.DeepCutAuto
namespace Go.Proofs.Ytkieifkbkmdgdaa
open Go.RowKit

/-- append of ints from any source onto a row of one's own, as one step of a region that draws. -/
theorem iapp {ops : Array Oper} {o : Oper} {a : Act} {w : World} {K : Act → World → Prop} {Q : Exit → Act → World → Prop} {E : Prop} (hgd : o.guard = none) (s x : Operand)
    (ho : o.op = .call { callee := .builtin .append, args := #[s, x], argTypes := #[26, 26] }) (base : Nat) (v : Value) (X : List Int) (n : Nat) (hs : a.eval s = v) (hown : w.ownsRow base 3 1 v n (intCells X)) (xv : Value) (Y : List Int) (m : Nat) (hx : a.eval x = xv)
    (hsrc : Src Try.prog 1 26 xv m (intCells Y) w) (h6 : n + m ≤ 1000000) (hb : base ≤ w.heap.size) (N : Nat) (hN : n + m = N) (Z : List Int) (hZ : X ++ Y = Z)
    (hK : ∀ a1 c1 w1, w1.ownsRow base 3 1 (.slice a1 N c1) N (intCells Z) → Below base w w1 → (∀ k, k < w.heap.size → some k ≠ v.ownBlock → w1.heap[k]? = w.heap[k]?) → K (a.put o.dst (.slice a1 N c1)) w1) :
    if Region.wanted o (yielded ops a.tmps) = true then Oper.wp Try.prog o a w K Q else E := by
  subst hN hZ
  obtain ⟨i0, hi, hz0, hz1, hz2⟩ := info_parts info_int6
  have hw : Region.wanted o (yielded ops a.tmps) = true := by simp [Region.wanted, hgd]
  rw [if_pos hw]
  obtain ⟨v', w', hrun, h1, h2⟩ := run_append_own_src (P := Try.prog) base 26 26 o.type 3 i0 (.int .i64 0) 1 8 Try.underlying26 hi hz0 hz1 hz2 rfl v n (intCells X) hown xv m (intCells Y) hsrc (by unfold maxLen; omega) (by omega) hb
  have h1' : w'.ownsRow base 3 1 v' (n + m) (intCells (X ++ Y)) := by rw [show intCells (X ++ Y) = intCells X ++ intCells Y by simp [intCells]]; exact h1
  obtain ⟨a1, c1, rfl⟩ := own_shape h1'
  unfold Oper.wp
  simp [execOp, ho, resolve, invoke, builtin, hs, hx, hrun, Result.andThen]
  exact hK _ _ _ h1' ((Below.refl _ _).grown h2 hb (fun k hk => (hown.lt k hk).1)) (fun k hk hne => h2.block k hk hne)
theorem src_cells6 {u : World} {g o m c : Nat} {X : List Int} (hl : X.length = m) (h : ∀ j, j < m → u.cell? ⟨g, o + j, none⟩ = some (.int .i64 (X.getD j 0))) : Src Try.prog 1 26 (.slice (some ⟨g, o, none⟩) m c) m (intCells X) u := by
  refine Src.ofSlice _ Try.underlying26 ⟨g, o, none⟩ m c (intCells X) (by simp [intCells, hl]) ?_ ?_
  · intro j x hj
    have hjm : j < m := by have := (List.getElem?_eq_some_iff.1 hj).1; simpa [intCells, hl] using this
    rw [Addr.add_lit, h j hjm, ← hj]
    simp [intCells, List.getD, show j < X.length by omega]
  · intro x hx
    obtain ⟨y, _, rfl⟩ := List.mem_map.1 hx
    rfl
theorem own_empty {u : World} {g base : Nat} (h : u.heap[g]? = some (.cells #[] 3 (0, 0))) (hb : base ≤ g) : u.ownsRow base 3 1 (.slice (some ⟨g, 0, none⟩) 0 0) 0 (intCells []) :=
  ⟨rfl, .inr ⟨g, 0, #[], rfl, hb, h, Nat.le_refl _, Nat.zero_le _, rfl, rfl⟩⟩
theorem isize1 (w : World) (o : Obj) : (w.alloc o).heap.size = w.heap.size + 1 := by simp
theorem inew0 (w : World) (o : Obj) : (w.alloc o).drew.heap[w.heap.size]? = some o := heap_alloc_new w o

/-- A row has been made anew and stored into the reference's block. -/
def RowSet (W : World) (R o : Nat) (Z : List Int) (N : Nat) (u : World) : Prop :=
  ∃ a c u0, Below W.heap.size W u0 ∧ u = u0.setCell ⟨R, o, none⟩ (.slice a N c) ∧ u0.ownsRow W.heap.size 3 1 (.slice a N c) N (intCells Z)
theorem row_set {w : World} {base R o : Nat} {v u : Value} {n : Nat} {xs : List Value} {cs : Array Value} (h : w.ownsRow base 3 1 v n xs) (hR : w.heap[R]? = some (.cells cs 28 (0, 0))) : (w.setCell ⟨R, o, none⟩ u).ownsRow base 3 1 v n xs := by
  refine row_only h (Only.set R o w u) fun g hg e => ?_
  obtain ⟨_, _, _, _, _, hk⟩ := row_of h
  obtain ⟨_, cs', hc⟩ := hk g hg
  rw [e] at hc
  have := hc.symm.trans hR
  simp at this
theorem rb_mid {n R N : Nat} {w w1 W2 : World} {L : List (Int × Int)} {vk vv : Value} {Z : List Int} (h1 : w.heap[R]? = some (.cells #[vk, vv] 28 (0, 0))) (h4 : w.ownsRow n 3 1 vv L.length (intCells (valsL L))) (hO : Only (fun _ => False) w w1) (hs : RowSet w1 R 0 Z N W2) :
    (∃ v, W2.heap[R]? = some (.cells #[v, vv] 28 (0, 0)) ∧ W2.ownsRow w1.heap.size 3 1 v N (intCells Z)) ∧ W2.ownsRow n 3 1 vv L.length (intCells (valsL L)) ∧ Only (· = R) w W2 := by
  obtain ⟨a, c, u0, hb, rfl, hr⟩ := hs
  have e1 : u0.heap[R]? = some (.cells #[vk, vv] 28 (0, 0)) := (hb.block R (Nat.lt_of_lt_of_le (lt_of_block h1) hO.size)).trans ((hO.block R (lt_of_block h1) id).trans h1)
  refine ⟨⟨.slice a N c, ?_, row_set hr e1⟩, row_set (own_below (row_only h4 hO fun _ _ => id) hb) e1, ((hO.nil.trans (Only.of hb)).trans (Only.set R 0 _ _))⟩
  show (u0.setCell _ _).heap[R]? = _
  rw [heap_setCell_same _ _ _ _ _ _ e1]; rfl
theorem rb_two {n R N : Nat} {w w1 W2 W3 : World} {L L' : List (Int × Int)} (h : RB n w R L) (hn : n ≤ w.heap.size) (hO : Only (fun _ => False) w w1) (hN : L'.length = N) (h2 : RowSet w1 R 0 (keysL L') N W2) (h3 : RowSet W2 R 1 (valsL L') N W3) : RB n W3 R L' ∧ Only (RS n w) w W3 := by
  subst hN
  obtain ⟨vk, vv, e1, e2, e3, e4, e5⟩ := h
  obtain ⟨⟨v, f1, f2⟩, f3, f4⟩ := rb_mid e1 e4 hO h2
  obtain ⟨a, c, u0, hb, rfl, hr⟩ := h3
  have g1 : u0.heap[R]? = some (.cells #[v, vv] 28 (0, 0)) := (hb.block R (lt_of_block f1)).trans f1
  have hRS : RS n w R := ⟨e2, _, _, e1, .inl rfl⟩
  refine ⟨⟨v, .slice a _ c, ?_, e2, ownsRow_base (row_set (own_below f2 hb) g1) (Nat.le_trans hn hO.size), ownsRow_base (row_set hr g1) (Nat.le_trans hn f4.size), ?_⟩, ?_⟩
  · show (u0.setCell _ _).heap[R]? = _
    rw [heap_setCell_same _ _ _ _ _ _ g1]; rfl
  · rcases hv : v.ownBlock with _ | g
    · exact .inl rfl
    · refine .inr fun e => ?_
      have l1 := (f2.lt g hv).2
      have l2 := (hr.lt g e.symm).1
      omega
  · exact ((f4.mono fun _ _ hx => hx ▸ hRS).trans (Only.of hb)).then (Only.set R 1 _ _) fun _ _ hx => hx ▸ hRS
theorem row_src {W : World} {base g m c i : Nat} {X : List Int} (h : W.ownsRow base 3 1 (.slice (some ⟨g, 0, none⟩) m c) m (intCells X)) (hi : i ≤ m) (u : World) (hu : Below W.heap.size W u) : Src Try.prog 1 26 (.slice (some ⟨g, 0, none⟩) i c) i (intCells (X.take i)) u := by
  have hX : X.length = m := by have := h.1; simp [intCells] at this; omega
  refine src_cells6 (by simp; omega) fun j hj => ?_
  obtain ⟨g', e, _, hl, _, hc⟩ := row_at h (by omega)
  cases e
  rw [hu.cell (p := ⟨g, 0 + j, none⟩) hl, show (0 + j) = j by omega, (hc j (by omega)).1]
  simp [List.getD, show j < i by omega]
theorem row_src2 {W : World} {base g m c i o2 : Nat} {X : List Int} (h : W.ownsRow base 3 1 (.slice (some ⟨g, 0, none⟩) m c) m (intCells X)) (hi : i ≤ m) (ho : o2 = i ∨ m = i) (u : World) (hu : Below W.heap.size W u) : Src Try.prog 1 26 (.slice (some ⟨g, o2, none⟩) (m - i) (c - i)) (m - i) (intCells (X.drop i)) u := by
  have hX : X.length = m := by have := h.1; simp [intCells] at this; omega
  refine src_cells6 (by simp; omega) fun j hj => ?_
  obtain rfl : o2 = i := by omega
  obtain ⟨g', e, _, hl, _, hc⟩ := row_at h (by omega)
  cases e
  rw [hu.cell (p := ⟨g, o2 + j, none⟩) hl, (hc (o2 + j) (by omega)).1]
  simp [List.getD]
/-- The cells of a table's block. -/
theorem ref_cells {w : World} {R : Nat} {vk vv : Value} (h : w.heap[R]? = some (.cells #[vk, vv] 28 (0, 0))) :
    (∀ u, Below w.heap.size w u → u.cell? ⟨R, 0, none⟩ = some vk ∧ u.frozen? ⟨R, 0, none⟩ = false) ∧ (∀ u, Below w.heap.size w u → u.cell? ⟨R, 1, none⟩ = some vv ∧ u.frozen? ⟨R, 1, none⟩ = false) := by
  have hl := lt_of_block h
  exact ⟨fun u hu => ⟨(hu.cell (p := ⟨R, 0, none⟩) hl).trans (by simp [World.cell?, h]), (hu.frozen (p := ⟨R, 0, none⟩) hl).trans (by simp [World.frozen?, h])⟩,
    fun u hu => ⟨(hu.cell (p := ⟨R, 1, none⟩) hl).trans (by simp [World.cell?, h]), (hu.frozen (p := ⟨R, 1, none⟩) hl).trans (by simp [World.frozen?, h])⟩⟩
/-- Where the key is. -/
theorem at_split {L : List (Int × Int)} {key : Int} {i : Nat} (hr : Rise L) (h : AtR key (keysL L) i) : L.take i = L.filter (fun x => decide (x.1 < key)) ∧ ∀ x ∈ L.drop i, key ≤ x.1 := by
  obtain ⟨h1, h2, h3⟩ := h
  have hl : i ≤ L.length := by simpa [keysL] using h1
  have g2 : ∀ x ∈ L.take i, x.1 < key := by
    intro x hx
    obtain ⟨j, hj, rfl⟩ := List.getElem_of_mem hx
    have hji : j < i := by simp at hj; omega
    have := h2 j hji
    simpa [keysL, List.getD, show j < L.length by omega] using this
  have g3 : ∀ x ∈ L.drop i, key ≤ x.1 := by
    intro x hx
    obtain ⟨j, hj, rfl⟩ := List.getElem_of_mem hx
    have hj2 : i + j < L.length := by simp at hj; omega
    have h0 := h3 (by simp [keysL]; omega)
    have e0 : (keysL L).getD i 0 = (L[i]'(by omega)).1 := by simp [keysL, List.getD, show i < L.length by omega]
    rw [e0] at h0
    simp only [List.getElem_drop]
    rcases Nat.eq_zero_or_pos j with rfl | hj0
    · simpa using h0
    · have := List.pairwise_iff_getElem.1 hr i (i + j) (by omega) hj2 (by omega)
      omega
  refine ⟨?_, g3⟩
  conv => rhs; rw [← List.take_append_drop i L]
  rw [List.filter_append, filter_all (fun x hx => by simpa using g2 x hx), filter_no (fun x hx => by have := g3 x hx; simp; omega), List.append_nil]
theorem at_no {L : List (Int × Int)} {key v : Int} {i : Nat} (hr : Rise L) (h : AtR key (keysL L) i) (hk : i < L.length → (keysL L).getD i 0 ≠ key) : getL key L = none ∧ putL key v L = L.take i ++ (key, v) :: L.drop i := by
  obtain ⟨h1, h2⟩ := at_split hr h
  have hn : ∀ x ∈ L, x.1 ≠ key := by
    intro x hx
    rw [← List.take_append_drop i L] at hx
    rcases List.mem_append.1 hx with hx | hx
    · rw [h1] at hx
      have := (List.mem_filter.1 hx).2
      simp at this
      omega
    · obtain ⟨j, hj, rfl⟩ := List.getElem_of_mem hx
      have hj2 : i + j < L.length := by simp at hj; omega
      have e0 : (keysL L).getD i 0 = (L[i]'(by omega)).1 := by simp [keysL, List.getD, show i < L.length by omega]
      have h0 := hk (by omega)
      rw [e0] at h0
      simp only [List.getElem_drop]
      rcases Nat.eq_zero_or_pos j with rfl | hj0
      · simpa using h0
      · have h3 := List.pairwise_iff_getElem.1 hr i (i + j) (by omega) hj2 (by omega)
        have h4 := h2 (L[i]'(by omega)) (by rw [List.mem_iff_getElem]; exact ⟨0, by simp; omega, by simp⟩)
        omega
  refine ⟨getL_no hn, ?_⟩
  unfold putL
  rw [← h1]
  congr 2
  conv => lhs; rw [← List.take_append_drop i L]
  rw [List.filter_append, filter_no (fun x hx => by rw [h1] at hx; have := (List.mem_filter.1 hx).2; simp at this; simp; omega), List.nil_append, filter_all (fun x hx => by
    have := h2 x hx
    have := hn x (List.mem_of_mem_drop hx)
    simp; omega)]
theorem at_yes {L : List (Int × Int)} {key : Int} {i : Nat} (hi : i < L.length) (hk : (keysL L).getD i 0 = key) : L = L.take i ++ (key, (valsL L).getD i 0) :: L.drop (i + 1) := by
  have e0 : (keysL L).getD i 0 = (L[i]'hi).1 := by simp [keysL, List.getD, hi]
  have e1 : (valsL L).getD i 0 = (L[i]'hi).2 := by simp [valsL, List.getD, hi]
  rw [← hk, e0, e1]
  conv => lhs; rw [← List.take_append_drop i L, List.drop_eq_getElem_cons hi]

set_option maxRecDepth 100000 in
set_option maxHeartbeats 8000000 in
theorem rbdel_any (n R : Nat) (L : List (Int × Int)) (key : Int) (w : World) (h : RB n w R L) (hnw : n ≤ w.heap.size) (hr : Rise L) (hl : L.length ≤ 5000) :
    Calls Try.prog 11 #[.pointer (some ⟨R, 0, none⟩), .int .i64 key] w fun e w' => e = .returned (.bool (getL key L).isSome) ∧ RB n w' R (delL key L) ∧ Only (RS n w) w w' := by
  have KA := Lib.hid (at_any n R L key w h hl)
  have HH := Lib.hid h
  obtain ⟨vk, vv, h1, h2, h3, h4, h5⟩ := h
  obtain ⟨ak, ck, rfl, hck, _⟩ := row_of h3
  obtain ⟨av, cv, rfl, hcv, _⟩ := row_of h4
  have H1 := Lib.hid h1
  have H3 := Lib.hid h3
  have H4 := Lib.hid h4
  have HR := Lib.hid hr
  have HNW := Lib.hid hnw
  obtain ⟨m, hm⟩ : ∃ m, m = L.length := ⟨_, rfl⟩
  rw [← hm] at H1 H3 H4 hck hcv hl
  have HM := Lib.hid hm
  clear h1 h2 h3 h4 h5 hm hr hnw
  have c0 := (ref_cells H1.out).1 w (Below.refl _ _)
  go_enter Try.func11, Try.ntmps11
  go_wp2_with fail
  refine KA.out.mono ?_
  rintro e w1 ⟨⟨i, rfl, hi⟩, q, hw⟩
  have HI' := Lib.hid hi
  have HO : Hid (Only (fun _ => False) w w1) := by show Only _ _ _; rw [hw]; exact Only.drewN _ _ _
  have H11 : Hid (w1.heap[R]? = some (.cells #[.slice ak m ck, .slice av m cv] 28 (0, 0))) := by show _ = _; rw [hw]; exact H1.out
  have H31 : Hid (w1.ownsRow n 3 1 (.slice ak m ck) m (intCells (keysL L))) := row_only H3.out HO.out fun _ _ => id
  have d0 := ((ref_cells H11.out).1 w1 (Below.refl _ _)).1
  clear hw c0 hi
  by_cases hlt : i < m
  · obtain ⟨g, rfl, hg, hgl, _, hcell⟩ := row_at H31.out (by omega)
    obtain ⟨x, hx⟩ : ∃ x, x = (keysL L).getD i 0 := ⟨_, rfl⟩
    have cx : w1.cell? ⟨g, i, none⟩ = some (.int .i64 x) := by rw [hx]; exact (hcell i hlt).1
    have HX := Lib.hid hx
    have i0 : (0 : Int) ≤ (i : Int) := by omega
    have i1 : (i : Int) < (m : Int) := by omega
    have dmi : decide (m ≤ i) = false := decide_eq_false (by omega)
    have im : Hid (i ≤ m) := by show i ≤ m; omega
    have im1 : Hid (i + 1 ≤ m) := by show i + 1 ≤ m; omega
    clear hx hcell
    by_cases hk : x = key
    · have sw : IntKind.i64.wrap ((i : Int) + 1) = (i : Int) + 1 := IntWalk.i64_in _ (by omega)
      have t1 : ((i : Int) + 1).toNat = i + 1 := by omega
      have i2 : (0 : Int) ≤ (i : Int) + 1 := by omega
      have i3 : (i : Int) + 1 ≤ (m : Int) := by omega
      have i4 : (i : Int) ≤ (ck : Int) := by omega
      have i5 : (i : Int) ≤ (cv : Int) := by omega
      have HK := Lib.hid hk
      obtain ⟨m', hm'⟩ : ∃ m', m' = m - 1 := ⟨_, rfl⟩
      have HM' := Lib.hid hm'
      have RW0 := Lib.hid (ref_cells H11.out).1
      clear hm'
      subst hk
      go_wp2_with fail
      clear cx d0
      go_cut [5] (fun s5 wc => s5 = .int .i64 i ∧ RowSet w1 R 0 ((keysL L).take i ++ (keysL L).drop (i + 1)) m' wc)
      case first =>
        clear HH HR HNW HI' HO HX HK H1 H3 H4 KA HM
        obtain ⟨f0, g0⟩ := RW0.out w1 (Below.refl _ _)
        have hRl : R < w1.heap.size := lt_of_block H11.out
        have hRne : R ≠ w1.heap.size := Nat.ne_of_lt hRl
        by_cases hcc : ck = i + 1
        · have HM1 : Hid (m = i + 1) := by show _ = _; omega
          have hce : (ck = i + 1) = True := by simp [hcc]
          clear hcc
          go_region_law (first
            | (refine iapp rfl (.tmp 28) (.tmp 34) rfl w1.heap.size _ [] 0 rfl (own_empty (by exact inew0 _ _) (by exact Nat.le_refl _)) _ ((keysL L).take i) i rfl (row_src H31.out im.out _ (by go_grown)) (by omega) (by simp) i (by omega) _ rfl ?_
               intro x1 y1 v2 O1 N1 k1
               have M1 := Lib.hid ((show Below w1.heap.size w1 _ by go_grown).trans N1)
               have OH := Lib.hid O1
               obtain ⟨f0, g0⟩ := RW0.out v2 M1.out
               clear O1 N1 k1)
            | (refine iapp rfl (.tmp 35) (.tmp 42) rfl w1.heap.size _ ((keysL L).take i) i rfl OH.out _ ((keysL L).drop (i + 1)) (m - (i + 1)) rfl (row_src2 H31.out im1.out (.inr HM1.out) _ M1.out) (by omega) (by exact M1.out.size) m' (by have := HM'.out; omega) _ rfl ?_
               intro x2 y2 v3 O2 N2 k2
               have M2 := Lib.hid (M1.out.trans N2)
               have OG := Lib.hid O2
               obtain ⟨f0, g0⟩ := RW0.out v3 M2.out
               clear O2 N2 k2))
          all_goals
            clear OH M1 f0 g0 hce HM1
            go_wp2
            go_meet
          all_goals exact ⟨rfl, x2, y2, v3, M2.out, rfl, OG.out⟩
        · have hce : (ck = i + 1) = False := by simp [hcc]
          clear hcc
          go_region_law (first
            | (refine iapp rfl (.tmp 28) (.tmp 34) rfl w1.heap.size _ [] 0 rfl (own_empty (by exact inew0 _ _) (by exact Nat.le_refl _)) _ ((keysL L).take i) i rfl (row_src H31.out im.out _ (by go_grown)) (by omega) (by simp) i (by omega) _ rfl ?_
               intro x1 y1 v2 O1 N1 k1
               have M1 := Lib.hid ((show Below w1.heap.size w1 _ by go_grown).trans N1)
               have OH := Lib.hid O1
               obtain ⟨f0, g0⟩ := RW0.out v2 M1.out
               clear O1 N1 k1)
            | (refine iapp rfl (.tmp 35) (.tmp 42) rfl w1.heap.size _ ((keysL L).take i) i rfl OH.out _ ((keysL L).drop (i + 1)) (m - (i + 1)) rfl (row_src2 H31.out im1.out (.inl rfl) _ M1.out) (by omega) (by exact M1.out.size) m' (by have := HM'.out; omega) _ rfl ?_
               intro x2 y2 v3 O2 N2 k2
               have M2 := Lib.hid (M1.out.trans N2)
               have OG := Lib.hid O2
               obtain ⟨f0, g0⟩ := RW0.out v3 M2.out
               clear O2 N2 k2))
          all_goals
            clear OH M1 f0 g0 hce
            go_wp2
            go_meet
          all_goals exact ⟨rfl, x2, y2, v3, M2.out, rfl, OG.out⟩
      case rest =>
        obtain ⟨rfl, hset⟩ := hcut
        have HS := Lib.hid hset
        obtain ⟨⟨v2, e2, _⟩, hv2, ho2⟩ := rb_mid H1.out (by rw [← HM.out]; exact H4.out) HO.out hset
        rw [← HM.out] at hv2
        have H42 := Lib.hid hv2
        obtain ⟨gv, rfl, _, hgvl, _, _⟩ := row_at hv2 (by omega)
        have RW1 := Lib.hid (ref_cells e2).2
        have HRL := Lib.hid (lt_of_block e2)
        clear hset hv2 e2 ho2
        go_wp2_with fail
        go_cut [5] (fun s5 wd => s5 = .int .i64 i ∧ RowSet wc R 1 ((valsL L).take i ++ (valsL L).drop (i + 1)) m' wd)
        case first =>
          clear HH HR HNW HI' HO HX HK H1 H3 H4 HM HS RW0 H11 H31
          obtain ⟨f0, g0⟩ := RW1.out wc (Below.refl _ _)
          have hRl : R < wc.heap.size := HRL.out
          have hRne : R ≠ wc.heap.size := Nat.ne_of_lt hRl
          by_cases hcc : cv = i + 1
          · have HM1 : Hid (m = i + 1) := by show _ = _; omega
            have hce : (cv = i + 1) = True := by simp [hcc]
            clear hcc
            go_region_law (first
              | (refine iapp rfl (.tmp 47) (.tmp 53) rfl wc.heap.size _ [] 0 rfl (own_empty (by exact inew0 _ _) (by exact Nat.le_refl _)) _ ((valsL L).take i) i rfl (row_src H42.out im.out _ (by go_grown)) (by omega) (by simp) i (by omega) _ rfl ?_
                 intro x1 y1 v2 O1 N1 k1
                 have M1 := Lib.hid ((show Below wc.heap.size wc _ by go_grown).trans N1)
                 have OH := Lib.hid O1
                 obtain ⟨f0, g0⟩ := RW1.out v2 M1.out
                 clear O1 N1 k1)
              | (refine iapp rfl (.tmp 54) (.tmp 61) rfl wc.heap.size _ ((valsL L).take i) i rfl OH.out _ ((valsL L).drop (i + 1)) (m - (i + 1)) rfl (row_src2 H42.out im1.out (.inr HM1.out) _ M1.out) (by omega) (by exact M1.out.size) m' (by have := HM'.out; omega) _ rfl ?_
                 intro x2 y2 v3 O2 N2 k2
                 have M2 := Lib.hid (M1.out.trans N2)
                 have OG := Lib.hid O2
                 obtain ⟨f0, g0⟩ := RW1.out v3 M2.out
                 clear O2 N2 k2))
            all_goals
              clear OH M1 f0 g0 hce HM1
              go_wp2
              go_meet
            all_goals exact ⟨rfl, x2, y2, v3, M2.out, rfl, OG.out⟩
          · have hce : (cv = i + 1) = False := by simp [hcc]
            clear hcc
            go_region_law (first
              | (refine iapp rfl (.tmp 47) (.tmp 53) rfl wc.heap.size _ [] 0 rfl (own_empty (by exact inew0 _ _) (by exact Nat.le_refl _)) _ ((valsL L).take i) i rfl (row_src H42.out im.out _ (by go_grown)) (by omega) (by simp) i (by omega) _ rfl ?_
                 intro x1 y1 v2 O1 N1 k1
                 have M1 := Lib.hid ((show Below wc.heap.size wc _ by go_grown).trans N1)
                 have OH := Lib.hid O1
                 obtain ⟨f0, g0⟩ := RW1.out v2 M1.out
                 clear O1 N1 k1)
              | (refine iapp rfl (.tmp 54) (.tmp 61) rfl wc.heap.size _ ((valsL L).take i) i rfl OH.out _ ((valsL L).drop (i + 1)) (m - (i + 1)) rfl (row_src2 H42.out im1.out (.inl rfl) _ M1.out) (by omega) (by exact M1.out.size) m' (by have := HM'.out; omega) _ rfl ?_
                 intro x2 y2 v3 O2 N2 k2
                 have M2 := Lib.hid (M1.out.trans N2)
                 have OG := Lib.hid O2
                 obtain ⟨f0, g0⟩ := RW1.out v3 M2.out
                 clear O2 N2 k2))
            all_goals
              clear OH M1 f0 g0 hce
              go_wp2
              go_meet
            all_goals exact ⟨rfl, x2, y2, v3, M2.out, rfl, OG.out⟩
        case rest =>
          obtain ⟨rfl, hset⟩ := hcut
          have HS2 := Lib.hid hset
          clear hset
          go_wp2
          go_returns
          have hil : i < L.length := by rw [← HM.out]; exact hlt
          have hsp := at_yes (key := x) hil (by rw [← HX.out])
          obtain ⟨y, hy⟩ : ∃ y, y = (valsL L).getD i 0 := ⟨_, rfl⟩
          rw [← hy] at hsp
          clear hy
          have hget : getL x L = some y := by
            have h := HR.out
            rw [hsp] at h ⊢
            exact getL_eq h
          have hdel : delL x L = L.take i ++ L.drop (i + 1) := by
            have h := HR.out
            rw [hsp] at h
            have := delL_eq h
            rwa [← hsp] at this
          have g1 := HS.out
          have g2 := HS2.out
          rw [show (keysL L).take i ++ (keysL L).drop (i + 1) = keysL (delL x L) by rw [hdel]; simp [keysL]] at g1
          rw [show (valsL L).take i ++ (valsL L).drop (i + 1) = valsL (delL x L) by rw [hdel]; simp [valsL]] at g2
          exact ⟨by rw [hget]; rfl, rb_two HH.out HNW.out HO.out (by rw [hdel]; have := HM'.out; have := HM.out; simp; omega) g1 g2⟩
    · have hb : (x == key) = false := beq_eq_false_iff_ne.2 hk
      have hb2 : (x != key) = true := bne_iff_ne.2 hk
      have HK := Lib.hid hk
      clear hk
      go_wp2_with fail
      go_returns
      obtain ⟨hno, _⟩ := at_no (v := 0) HR.out HI'.out (fun _ => by rw [← HX.out]; exact HK.out)
      refine ⟨by rw [hno]; rfl, ?_, HO.out.nil⟩
      rw [delL_no hno]
      exact HH.out.only HO.out.nil (S := fun _ => False) fun _ hx => hx.elim
  · have hle : (m : Int) ≤ (i : Int) := by omega
    have HLT := Lib.hid hlt
    clear hlt
    go_wp2_with fail
    go_returns
    obtain ⟨hno, _⟩ := at_no (v := 0) HR.out HI'.out (fun h => absurd h (by rw [← HM.out]; exact HLT.out))
    refine ⟨by rw [hno]; rfl, ?_, HO.out.nil⟩
    rw [delL_no hno]
    exact HH.out.only HO.out.nil (S := fun _ => False) fun _ hx => hx.elim
end Go.Proofs.Ytkieifkbkmdgdaa
