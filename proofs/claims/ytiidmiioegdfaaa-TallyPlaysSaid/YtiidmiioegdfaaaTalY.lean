/-
  THE PROGRAM's COUNT BESIDE THE REFERENCE's; steps that came in. For counts as they may be.
-/
import Derived.Test.YtiidmiioegdfaaaTalS
import Derived.Test.YtiidmiioegdfaaaTalC
import Derived.Test.YtiidmiioegdfaaaBookArgs
import Derived.Test.YtiidmiioegdfaaaBallotArgs
namespace Go.Proofs.Ytiidmiioegdfaaa
open Go.ChangeShapes Go.WideShapes Go.ChangeAt Go.RowKit

/-- A step on a count as plain data: its chain's nodes lie where the slice c says. -/
structure YStepV where
  kind : Int
  node : Int
  v : VoteV
  c : Value
instance : Inhabited YStepV := ⟨⟨0, 0, VoteV.zero, .slice none 0 0⟩⟩
def YStepCells (w : World) (b off : Nat) (o : YStepV) : Prop := w.cell? ⟨b, off, none⟩ = some (.int .i64 o.kind) ∧ w.cell? ⟨b, off + 1, none⟩ = some (.int .i64 o.node) ∧ w.cell? ⟨b, off + 2, none⟩ = some (.int .i64 o.v.pr) ∧ w.cell? ⟨b, off + 3, none⟩ = some (.int .i64 o.v.pn) ∧
  w.cell? ⟨b, off + 4, none⟩ = some (.int .i64 o.v.ar) ∧ w.cell? ⟨b, off + 5, none⟩ = some (.int .i64 o.v.an) ∧ w.cell? ⟨b, off + 6, none⟩ = some (.bool o.v.has) ∧ w.cell? ⟨b, off + 7, none⟩ = some (.int .i64 o.v.ce) ∧ w.cell? ⟨b, off + 8, none⟩ = some o.c
def YSteps (w : World) (B : Nat) (v : Value) (L : List YStepV) : Prop :=
  ∃ ao cap, v = .slice ao L.length cap ∧ L.length ≤ maxLen ∧ (∀ o ∈ L, Wf o.v.ce ∧ Ints w B o.c o.v.C) ∧
    (L ≠ [] → ∃ b off, ao = some ⟨b, off, none⟩ ∧ b < B ∧ ∀ i (h : i < L.length), YStepCells w b (off + i * 9) L[i])
theorem YStepCells.keep {w w' : World} {B b off : Nat} {o : YStepV} (h : YStepCells w b off o) (hb : Below B w w') (hB : b < B) : YStepCells w' b off o :=
  ⟨(hb.cell (p := ⟨b, off, none⟩) hB).trans h.1, (hb.cell (p := ⟨b, off + 1, none⟩) hB).trans h.2.1, (hb.cell (p := ⟨b, off + 2, none⟩) hB).trans h.2.2.1, (hb.cell (p := ⟨b, off + 3, none⟩) hB).trans h.2.2.2.1,
    (hb.cell (p := ⟨b, off + 4, none⟩) hB).trans h.2.2.2.2.1, (hb.cell (p := ⟨b, off + 5, none⟩) hB).trans h.2.2.2.2.2.1, (hb.cell (p := ⟨b, off + 6, none⟩) hB).trans h.2.2.2.2.2.2.1, (hb.cell (p := ⟨b, off + 7, none⟩) hB).trans h.2.2.2.2.2.2.2.1, (hb.cell (p := ⟨b, off + 8, none⟩) hB).trans h.2.2.2.2.2.2.2.2⟩
theorem ycells_int : Try.prog.cellsOf 3 = 1 := by kernel_rfl
theorem ycells_bool : Try.prog.cellsOf 4 = 1 := by kernel_rfl
theorem ycells_ints : Try.prog.cellsOf 24 = 1 := by kernel_rfl
theorem ycells_Chain : Try.prog.cellsOf 26 = 2 := by kernel_rfl
theorem ycells_Ballot : Try.prog.cellsOf 23 = 2 := by kernel_rfl
theorem ycells_Vote : Try.prog.cellsOf 40 = 7 := by kernel_rfl
theorem ycells_Op : Try.prog.cellsOf 42 = 9 := by kernel_rfl
set_option maxRecDepth 100000 in
theorem bal_open {H : Type} {enc : TypeId × Value → H} {w : World} {base : Nat} {held : Bool} {n : Nat} {c0 c1 : Value} {x : DataW H × List MemPlace} (h : DataW.trod enc Try.prog w base (fun _ => true) held n 23 [c0, c1] = some x) : ∃ r k, c0 = .int .i64 r ∧ c1 = .int .i64 k := by
  obtain ⟨xs, m, _, _, _, hxl, hf⟩ := DataW.trod_struct Try.underlying23 h
  match xs, hxl with
  | [z0, z1], _ =>
    have g0 : DataW.trod enc Try.prog w base (fun _ => true) held m 3 [c0] = some z0 := by simpa [ycells_int] using hf 0 _ rfl
    have g1 : DataW.trod enc Try.prog w base (fun _ => true) held m 3 [c1] = some z1 := by simpa [ycells_int] using hf 1 _ rfl
    obtain ⟨a2, e2, _, _⟩ := DataW.trod_int Try.underlying3 g0
    obtain ⟨a3, e3, _, _⟩ := DataW.trod_int Try.underlying3 g1
    simp only [List.cons.injEq, and_true] at e2 e3
    exact ⟨a2, a3, e2, e3⟩
set_option maxRecDepth 100000 in
theorem ystep_open {H : Type} {enc : TypeId × Value → H} {w : World} {base : Nat} {held : Bool} {n : Nat} {cs : List Value} {x : DataW H × List MemPlace} (hl : cs.length = 9)
    (h : DataW.trod enc Try.prog w base (fun _ => true) held n 42 cs = some x) :
    ∃ o : YStepV, (Wf o.v.ce ∧ Ints w w.heap.size o.c o.v.C) ∧ cs = [.int .i64 o.kind, .int .i64 o.node, .int .i64 o.v.pr, .int .i64 o.v.pn, .int .i64 o.v.ar, .int .i64 o.v.an, .bool o.v.has, .int .i64 o.v.ce, o.c] := by
  obtain ⟨xs, m, _, _, _, hxl, hf⟩ := DataW.trod_struct Try.underlying42 h
  match cs, hl with
  | [c0, c1, c2, c3, c4, c5, c6, c7, c8], _ =>
    match xs, hxl with
    | [y0, y1, y2], _ =>
      have h0 : DataW.trod enc Try.prog w base (fun _ => true) held m 3 [c0] = some y0 := by simpa [ycells_int, ycells_Vote] using hf 0 _ rfl
      have h1 : DataW.trod enc Try.prog w base (fun _ => true) held m 3 [c1] = some y1 := by simpa [ycells_int, ycells_Vote] using hf 1 _ rfl
      have h2 : DataW.trod enc Try.prog w base (fun _ => true) held m 40 [c2, c3, c4, c5, c6, c7, c8] = some y2 := by simpa [ycells_int, ycells_Vote] using hf 2 _ rfl
      obtain ⟨a0, e0, _, _⟩ := DataW.trod_int Try.underlying3 h0
      obtain ⟨a1, e1, _, _⟩ := DataW.trod_int Try.underlying3 h1
      obtain ⟨xs2, m2, _, _, _, hxl2, hf2⟩ := DataW.trod_struct Try.underlying40 h2
      match xs2, hxl2 with
      | [z0, z1, z2, z3], _ =>
        have g0 : DataW.trod enc Try.prog w base (fun _ => true) held m2 23 [c2, c3] = some z0 := by simpa [ycells_int, ycells_bool, ycells_Ballot, ycells_Chain] using hf2 0 _ rfl
        have g1 : DataW.trod enc Try.prog w base (fun _ => true) held m2 23 [c4, c5] = some z1 := by simpa [ycells_int, ycells_bool, ycells_Ballot, ycells_Chain] using hf2 1 _ rfl
        have g2 : DataW.trod enc Try.prog w base (fun _ => true) held m2 4 [c6] = some z2 := by simpa [ycells_int, ycells_bool, ycells_Ballot, ycells_Chain] using hf2 2 _ rfl
        have g3 : DataW.trod enc Try.prog w base (fun _ => true) held m2 26 [c7, c8] = some z3 := by simpa [ycells_int, ycells_bool, ycells_Ballot, ycells_Chain] using hf2 3 _ rfl
        obtain ⟨pr, pn, rfl, rfl⟩ := bal_open g0
        obtain ⟨ar, an, rfl, rfl⟩ := bal_open g1
        obtain ⟨b6, e6, _⟩ := DataW.trod_bool Try.underlying4 g2
        obtain ⟨xs3, m3, _, _, _, hxl3, hf3⟩ := DataW.trod_struct Try.underlying26 g3
        match xs3, hxl3 with
        | [t0, t1], _ =>
          have q0 : DataW.trod enc Try.prog w base (fun _ => true) held m3 3 [c7] = some t0 := by simpa [ycells_int, ycells_ints] using hf3 0 _ rfl
          have q1 : DataW.trod enc Try.prog w base (fun _ => true) held m3 24 [c8] = some t1 := by simpa [ycells_int, ycells_ints] using hf3 1 _ rfl
          obtain ⟨a5, e5, _, w5⟩ := DataW.trod_int Try.underlying3 q0
          simp only [List.cons.injEq, and_true] at e0 e1 e5 e6
          subst e0 e1 e5 e6
          rcases open_ints Try.underlying24 Try.underlying3 (by kernel_rfl) q1 with ⟨hcs, _⟩ | ⟨x, l, c, zs, hcs, _, hl, hm, hz, _, hcell, _⟩
          · simp only [List.cons.injEq, and_true] at hcs
            subst hcs
            exact ⟨⟨a0, a1, ⟨pr, pn, ar, an, b6, a5, []⟩, _⟩, ⟨wf_of w5, Ints.none _ _⟩, rfl⟩
          · simp only [List.cons.injEq, and_true] at hcs
            subst hcs
            obtain ⟨L, _, hI⟩ := ints_row hl hm (by simpa using hz) hcell
            exact ⟨⟨a0, a1, ⟨pr, pn, ar, an, b6, a5, L⟩, _⟩, ⟨wf_of w5, hI⟩, rfl⟩
set_option maxRecDepth 100000 in
theorem ysteps_open {H : Type} {enc : TypeId × Value → H} {w : World} {a : Option Addr} {len cap : Nat} {d : DataW H} {p : List MemPlace} (h : DataW.Trod enc Try.prog w 0 (fun _ => true) true 27 (.slice a len cap) d p) :
    ∃ L, YSteps w w.heap.size (.slice a len cap) L := by
  obtain ⟨fuel, hf⟩ := h
  rcases Go.Deep.open_slice Try.underlying27 hf with ⟨hcs, _⟩ | ⟨x, l, c, m, n, D, P1, hcs, _, hl, hm, hmm, _, hi⟩
  · simp [Value.cells] at hcs
    obtain ⟨rfl, rfl, rfl⟩ := hcs
    exact ⟨[], none, 0, rfl, Nat.zero_le _, by simp, fun h => absurd rfl h⟩
  · simp [Value.cells] at hcs
    obtain ⟨rfl, rfl, rfl⟩ := hcs
    have hml : len ≤ m := by rw [hmm]; split <;> omega
    have each : ∀ i, i < len → ∃ o : YStepV, (Wf o.v.ce ∧ Ints w w.heap.size o.c o.v.C) ∧ w.cell? (x.add (i * 9)) = some (.int .i64 o.kind) ∧ w.cell? (x.add (i * 9 + 1)) = some (.int .i64 o.node) ∧ w.cell? (x.add (i * 9 + 2)) = some (.int .i64 o.v.pr) ∧ w.cell? (x.add (i * 9 + 3)) = some (.int .i64 o.v.pn) ∧ w.cell? (x.add (i * 9 + 4)) = some (.int .i64 o.v.ar) ∧ w.cell? (x.add (i * 9 + 5)) = some (.int .i64 o.v.an) ∧ w.cell? (x.add (i * 9 + 6)) = some (.bool o.v.has) ∧ w.cell? (x.add (i * 9 + 7)) = some (.int .i64 o.v.ce) ∧ w.cell? (x.add (i * 9 + 8)) = some o.c := by
      intro i hil
      obtain ⟨cs', hc, ht⟩ := hi i (by omega)
      rw [ycells_Op] at hc
      obtain ⟨_, hcl, hat⟩ := World.cells?_some hc
      obtain ⟨o, ho, rfl⟩ := ystep_open hcl ht
      have g := fun j hj => (Go.Deep.add_add x (i * 9) j) ▸ hat j hj
      exact ⟨o, ho, g 0 (by omega), g 1 (by omega), g 2 (by omega), g 3 (by omega), g 4 (by omega), g 5 (by omega), g 6 (by omega), g 7 (by omega), g 8 (by omega)⟩
    obtain ⟨f, hF⟩ := Go.Deep.choose_lt each
    have hlen : ((List.range len).map f).length = len := by simp
    refine ⟨(List.range len).map f, some x, cap, by rw [hlen], by rw [hlen]; omega, ?_, fun hne => ?_⟩
    · intro o ho
      obtain ⟨i, hi', rfl⟩ := List.mem_map.1 ho
      exact (hF i (List.mem_range.1 hi')).1
    · have hpos : 0 < len := by
        rcases Nat.eq_zero_or_pos len with h | h
        · subst h; exact absurd rfl hne
        · exact h
      obtain ⟨b, off, spot⟩ := x
      have hspot : spot = none := by simpa [Addr.add] using World.cell?_spot (hF 0 hpos).2.1
      subst hspot
      have hc0 := (hF 0 hpos).2.1
      rw [Addr.add_lit] at hc0
      refine ⟨b, off, rfl, World.block_lt_of_cell? _ _ hc0, fun i h => ?_⟩
      rw [hlen] at h
      have hf := (hF i h).2
      simp only [Addr.add_lit, ← Nat.add_assoc] at hf
      have e : ((List.range len).map f)[i] = f i := by simp
      rw [e]
      exact hf

set_option maxRecDepth 100000 in
theorem chain_openW {H : Type} {enc : TypeId × Value → H} {w : World} {r : Reach} {b0 base : Nat} {held : Bool} {v : Value} {d : DataW H} {p : List MemPlace}
    (hv : Value.okWide Try.prog w r b0 26 v) (h : DataW.Trod enc Try.prog w base (fun _ => true) held 26 v d p) :
    ∃ (ep : Int) (ao : Option Addr) (len cap : Nat) (L : List Int), v = .agg #[.int .i64 ep, .slice ao len cap] ∧ (Wf ep ∧ Ints w w.heap.size (.slice ao len cap) L) := by
  obtain ⟨cs, rfl, hsz⟩ := okWide_struct Try.underlying26 hv
  rw [ycells_Chain] at hsz
  obtain ⟨l⟩ := cs
  match l, hsz with
  | [x0, x1], _ =>
    obtain ⟨fuel, hf⟩ := h
    obtain ⟨xs, m, _, _, _, hxl, hg⟩ := DataW.trod_struct Try.underlying26 hf
    match xs, hxl with
    | [y0, y1], _ =>
      have h0 : DataW.trod enc Try.prog w base (fun _ => true) held m 3 [x0] = some y0 := by simpa [Value.cells, ycells_int] using hg 0 _ rfl
      have h1 : DataW.trod enc Try.prog w base (fun _ => true) held m 24 [x1] = some y1 := by simpa [Value.cells, ycells_ints] using hg 1 _ rfl
      obtain ⟨a0, e0, _, wf0⟩ := DataW.trod_int Try.underlying3 h0
      simp only [List.cons.injEq, and_true] at e0
      subst e0
      rcases open_ints Try.underlying24 Try.underlying3 (by kernel_rfl) h1 with ⟨hcs, _⟩ | ⟨x, l, c, zs, hcs, _, hl, hm, hz, _, hcell, _⟩
      · simp at hcs
        subst hcs
        exact ⟨a0, none, 0, 0, [], rfl, wf_of wf0, Ints.none _ _⟩
      · simp at hcs
        subst hcs
        obtain ⟨L, _, hI⟩ := ints_row hl hm (by simpa using hz) hcell
        exact ⟨a0, some x, l, c, L, rfl, wf_of wf0, hI⟩

/-- The program's count and the reference's: the same. -/
structure RelT (s : TalV) (d : RefV) : Prop where
  n : s.n = d.n
  b : s.r = d.r ∧ s.k = d.k
  p : s.P = d.F
  y : s.Y = d.S
  ce : s.ce = d.ce
  best : (bestI d.V d.V.length < 0 ∧ s.has = false ∧ s.C = d.C) ∨ (∃ bn : Nat, bestI d.V d.V.length = (bn : Int) ∧ s.has = true ∧ s.ar = (wat d.V bn).v.ar ∧ s.an = (wat d.V bn).v.an ∧ s.ce = (wat d.V bn).v.ce ∧ s.C = (wat d.V bn).v.C)
theorem wat_app (l : List VoteW) (y : VoteW) {i : Nat} (h : i < l.length) : wat (l ++ [y]) i = wat l i := by unfold wat; simp [List.getElem?_append_left h, h]
theorem wat_last (l : List VoteW) (y : VoteW) : wat (l ++ [y]) l.length = y := by unfold wat; simp
theorem best_app (l : List VoteW) (y : VoteW) : ∀ i, i ≤ l.length → bestI (l ++ [y]) i = bestI l i
  | 0, _ => rfl
  | i + 1, h => by
    have hb := best_lt l i
    unfold bestI
    rw [best_app l y i (by omega), wat_app l y (by omega)]
    by_cases h0 : bestI l i < 0
    · simp [h0]
    · rw [wat_app l y (i := (bestI l i).toNat) (by omega)]
theorem relt_pro {s : TalV} {d : RefV} (h : RelT s d) (x : Int) (v : VoteV) (c : Value) : ryP d x v = proB s x v ∧ RelT (proS s x v) (proD d x ⟨v, c⟩ (proB s x v)) := by
  have e : ryP d x v = proB s x v := by
    unfold ryP proB TalV.seat TalV.fits TalV.fresh
    rw [h.n, h.b.1, h.b.2, h.p, h.ce]
    cases decide (0 ≤ x ∧ x < d.n) <;> cases decide (x ∈ d.F) <;> simp
  refine ⟨e, ?_⟩
  cases hb : proB s x v with
  | false =>
    have e1 : proS s x v = s := by rw [proS, if_neg (by rw [hb]; decide)]
    rw [e1]
    exact h
  | true =>
    have hlast : bestI (d.V ++ [⟨v, c⟩]) (d.V ++ [⟨v, c⟩] : List VoteW).length = if v.has = true ∧ (bestI d.V d.V.length < 0 ∨ 0 < cmpV v.ar v.an (wat (d.V ++ [⟨v, c⟩]) (bestI d.V d.V.length).toNat).v.ar (wat (d.V ++ [⟨v, c⟩]) (bestI d.V d.V.length).toNat).v.an) then (d.V.length : Int) else bestI d.V d.V.length := by
      rw [List.length_append]
      show bestI (d.V ++ [⟨v, c⟩]) (d.V.length + 1) = _
      rw [bestI, best_app _ _ _ (Nat.le_refl _), wat_last]
    have hfit : s.fits v = true := by unfold proB at hb; simp only [Bool.and_eq_true] at hb; exact hb.1.2
    have hfit' := of_decide_eq_true hfit
    have hbl := best_lt d.V d.V.length
    have hbet : s.better v = true ↔ v.has = true ∧ (bestI d.V d.V.length < 0 ∨ 0 < cmpV v.ar v.an (wat (d.V ++ [⟨v, c⟩]) (bestI d.V d.V.length).toNat).v.ar (wat (d.V ++ [⟨v, c⟩]) (bestI d.V d.V.length).toNat).v.an) := by
      unfold TalV.better
      simp only [Bool.and_eq_true, Bool.or_eq_true, Bool.not_eq_true', decide_eq_true_eq]
      rcases h.best with ⟨b1, b2, b3⟩ | ⟨bn, b1, b2, b3, b4, b5, b6⟩
      · rw [b2]
        simp [b1]
      · rw [b2, b1]
        have hbn : bn < d.V.length := by omega
        rw [show ((bn : Int)).toNat = bn from rfl, wat_app d.V _ hbn, b3, b4]
        have : ¬ ((bn : Int) < 0) := by omega
        simp [this]
    unfold proS
    rw [if_pos hb]
    by_cases hc : s.better v = true
    · rw [if_pos hc]
      have hv := hbet.1 hc
      have hce := (hfit'.2 hv.1).2.2
      refine ⟨h.n, h.b, by show s.P ++ [x] = d.F ++ [x]; rw [h.p], h.y, by show v.ce = d.ce; rw [hce, h.ce], .inr ⟨d.V.length, ?_, rfl, ?_⟩⟩
      · show bestI (d.V ++ [⟨v, c⟩]) (d.V ++ [⟨v, c⟩] : List VoteW).length = _
        rw [hlast, if_pos hv]
      · show v.ar = (wat (d.V ++ [⟨v, c⟩]) d.V.length).v.ar ∧ _
        rw [show (proD d x ⟨v, c⟩ true).V = d.V ++ [⟨v, c⟩] from rfl, wat_last]
        exact ⟨rfl, rfl, rfl, rfl⟩
    · rw [if_neg hc]
      have hv : ¬ _ := fun hh => hc (hbet.2 hh)
      refine ⟨h.n, h.b, by show s.P ++ [x] = d.F ++ [x]; rw [h.p], h.y, h.ce, ?_⟩
      show (bestI (d.V ++ [⟨v, c⟩]) (d.V ++ [⟨v, c⟩] : List VoteW).length < 0 ∧ s.has = false ∧ s.C = d.C) ∨ (∃ bn : Nat, bestI (d.V ++ [⟨v, c⟩]) (d.V ++ [⟨v, c⟩] : List VoteW).length = (bn : Int) ∧ s.has = true ∧ s.ar = (wat (d.V ++ [⟨v, c⟩]) bn).v.ar ∧ s.an = (wat (d.V ++ [⟨v, c⟩]) bn).v.an ∧ s.ce = (wat (d.V ++ [⟨v, c⟩]) bn).v.ce ∧ s.C = (wat (d.V ++ [⟨v, c⟩]) bn).v.C)
      rw [hlast, if_neg hv]
      rcases h.best with hb1 | ⟨bn, b1, b2⟩
      · exact .inl hb1
      · refine .inr ⟨bn, b1, ?_⟩
        rw [wat_app d.V _ (by omega)]
        exact b2
theorem relt_yes {s : TalV} {d : RefV} (h : RelT s d) (x : Int) : ryB d x = yesB s x ∧ RelT (yesS s x) (yesD d x (yesB s x)) := by
  have e : ryB d x = yesB s x := by
    unfold ryB yesB rdyB TalV.seat
    rw [h.n, h.p, h.y]
  refine ⟨e, ?_⟩
  cases hb : yesB s x with
  | false =>
    have e1 : yesS s x = s := by rw [yesS, if_neg (by rw [hb]; decide)]
    rw [e1]
    exact h
  | true =>
    unfold yesS
    rw [if_pos hb]
    exact ⟨h.n, h.b, h.p, by show s.Y ++ [x] = d.S ++ [x]; rw [h.y], h.ce, h.best⟩

theorem own_blk : ∀ (v : Value), v.ownBlock = blkOf v ∨ v.ownBlock = Option.none := fun v => by
  cases v <;> first | exact .inr rfl | skip
  rename_i a _ _
  cases a
  · exact .inr rfl
  · exact .inl rfl
/-- A count beside the reference's, in memory. -/
structure PM (n : Nat) (w0 : World) (p X : Nat) (s : TalV) (d : RefV) (u : World) : Prop where
  m : ∃ pm ym cv vv fv sv, TalR u p pm ym cv s ∧ n ≤ p ∧ n ≤ pm ∧ n ≤ ym ∧ RTal n w0 X vv fv sv d u ∧ ∀ b, blkOf cv = some b → fv.ownBlock ≠ some b ∧ sv.ownBlock ≠ some b
  ok : s.ok
section
variable {n p X : Nat} {w0 u u' : World} {s : TalV} {d : RefV}
theorem PM.size (h : PM n w0 p X s d u) : n ≤ u.heap.size := by
  obtain ⟨pm, ym, cv, vv, fv, sv, a, b, c, e, f, g⟩ := h.m
  exact f.size
theorem PM.bel (h : PM n w0 p X s d u) : Below n w0 u := by
  obtain ⟨pm, ym, cv, vv, fv, sv, a, b, c, e, f, g⟩ := h.m
  exact f.bel
theorem PM.on (h : PM n w0 p X s d u) (hb : Below u.heap.size u u') : PM n w0 p X s d u' := by
  obtain ⟨pm, ym, cv, vv, fv, sv, a, b, c, e, f, g⟩ := h.m
  exact ⟨⟨pm, ym, cv, vv, fv, sv, a.on hb, b, c, e, f.on hb, g⟩, h.ok⟩
theorem PM.len (h : PM n w0 p X s d u) (hr : RelT s d) : d.F.length ≤ 5 ∧ d.S.length ≤ 5 := by
  have := h.ok.few
  rw [hr.p, hr.y] at this
  exact this
/-- A box of another kind stands. -/
structure KPM (w w' : World) : Prop where
  size : w.heap.size ≤ w'.heap.size
  same : ∀ (b : Nat) (cs : Array Value) (T : TypeId), w.heap[b]? = some (.cells cs T (0, 0)) → T ≠ 68 → T ≠ 38 → T ≠ 3 → T ≠ 40 → w'.heap[b]? = some (.cells cs T (0, 0))
theorem KPM.of {w w' : World} (h : Below w.heap.size w w') : KPM w w' := ⟨h.size, fun b _ _ hb _ _ _ _ => (h.block b (lt_of_block hb)).trans hb⟩
theorem KPM.tal {w w' : World} (h : KTal w w') : KPM w w' := ⟨h.size, fun b cs T hb h1 _ _ _ => h.same b cs T hb h1⟩
theorem pm_tpro (h : PM n w0 p X s d u) (x : Int) (v : VoteV) (vv : Value) (hIn : Ints w0 n vv v.C) (he0 : -9223372036854775808 ≤ v.ce) (he1 : v.ce ≤ 9223372036854775807) (hlim : v.C.length ≤ 1000000) :
    Calls Try.prog 14 #[.pointer (some ⟨p, 0, none⟩), .int .i64 x, .agg #[.int .i64 v.pr, .int .i64 v.pn, .int .i64 v.ar, .int .i64 v.an, .bool v.has, .int .i64 v.ce, vv]] u fun e w' => e = .returned (.bool (proB s x v)) ∧ Hid (PM n w0 p X (proS s x v) d w' ∧ KPM u w') := by
  obtain ⟨pm, ym, cv, ww, fv, sv, a, b, c, e, f, g⟩ := h.m
  exact (typro_r a h.ok x v vv n (hIn.keep f.bel) f.size he0 he1 hlim rfl rfl).mono fun _ _ ⟨he, hh⟩ => by
    obtain ⟨⟨cv', a', hc⟩, ho⟩ := hh.out
    have hk := KTal.only a ho
    refine ⟨he, ⟨⟨pm, ym, cv', ww, fv, sv, a', b, c, e, f.kT hk (ho.below f.bel (fun y hy => by rcases hy with rfl | rfl | rfl <;> assumption) f.size), fun q hq => ?_⟩, TalV.ok_pro h.ok x v⟩, .tal hk⟩
    rcases hc with rfl | hc
    · exact g q hq
    · have := hc q hq
      exact ⟨fun e1 => by have := (f.f.lt q e1).2; omega, fun e1 => by have := (f.s.lt q e1).2; omega⟩
theorem pm_tyes (h : PM n w0 p X s d u) (x : Int) :
    Calls Try.prog 16 #[.pointer (some ⟨p, 0, none⟩), .int .i64 x] u fun e w' => e = .returned (.bool (yesB s x)) ∧ Hid (PM n w0 p X (yesS s x) d w' ∧ KPM u w') := by
  obtain ⟨pm, ym, cv, ww, fv, sv, a, b, c, e, f, g⟩ := h.m
  exact (tyyes_r a h.ok x rfl rfl).mono fun _ _ ⟨he, hh⟩ => by
    obtain ⟨a', ho⟩ := hh.out
    have hk := KTal.only a ho
    exact ⟨he, ⟨⟨pm, ym, cv, ww, fv, sv, a', b, c, e, f.kT hk (ho.below f.bel (fun y hy => by rcases hy with rfl | rfl | rfl <;> assumption) f.size), g⟩, TalV.ok_yes h.ok x⟩, .tal hk⟩
/-- A count stands while the reference's blocks are turned. -/
theorem TalR.kR {pm ym : Nat} {cv vv fv sv : Value} (a : TalR u p pm ym cv s) (f : RTal n w0 X vv fv sv d u) (g : ∀ b, blkOf cv = some b → fv.ownBlock ≠ some b ∧ sv.ownBlock ≠ some b) {S : Nat → Prop} (hS : ∀ b, S b → b = X ∨ fv.ownBlock = some b ∨ vv.ownBlock = some b ∨ sv.ownBlock = some b) (ho : Only S u u') : TalR u' p pm ym cv s := by
  have kind : ∀ b, S b → ∃ cs T, u.heap[b]? = some (.cells cs T (0, 0)) ∧ T ≠ 68 ∧ (T = 3 → fv.ownBlock = some b ∨ sv.ownBlock = some b) := fun b hb => by
    rcases hS b hb with rfl | h | h | h
    · exact ⟨_, _, f.b, by decide, fun e => absurd e (by decide)⟩
    · obtain ⟨cs, hc⟩ := row_kindT f.f h
      exact ⟨cs, _, hc, by decide, fun _ => .inl h⟩
    · obtain ⟨cs, hc⟩ := row_kindT f.v h
      exact ⟨cs, _, hc, by decide, fun e => absurd e (by decide)⟩
    · obtain ⟨cs, hc⟩ := row_kindT f.s h
      exact ⟨cs, _, hc, by decide, fun _ => .inr h⟩
  refine ⟨a.b.of (ho.block p a.b.lt fun hb => ?_), a.p.keep ho (fun hb => ?_), a.y.keep ho (fun hb => ?_), ?_, a.ne⟩
  · obtain ⟨cs, T, h1, h2, _⟩ := kind p hb
    rw [show u.heap[p]? = _ from a.b] at h1
    simp only [Option.some.injEq, Obj.cells.injEq] at h1
    exact h2 h1.2.1.symm
  · obtain ⟨cs, T, h1, h2, _⟩ := kind pm hb
    obtain ⟨es, clock, hm⟩ := a.p.isMap
    rw [hm] at h1
    cases h1
  · obtain ⟨cs, T, h1, h2, _⟩ := kind ym hb
    obtain ⟨es, clock, hm⟩ := a.y.isMap
    rw [hm] at h1
    cases h1
  · obtain ⟨ao, cap, rfl, h1, h2, h3, h4⟩ := a.c
    refine ⟨ao, cap, rfl, h1, h2, h3, fun hl => ?_⟩
    obtain ⟨b, off, cs, rfl, hb, hc⟩ := h4 hl
    have hn : ¬ S b := fun hs => by
      obtain ⟨cs', T, e1, _, e3⟩ := kind b hs
      rw [hb] at e1
      simp only [Option.some.injEq, Obj.cells.injEq] at e1
      have := g b rfl
      rcases e3 e1.2.1.symm with e | e
      · exact this.1 e
      · exact this.2 e
    have e := ho.block b (lt_of_block hb) hn
    exact ⟨b, off, cs, rfl, e.trans hb, fun j hj => (World.cell?_of_block (a := ⟨b, off + j, Option.none⟩) e).trans (hc j hj)⟩
theorem blk_lt {v : Value} {L : List Int} (h : RowI u v L) (hl : L ≠ []) {b : Nat} (hb : blkOf v = some b) : b < u.heap.size := by
  obtain ⟨ao, cap, rfl, h1, h2, h3, h4⟩ := h
  obtain ⟨c, off, cs, rfl, hc, _⟩ := h4 hl
  simp [blkOf] at hb
  subst hb
  exact lt_of_block hc
theorem KPM.ref {vv fv sv : Value} (f : RTal n w0 X vv fv sv d u) {S : Nat → Prop} (hS : ∀ b, S b → b = X ∨ fv.ownBlock = some b ∨ vv.ownBlock = some b ∨ sv.ownBlock = some b) (ho : Only S u u') : KPM u u' := ⟨ho.size, fun b cs T hb h1 h2 h3 h4 => (ho.block b (lt_of_block hb) fun hs => by
  rcases hS b hs with rfl | h | h | h
  · rw [show u.heap[b]? = _ from f.b] at hb
    simp only [Option.some.injEq, Obj.cells.injEq] at hb
    exact h2 hb.2.1.symm
  · exact two_kinds h3 ⟨cs, hb⟩ (row_kindT f.f h)
  · exact two_kinds h4 ⟨cs, hb⟩ (row_kindT f.v h)
  · exact two_kinds h3 ⟨cs, hb⟩ (row_kindT f.s h)).trans hb⟩
theorem pm_rpro (h : PM n w0 p X s d u) (hc : s.C ≠ []) (hF : d.F.length ≤ 1000) (hV : d.V.length ≤ 1000) (x : Int) (v : VoteV) (vv : Value) (hIn : Ints w0 n vv v.C) (hlim : v.C.length ≤ 1000000) {R : Bool} (hR : ryP d x v = R) :
    Calls Try.prog 15 #[.pointer (some ⟨X, 0, none⟩), .int .i64 x, .agg #[.int .i64 v.pr, .int .i64 v.pn, .int .i64 v.ar, .int .i64 v.an, .bool v.has, .int .i64 v.ce, vv]] u fun e w' => e = .returned (.bool R) ∧ Hid (PM n w0 p X s (proD d x ⟨v, vv⟩ R) w' ∧ KPM u w') := by
  obtain ⟨pm, ym, cv, ww, fv, sv, a, b, c, e, f, g⟩ := h.m
  exact (rypro_r f hF hV x v vv hIn hlim hR).mono fun _ _ ⟨he, hh⟩ => by
    obtain ⟨ww', fv', f', hfr, ho⟩ := hh.out
    have hS : ∀ b, (b = X ∨ SS fv ww b) → b = X ∨ fv.ownBlock = some b ∨ ww.ownBlock = some b ∨ sv.ownBlock = some b := fun b hb => by
      rcases hb with hb | hb | hb
      · exact .inl hb
      · exact .inr (.inl hb)
      · exact .inr (.inr (.inl hb))
    refine ⟨he, ⟨⟨pm, ym, cv, ww', fv', sv, a.kR f g hS ho, b, c, e, f', fun q hq => ⟨fun e1 => ?_, (g q hq).2⟩⟩, h.ok⟩, KPM.ref f hS ho⟩
    rcases hfr q e1 with h1 | h1
    · exact (g q hq).1 h1
    · have := blk_lt a.c hc hq
      omega
theorem pm_ryes (h : PM n w0 p X s d u) (hc : s.C ≠ []) (hF : d.F.length ≤ 1000) (hS' : d.S.length ≤ 1000) (h1 : 1 ≤ d.n) (h5 : d.n ≤ 5) (x : Int) {R : Bool} (hR : ryB d x = R) :
    Calls Try.prog 17 #[.pointer (some ⟨X, 0, none⟩), .int .i64 x] u fun e w' => e = .returned (.bool R) ∧ Hid (PM n w0 p X s (yesD d x R) w' ∧ KPM u w') := by
  obtain ⟨pm, ym, cv, ww, fv, sv, a, b, c, e, f, g⟩ := h.m
  exact (ryyes_r f h1 h5 hF hS' x hR).mono fun _ _ ⟨he, hh⟩ => by
    obtain ⟨sv', f', hfr, ho⟩ := hh.out
    have hS : ∀ b, (b = X ∨ sv.ownBlock = some b) → b = X ∨ fv.ownBlock = some b ∨ ww.ownBlock = some b ∨ sv.ownBlock = some b := fun b hb => by
      rcases hb with hb | hb
      · exact .inl hb
      · exact .inr (.inr (.inr hb))
    refine ⟨he, ⟨⟨pm, ym, cv, ww, fv, sv', a.kR f g hS ho, b, c, e, f', fun q hq => ⟨(g q hq).1, fun e1 => ?_⟩⟩, h.ok⟩, KPM.ref f hS ho⟩
    rcases hfr q e1 with h1 | h1
    · exact (g q hq).2 h1
    · have := blk_lt a.c hc hq
      omega
theorem pm_rdy (h : PM n w0 p X s d u) {R : Bool} (hR : rdyB s = R) : Calls Try.prog 18 #[.pointer (some ⟨p, 0, none⟩)] u fun e w' => e = .returned (.bool R) ∧ Below u.heap.size u w' := by
  obtain ⟨pm, ym, cv, ww, fv, sv, a, b, c, e, f, g⟩ := h.m
  exact tyready_r a h.ok hR
theorem pm_don (h : PM n w0 p X s d u) {R : Bool} (hR : donB s = R) : Calls Try.prog 19 #[.pointer (some ⟨p, 0, none⟩)] u fun e w' => e = .returned (.bool R) ∧ Below u.heap.size u w' := by
  obtain ⟨pm, ym, cv, ww, fv, sv, a, b, c, e, f, g⟩ := h.m
  exact tydone_r a h.ok hR
theorem pm_tchain (h : PM n w0 p X s d u) : Calls Try.prog 21 #[.pointer (some ⟨p, 0, none⟩)] u fun e w' => ∃ a c, e = .returned (.agg #[.int .i64 s.ce, .slice a s.C.length c]) ∧ Hid (RowI w' (.slice a s.C.length c) s.C ∧ Below u.heap.size u w') := by
  obtain ⟨pm, ym, cv, ww, fv, sv, a, b, c, e, f, g⟩ := h.m
  exact tychain_r a (by have := h.ok.c; omega)
theorem ref_best (hr : RelT s d) (hcI : Ints w0 n d.cv d.C) (hvI : ∀ x ∈ d.V, Ints w0 n x.c x.v.C) : bestE d = s.ce ∧ Ints w0 n (bestC d) s.C := by
  have hbl := best_lt d.V d.V.length
  rcases hr.best with ⟨b1, b2, b3⟩ | ⟨bn, b1, b2, b3, b4, b5, b6⟩
  · refine ⟨by rw [bestE, if_pos b1, hr.ce], ?_⟩
    rw [bestC, if_pos b1, b3]
    exact hcI
  · have hn : ¬ bestI d.V d.V.length < 0 := by omega
    have hlt : bn < d.V.length := by omega
    refine ⟨by rw [bestE, if_neg hn, b1, b5]; rfl, ?_⟩
    rw [bestC, if_neg hn, b1, b6]
    refine hvI _ ?_
    show wat d.V bn ∈ d.V
    unfold wat
    simp [hlt]
theorem pm_rchain (h : PM n w0 p X s d u) (hr : RelT s d) (hV : d.V.length ≤ 1000) : Calls Try.prog 22 #[.pointer (some ⟨X, 0, none⟩)] u fun e w' => ∃ a c, e = .returned (.agg #[.int .i64 s.ce, .slice a s.C.length c]) ∧ Hid (Ints w0 n (.slice a s.C.length c) s.C ∧ Below u.heap.size u w') := by
  obtain ⟨pm, ym, cv, ww, fv, sv, a, b, c, e, f, g⟩ := h.m
  obtain ⟨h1, h2⟩ := ref_best hr f.cI f.vI
  obtain ⟨ao, cap, he, hrest⟩ := h2
  have h2' : Ints w0 n (.slice ao s.C.length cap) s.C := ⟨ao, cap, rfl, hrest⟩
  have hD : ∃ a l c, d.cv = .slice a l c := by obtain ⟨x, y, hh, _⟩ := f.cI; exact ⟨x, _, y, hh⟩
  exact (rychain_r f hV h1 he hD).mono fun _ _ ⟨he, hb⟩ => ⟨ao, cap, he, h2', hb⟩
theorem pm_cells (h : PM n w0 p X s d u) : ∃ a c a2 c2, u.cell? ⟨X, 6, none⟩ = some (.slice a d.F.length c) ∧ u.cell? ⟨X, 7, none⟩ = some (.slice a2 d.S.length c2) := by
  obtain ⟨pm, ym, cv, ww, fv, sv, a, b, c, e, f, g⟩ := h.m
  obtain ⟨fa, fc, hfe⟩ := own_shape f.f
  obtain ⟨sa, sc, hse⟩ := own_shape f.s
  subst hfe hse
  exact ⟨fa, fc, sa, sc, f.b.cells.2.2.2.2.2.2.1, f.b.cells.2.2.2.2.2.2.2⟩
end
end Go.Proofs.Ytiidmiioegdfaaa
