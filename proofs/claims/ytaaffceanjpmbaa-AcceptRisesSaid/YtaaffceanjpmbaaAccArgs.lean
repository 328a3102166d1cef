/-
  WHAT CAME IN: steps on an acceptor, each with a ballot and a chain. No condition.
-/
import Derived.Test.YtaaffceanjpmbaaBookArgs
import Derived.Test.YtaaffceanjpmbaaBallotArgs
namespace Go.Proofs.Ytaaffceanjpmbaa
open Go.ChangeShapes Go.WideShapes Go.ChangeAt Go.RowKit

/-- A step on an acceptor as plain data: its nodes lie where the slice v says. -/
structure AStepV where
  kind : Int
  epoch : Int
  r : Int
  k : Int
  ec : Int
  v : Value
  L : List Int
  veto : Bool
instance : Inhabited AStepV := ⟨⟨0, 0, 0, 0, 0, .slice none 0 0, [], false⟩⟩
def AStepCells (w : World) (b off : Nat) (o : AStepV) : Prop := w.cell? ⟨b, off, none⟩ = some (.int .i64 o.kind) ∧ w.cell? ⟨b, off + 1, none⟩ = some (.int .i64 o.epoch) ∧ w.cell? ⟨b, off + 2, none⟩ = some (.int .i64 o.r) ∧ w.cell? ⟨b, off + 3, none⟩ = some (.int .i64 o.k) ∧
  w.cell? ⟨b, off + 4, none⟩ = some (.int .i64 o.ec) ∧ w.cell? ⟨b, off + 5, none⟩ = some o.v ∧ w.cell? ⟨b, off + 6, none⟩ = some (.bool o.veto)
def AStepV.fits (o : AStepV) : Prop := Wf o.epoch ∧ Wf o.ec
/-- The slice value v holds the steps L, in a block below B. -/
def ASteps (w : World) (B : Nat) (v : Value) (L : List AStepV) : Prop :=
  ∃ ao cap, v = .slice ao L.length cap ∧ L.length ≤ maxLen ∧ (∀ o ∈ L, o.fits ∧ Ints w B o.v o.L) ∧
    (L ≠ [] → ∃ b off, ao = some ⟨b, off, none⟩ ∧ b < B ∧ ∀ i (h : i < L.length), AStepCells w b (off + i * 7) L[i])
theorem AStepCells.keep {w w' : World} {B b off : Nat} {o : AStepV} (h : AStepCells w b off o) (hb : Below B w w') (hB : b < B) : AStepCells w' b off o :=
  ⟨(hb.cell (p := ⟨b, off, none⟩) hB).trans h.1, (hb.cell (p := ⟨b, off + 1, none⟩) hB).trans h.2.1, (hb.cell (p := ⟨b, off + 2, none⟩) hB).trans h.2.2.1, (hb.cell (p := ⟨b, off + 3, none⟩) hB).trans h.2.2.2.1,
    (hb.cell (p := ⟨b, off + 4, none⟩) hB).trans h.2.2.2.2.1, (hb.cell (p := ⟨b, off + 5, none⟩) hB).trans h.2.2.2.2.2.1, (hb.cell (p := ⟨b, off + 6, none⟩) hB).trans h.2.2.2.2.2.2⟩

theorem cells_int13 : Try.prog.cellsOf 3 = 1 := by kernel_rfl
theorem cells_bool13 : Try.prog.cellsOf 4 = 1 := by kernel_rfl
theorem cells_ints13 : Try.prog.cellsOf 22 = 1 := by kernel_rfl
theorem cells_Chain13 : Try.prog.cellsOf 28 = 2 := by kernel_rfl
theorem cells_Ballot13 : Try.prog.cellsOf 30 = 2 := by kernel_rfl
theorem cells_AOp : Try.prog.cellsOf 52 = 7 := by kernel_rfl
set_option maxRecDepth 100000 in
theorem astep_open {H : Type} {enc : TypeId × Value → H} {w : World} {base : Nat} {held : Bool} {n : Nat} {cs : List Value} {x : DataW H × List MemPlace} (hl : cs.length = 7)
    (h : DataW.trod enc Try.prog w base (fun _ => true) held n 52 cs = some x) :
    ∃ o : AStepV, (o.fits ∧ Ints w w.heap.size o.v o.L) ∧ cs = [.int .i64 o.kind, .int .i64 o.epoch, .int .i64 o.r, .int .i64 o.k, .int .i64 o.ec, o.v, .bool o.veto] := by
  obtain ⟨xs, m, _, _, _, hxl, hf⟩ := DataW.trod_struct Try.underlying52 h
  match cs, hl with
  | [c0, c1, c2, c3, c4, c5, c6], _ =>
    match xs, hxl with
    | [y0, y1, y2, y3, y4], _ =>
      have h0 : DataW.trod enc Try.prog w base (fun _ => true) held m 3 [c0] = some y0 := by simpa [cells_int13, cells_bool13, cells_Chain13, cells_Ballot13] using hf 0 _ rfl
      have h1 : DataW.trod enc Try.prog w base (fun _ => true) held m 3 [c1] = some y1 := by simpa [cells_int13, cells_bool13, cells_Chain13, cells_Ballot13] using hf 1 _ rfl
      have h2 : DataW.trod enc Try.prog w base (fun _ => true) held m 30 [c2, c3] = some y2 := by simpa [cells_int13, cells_bool13, cells_Chain13, cells_Ballot13] using hf 2 _ rfl
      have h3 : DataW.trod enc Try.prog w base (fun _ => true) held m 28 [c4, c5] = some y3 := by simpa [cells_int13, cells_bool13, cells_Chain13, cells_Ballot13] using hf 3 _ rfl
      have h4 : DataW.trod enc Try.prog w base (fun _ => true) held m 4 [c6] = some y4 := by simpa [cells_int13, cells_bool13, cells_Chain13, cells_Ballot13] using hf 4 _ rfl
      obtain ⟨a0, e0, _, _⟩ := DataW.trod_int Try.underlying3 h0
      obtain ⟨a1, e1, _, w1⟩ := DataW.trod_int Try.underlying3 h1
      obtain ⟨b4, e4, _⟩ := DataW.trod_bool Try.underlying4 h4
      obtain ⟨xs2, m2, _, _, _, hxl2, hf2⟩ := DataW.trod_struct Try.underlying30 h2
      obtain ⟨xs3, m3, _, _, _, hxl3, hf3⟩ := DataW.trod_struct Try.underlying28 h3
      match xs2, hxl2 with
      | [z0, z1], _ =>
        match xs3, hxl3 with
        | [t0, t1], _ =>
          have g0 : DataW.trod enc Try.prog w base (fun _ => true) held m2 3 [c2] = some z0 := by simpa [cells_int13] using hf2 0 _ rfl
          have g1 : DataW.trod enc Try.prog w base (fun _ => true) held m2 3 [c3] = some z1 := by simpa [cells_int13] using hf2 1 _ rfl
          have q0 : DataW.trod enc Try.prog w base (fun _ => true) held m3 3 [c4] = some t0 := by simpa [cells_int13, cells_ints13] using hf3 0 _ rfl
          have q1 : DataW.trod enc Try.prog w base (fun _ => true) held m3 22 [c5] = some t1 := by simpa [cells_int13, cells_ints13] using hf3 1 _ rfl
          obtain ⟨a2, e2, _, _⟩ := DataW.trod_int Try.underlying3 g0
          obtain ⟨a3, e3, _, _⟩ := DataW.trod_int Try.underlying3 g1
          obtain ⟨a5, e5, _, w5⟩ := DataW.trod_int Try.underlying3 q0
          simp only [List.cons.injEq, and_true] at e0 e1 e2 e3 e4 e5
          subst e0 e1 e2 e3 e4 e5
          rcases open_ints Try.underlying22 Try.underlying3 (by kernel_rfl) q1 with ⟨hcs, _⟩ | ⟨x, l, c, zs, hcs, _, hl, hm, hz, _, hcell, _⟩
          · simp only [List.cons.injEq, and_true] at hcs
            subst hcs
            exact ⟨⟨a0, a1, a2, a3, a5, _, [], b4⟩, ⟨⟨wf_of w1, wf_of w5⟩, Ints.none _ _⟩, rfl⟩
          · simp only [List.cons.injEq, and_true] at hcs
            subst hcs
            obtain ⟨L, _, hI⟩ := ints_row hl hm (by simpa using hz) hcell
            exact ⟨⟨a0, a1, a2, a3, a5, _, L, b4⟩, ⟨⟨wf_of w1, wf_of w5⟩, hI⟩, rfl⟩
set_option maxRecDepth 100000 in
theorem asteps_open {H : Type} {enc : TypeId × Value → H} {w : World} {a : Option Addr} {len cap : Nat} {d : DataW H} {p : List MemPlace} (h : DataW.Trod enc Try.prog w 0 (fun _ => true) true 45 (.slice a len cap) d p) :
    ∃ L, ASteps w w.heap.size (.slice a len cap) L := by
  obtain ⟨fuel, hf⟩ := h
  rcases Go.Deep.open_slice Try.underlying45 hf with ⟨hcs, _⟩ | ⟨x, l, c, m, n, D, P1, hcs, _, hl, hm, hmm, _, hi⟩
  · simp [Value.cells] at hcs
    obtain ⟨rfl, rfl, rfl⟩ := hcs
    exact ⟨[], none, 0, rfl, Nat.zero_le _, by simp, fun h => absurd rfl h⟩
  · simp [Value.cells] at hcs
    obtain ⟨rfl, rfl, rfl⟩ := hcs
    have hml : len ≤ m := by rw [hmm]; split <;> omega
    have each : ∀ i, i < len → ∃ o : AStepV, (o.fits ∧ Ints w w.heap.size o.v o.L) ∧ w.cell? (x.add (i * 7)) = some (.int .i64 o.kind) ∧ w.cell? (x.add (i * 7 + 1)) = some (.int .i64 o.epoch) ∧ w.cell? (x.add (i * 7 + 2)) = some (.int .i64 o.r) ∧ w.cell? (x.add (i * 7 + 3)) = some (.int .i64 o.k) ∧ w.cell? (x.add (i * 7 + 4)) = some (.int .i64 o.ec) ∧ w.cell? (x.add (i * 7 + 5)) = some o.v ∧ w.cell? (x.add (i * 7 + 6)) = some (.bool o.veto) := by
      intro i hil
      obtain ⟨cs', hc, ht⟩ := hi i (by omega)
      rw [cells_AOp] at hc
      obtain ⟨_, hcl, hat⟩ := World.cells?_some hc
      obtain ⟨o, ho, rfl⟩ := astep_open hcl ht
      have g := fun j hj => (Go.Deep.add_add x (i * 7) j) ▸ hat j hj
      exact ⟨o, ho, g 0 (by omega), g 1 (by omega), g 2 (by omega), g 3 (by omega), g 4 (by omega), g 5 (by omega), g 6 (by omega)⟩
    obtain ⟨f, hF⟩ := Go.Deep.choose_lt each
    have hlen : ((List.range len).map f).length = len := by simp
    refine ⟨(List.range len).map f, some x, cap, by rw [hlen], by rw [hlen]; omega, ?_, fun hne => ?_⟩
    · intro o ho
      obtain ⟨i, hi', rfl⟩ := List.mem_map.1 ho
      exact (hF i (List.mem_range.1 hi')).1
    · have hpos : 0 < len := by
        rcases Nat.eq_zero_or_pos len with h | h
        · subst h; exact absurd rfl hne
        · exact h
      obtain ⟨b, off, spot⟩ := x
      have hspot : spot = none := by simpa [Addr.add] using World.cell?_spot (hF 0 hpos).2.1
      subst hspot
      have hc0 := (hF 0 hpos).2.1
      rw [Addr.add_lit] at hc0
      refine ⟨b, off, rfl, World.block_lt_of_cell? _ _ hc0, fun i h => ?_⟩
      rw [hlen] at h
      have hf := (hF i h).2
      simp only [Addr.add_lit, ← Nat.add_assoc] at hf
      have e : ((List.range len).map f)[i] = f i := by simp
      rw [e]
      exact ⟨hf.1, hf.2.1, hf.2.2.1, hf.2.2.2.1, hf.2.2.2.2.1, hf.2.2.2.2.2.1, hf.2.2.2.2.2.2⟩
end Go.Proofs.Ytaaffceanjpmbaa
