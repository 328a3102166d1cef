/-
  WHAT CAME IN: steps that are structs of ints. No condition. Written by gen/XOpArgs.gen.py.
-/
import Derived.Test.YtomjlhmkmihbeaaClockArgs
namespace Go.Proofs.Ytomjlhmkmihbeaa
open Go.ChangeShapes Go.WideShapes Go.ChangeAt Go.RowKit

/-- A number that its kind can hold. -/
def Fit64 (x : Int) : Prop := -9223372036854775808 ≤ x ∧ x ≤ 9223372036854775807
theorem fit64_of {x : Int} (h : (Lit.int .i64 x).wf = true) : Fit64 x := by
  simp [Lit.wf, IntKind.min, IntKind.max, IntKind.signed, IntKind.bits] at h
  exact ⟨by omega, by omega⟩
theorem cells_int17 : Try.prog.cellsOf 3 = 1 := by kernel_rfl

/-- A step as plain data. -/
structure WStepV where
  f0 : Int
  f1 : Int
  f2 : Int
def WStepV.fits (o : WStepV) : Prop := Fit64 o.f0 ∧ Fit64 o.f1 ∧ Fit64 o.f2
def WCells (w : World) (b off : Nat) (o : WStepV) : Prop := w.cell? ⟨b, off, none⟩ = some (.int .i64 o.f0) ∧ w.cell? ⟨b, off + 1, none⟩ = some (.int .i64 o.f1) ∧ w.cell? ⟨b, off + 2, none⟩ = some (.int .i64 o.f2)
/-- The slice value v holds the steps L, in a block below B. -/
def WSteps (w : World) (B : Nat) (v : Value) (L : List WStepV) : Prop :=
  ∃ ao cap, v = .slice ao L.length cap ∧ L.length ≤ maxLen ∧ (∀ o ∈ L, o.fits) ∧
    (L ≠ [] → ∃ b off, ao = some ⟨b, off, none⟩ ∧ b < B ∧ ∀ i (h : i < L.length), WCells w b (off + i * 3) L[i])
theorem WCells.keep {w w' : World} {B b off : Nat} {o : WStepV} (h : WCells w b off o) (hb : Below B w w') (hB : b < B) : WCells w' b off o :=
  ⟨(hb.cell (p := ⟨b, off, none⟩) hB).trans h.1, (hb.cell (p := ⟨b, off + 1, none⟩) hB).trans h.2.1, (hb.cell (p := ⟨b, off + 2, none⟩) hB).trans h.2.2⟩
theorem cells_WOp : Try.prog.cellsOf 53 = 3 := by kernel_rfl
theorem wstep_open {H : Type} {enc : TypeId × Value → H} {w : World} {base : Nat} {spare : Nat → Bool} {held : Bool} {n : Nat} {cs : List Value} {x : DataW H × List MemPlace} (hl : cs.length = 3)
    (h : DataW.trod enc Try.prog w base spare held n 53 cs = some x) :
    ∃ o : WStepV, o.fits ∧ cs = [.int .i64 o.f0, .int .i64 o.f1, .int .i64 o.f2] := by
  obtain ⟨xs, m, _, _, _, hxl, hf⟩ := DataW.trod_struct Try.underlying53 h
  match cs, hl with
  | [c0, c1, c2], _ =>
    match xs, hxl with
    | [y0, y1, y2], _ =>
      have h0 : DataW.trod enc Try.prog w base spare held m 3 [c0] = some y0 := by simpa [cells_int17] using hf 0 _ rfl
      have h1 : DataW.trod enc Try.prog w base spare held m 3 [c1] = some y1 := by simpa [cells_int17] using hf 1 _ rfl
      have h2 : DataW.trod enc Try.prog w base spare held m 3 [c2] = some y2 := by simpa [cells_int17] using hf 2 _ rfl
      obtain ⟨a0, e0, _, w0⟩ := DataW.trod_int Try.underlying3 h0
      obtain ⟨a1, e1, _, w1⟩ := DataW.trod_int Try.underlying3 h1
      obtain ⟨a2, e2, _, w2⟩ := DataW.trod_int Try.underlying3 h2
      simp only [List.cons.injEq, and_true] at e0 e1 e2
      subst e0 e1 e2
      exact ⟨⟨a0, a1, a2⟩, ⟨fit64_of w0, fit64_of w1, fit64_of w2⟩, rfl⟩
instance : Inhabited WStepV := ⟨⟨0, 0, 0⟩⟩
theorem wsteps_open {H : Type} {enc : TypeId × Value → H} {w : World} {a : Option Addr} {len cap : Nat} {d : DataW H} {p : List MemPlace} (h : DataW.Trod enc Try.prog w 0 (fun _ => true) true 46 (.slice a len cap) d p) :
    ∃ L, WSteps w w.heap.size (.slice a len cap) L := by
  obtain ⟨fuel, hf⟩ := h
  rcases Go.Deep.open_slice Try.underlying46 hf with ⟨hcs, _⟩ | ⟨x, l, c, m, n, D, plc, hcs, _, hl, hm, hmm, _, hi⟩
  · simp [Value.cells] at hcs
    obtain ⟨rfl, rfl, rfl⟩ := hcs
    exact ⟨[], none, 0, rfl, Nat.zero_le _, by simp, fun h => absurd rfl h⟩
  · simp [Value.cells] at hcs
    obtain ⟨rfl, rfl, rfl⟩ := hcs
    have hml : len ≤ m := by rw [hmm]; split <;> omega
    have each : ∀ i, i < len → ∃ o : WStepV, o.fits ∧ w.cell? (x.add (i * 3)) = some (.int .i64 o.f0) ∧ w.cell? (x.add (i * 3 + 1)) = some (.int .i64 o.f1) ∧ w.cell? (x.add (i * 3 + 2)) = some (.int .i64 o.f2) := by
      intro i hil
      obtain ⟨cs', hc, ht⟩ := hi i (by omega)
      rw [cells_WOp] at hc
      obtain ⟨_, hcl, hat⟩ := World.cells?_some hc
      obtain ⟨o, ho, rfl⟩ := wstep_open hcl ht
      have g := fun j hj => (Go.Deep.add_add x (i * 3) j) ▸ hat j hj
      exact ⟨o, ho, g 0 (by omega), g 1 (by omega), g 2 (by omega)⟩
    obtain ⟨f, hF⟩ := Go.Deep.choose_lt each
    have hlen : ((List.range len).map f).length = len := by simp
    refine ⟨(List.range len).map f, some x, cap, by rw [hlen], by rw [hlen]; omega, ?_, fun hne => ?_⟩
    · intro o ho
      obtain ⟨i, hi', rfl⟩ := List.mem_map.1 ho
      exact (hF i (List.mem_range.1 hi')).1
    · have hpos : 0 < len := by
        rcases Nat.eq_zero_or_pos len with h | h
        · subst h; exact absurd rfl hne
        · exact h
      obtain ⟨b, off, spot⟩ := x
      have hspot : spot = none := by simpa [Addr.add] using World.cell?_spot (hF 0 hpos).2.1
      subst hspot
      have hc0 := (hF 0 hpos).2.1
      rw [Addr.add_lit] at hc0
      refine ⟨b, off, rfl, World.block_lt_of_cell? _ _ hc0, fun i h => ?_⟩
      rw [hlen] at h
      have hf := (hF i h).2
      simp only [Addr.add_lit, ← Nat.add_assoc] at hf
      have e : ((List.range len).map f)[i] = f i := by simp
      rw [e]
      exact ⟨hf.1, hf.2.1, hf.2.2⟩

/-- A step as plain data. -/
structure HStepV where
  f0 : Int
  f1 : Int
  f2 : Int
  f3 : Int
  f4 : Int
def HStepV.fits (o : HStepV) : Prop := Fit64 o.f0 ∧ Fit64 o.f1 ∧ Fit64 o.f2 ∧ Fit64 o.f3 ∧ Fit64 o.f4
def HCells (w : World) (b off : Nat) (o : HStepV) : Prop := w.cell? ⟨b, off, none⟩ = some (.int .i64 o.f0) ∧ w.cell? ⟨b, off + 1, none⟩ = some (.int .i64 o.f1) ∧ w.cell? ⟨b, off + 2, none⟩ = some (.int .i64 o.f2) ∧ w.cell? ⟨b, off + 3, none⟩ = some (.int .i64 o.f3) ∧ w.cell? ⟨b, off + 4, none⟩ = some (.int .i64 o.f4)
/-- The slice value v holds the steps L, in a block below B. -/
def HSteps (w : World) (B : Nat) (v : Value) (L : List HStepV) : Prop :=
  ∃ ao cap, v = .slice ao L.length cap ∧ L.length ≤ maxLen ∧ (∀ o ∈ L, o.fits) ∧
    (L ≠ [] → ∃ b off, ao = some ⟨b, off, none⟩ ∧ b < B ∧ ∀ i (h : i < L.length), HCells w b (off + i * 5) L[i])
theorem HCells.keep {w w' : World} {B b off : Nat} {o : HStepV} (h : HCells w b off o) (hb : Below B w w') (hB : b < B) : HCells w' b off o :=
  ⟨(hb.cell (p := ⟨b, off, none⟩) hB).trans h.1, (hb.cell (p := ⟨b, off + 1, none⟩) hB).trans h.2.1, (hb.cell (p := ⟨b, off + 2, none⟩) hB).trans h.2.2.1, (hb.cell (p := ⟨b, off + 3, none⟩) hB).trans h.2.2.2.1, (hb.cell (p := ⟨b, off + 4, none⟩) hB).trans h.2.2.2.2⟩
theorem cells_HOp : Try.prog.cellsOf 36 = 5 := by kernel_rfl
theorem hstep_open {H : Type} {enc : TypeId × Value → H} {w : World} {base : Nat} {spare : Nat → Bool} {held : Bool} {n : Nat} {cs : List Value} {x : DataW H × List MemPlace} (hl : cs.length = 5)
    (h : DataW.trod enc Try.prog w base spare held n 36 cs = some x) :
    ∃ o : HStepV, o.fits ∧ cs = [.int .i64 o.f0, .int .i64 o.f1, .int .i64 o.f2, .int .i64 o.f3, .int .i64 o.f4] := by
  obtain ⟨xs, m, _, _, _, hxl, hf⟩ := DataW.trod_struct Try.underlying36 h
  match cs, hl with
  | [c0, c1, c2, c3, c4], _ =>
    match xs, hxl with
    | [y0, y1, y2, y3, y4], _ =>
      have h0 : DataW.trod enc Try.prog w base spare held m 3 [c0] = some y0 := by simpa [cells_int17] using hf 0 _ rfl
      have h1 : DataW.trod enc Try.prog w base spare held m 3 [c1] = some y1 := by simpa [cells_int17] using hf 1 _ rfl
      have h2 : DataW.trod enc Try.prog w base spare held m 3 [c2] = some y2 := by simpa [cells_int17] using hf 2 _ rfl
      have h3 : DataW.trod enc Try.prog w base spare held m 3 [c3] = some y3 := by simpa [cells_int17] using hf 3 _ rfl
      have h4 : DataW.trod enc Try.prog w base spare held m 3 [c4] = some y4 := by simpa [cells_int17] using hf 4 _ rfl
      obtain ⟨a0, e0, _, w0⟩ := DataW.trod_int Try.underlying3 h0
      obtain ⟨a1, e1, _, w1⟩ := DataW.trod_int Try.underlying3 h1
      obtain ⟨a2, e2, _, w2⟩ := DataW.trod_int Try.underlying3 h2
      obtain ⟨a3, e3, _, w3⟩ := DataW.trod_int Try.underlying3 h3
      obtain ⟨a4, e4, _, w4⟩ := DataW.trod_int Try.underlying3 h4
      simp only [List.cons.injEq, and_true] at e0 e1 e2 e3 e4
      subst e0 e1 e2 e3 e4
      exact ⟨⟨a0, a1, a2, a3, a4⟩, ⟨fit64_of w0, fit64_of w1, fit64_of w2, fit64_of w3, fit64_of w4⟩, rfl⟩
instance : Inhabited HStepV := ⟨⟨0, 0, 0, 0, 0⟩⟩
theorem hsteps_open {H : Type} {enc : TypeId × Value → H} {w : World} {a : Option Addr} {len cap : Nat} {d : DataW H} {p : List MemPlace} (h : DataW.Trod enc Try.prog w 0 (fun _ => true) true 30 (.slice a len cap) d p) :
    ∃ L, HSteps w w.heap.size (.slice a len cap) L := by
  obtain ⟨fuel, hf⟩ := h
  rcases Go.Deep.open_slice Try.underlying30 hf with ⟨hcs, _⟩ | ⟨x, l, c, m, n, D, plc, hcs, _, hl, hm, hmm, _, hi⟩
  · simp [Value.cells] at hcs
    obtain ⟨rfl, rfl, rfl⟩ := hcs
    exact ⟨[], none, 0, rfl, Nat.zero_le _, by simp, fun h => absurd rfl h⟩
  · simp [Value.cells] at hcs
    obtain ⟨rfl, rfl, rfl⟩ := hcs
    have hml : len ≤ m := by rw [hmm]; split <;> omega
    have each : ∀ i, i < len → ∃ o : HStepV, o.fits ∧ w.cell? (x.add (i * 5)) = some (.int .i64 o.f0) ∧ w.cell? (x.add (i * 5 + 1)) = some (.int .i64 o.f1) ∧ w.cell? (x.add (i * 5 + 2)) = some (.int .i64 o.f2) ∧ w.cell? (x.add (i * 5 + 3)) = some (.int .i64 o.f3) ∧ w.cell? (x.add (i * 5 + 4)) = some (.int .i64 o.f4) := by
      intro i hil
      obtain ⟨cs', hc, ht⟩ := hi i (by omega)
      rw [cells_HOp] at hc
      obtain ⟨_, hcl, hat⟩ := World.cells?_some hc
      obtain ⟨o, ho, rfl⟩ := hstep_open hcl ht
      have g := fun j hj => (Go.Deep.add_add x (i * 5) j) ▸ hat j hj
      exact ⟨o, ho, g 0 (by omega), g 1 (by omega), g 2 (by omega), g 3 (by omega), g 4 (by omega)⟩
    obtain ⟨f, hF⟩ := Go.Deep.choose_lt each
    have hlen : ((List.range len).map f).length = len := by simp
    refine ⟨(List.range len).map f, some x, cap, by rw [hlen], by rw [hlen]; omega, ?_, fun hne => ?_⟩
    · intro o ho
      obtain ⟨i, hi', rfl⟩ := List.mem_map.1 ho
      exact (hF i (List.mem_range.1 hi')).1
    · have hpos : 0 < len := by
        rcases Nat.eq_zero_or_pos len with h | h
        · subst h; exact absurd rfl hne
        · exact h
      obtain ⟨b, off, spot⟩ := x
      have hspot : spot = none := by simpa [Addr.add] using World.cell?_spot (hF 0 hpos).2.1
      subst hspot
      have hc0 := (hF 0 hpos).2.1
      rw [Addr.add_lit] at hc0
      refine ⟨b, off, rfl, World.block_lt_of_cell? _ _ hc0, fun i h => ?_⟩
      rw [hlen] at h
      have hf := (hF i h).2
      simp only [Addr.add_lit, ← Nat.add_assoc] at hf
      have e : ((List.range len).map f)[i] = f i := by simp
      rw [e]
      exact ⟨hf.1, hf.2.1, hf.2.2.1, hf.2.2.2.1, hf.2.2.2.2⟩
end Go.Proofs.Ytomjlhmkmihbeaa
