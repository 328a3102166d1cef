/-
  WHAT CAME IN: ints within an int's bounds; steps on a table. No condition.
-/
import Derived.Test.YtkieifkbkmdgdaaItemArgs
namespace Go.Proofs.Ytkieifkbkmdgdaa
open Go.ChangeShapes Go.WideShapes Go.ChangeAt Go.RowKit

def Wf (x : Int) : Prop := -9223372036854775808 ≤ x ∧ x ≤ 9223372036854775807
theorem wf_of {x : Int} (h : (Lit.int .i64 x).wf = true) : Wf x := by
  simp [Lit.wf, IntKind.min, IntKind.max, IntKind.signed, IntKind.bits] at h
  exact ⟨by omega, by omega⟩

theorem wints_open {H : Type} {enc : TypeId × Value → H} {w : World} {a : Option Addr} {len cap : Nat} {d : DataW H} {p : List MemPlace} (h : DataW.Trod enc Try.prog w 0 (fun _ => true) true 26 (.slice a len cap) d p) :
    ∃ L, Ints w w.heap.size (.slice a len cap) L ∧ ∀ x ∈ L, Wf x := by
  obtain ⟨fuel, hf⟩ := h
  rcases open_ints Try.underlying26 Try.underlying3 (by kernel_rfl) hf with ⟨hcs, _⟩ | ⟨x, l, c, zs, hcs, _, hl, hm, hz, _, hcell, hwz⟩
  · simp [Value.cells] at hcs
    obtain ⟨rfl, rfl, rfl⟩ := hcs
    exact ⟨[], Ints.none _ _, by simp⟩
  · simp [Value.cells] at hcs
    obtain ⟨rfl, rfl, rfl⟩ := hcs
    obtain ⟨L, hlen, hI⟩ := ints_row hl hm (by simpa using hz) hcell
    refine ⟨L, hI, fun y hy => ?_⟩
    obtain ⟨ao, cap', hv, _, _, _, h4⟩ := hI
    obtain ⟨b, off, rfl, _, hc⟩ := h4 (List.ne_nil_of_mem hy)
    cases hv
    obtain ⟨j, hj, rfl⟩ := List.getElem_of_mem hy
    have h1 := hc j hj
    have h2 := hcell j (by rw [show zs.length = _ by simpa using hz]; omega)
    rw [Addr.add_lit, h1] at h2
    have e : L.getD j 0 = zs.getD j 0 := by simpa using h2
    have hjz : j < zs.length := by rw [show zs.length = _ by simpa using hz]; omega
    rw [show L[j] = L.getD j 0 by simp [List.getD, hj], e, show zs.getD j 0 = zs[j] by simp [List.getD, hjz]]
    exact wf_of (hwz _ (List.getElem_mem hjz))

/-- A step on a table as plain data. -/
structure StepV where
  kind : Int
  key : Int
  v : Int
def StepV.fits (o : StepV) : Prop := Wf o.kind ∧ Wf o.key ∧ Wf o.v
def StepCells (w : World) (b off : Nat) (o : StepV) : Prop := w.cell? ⟨b, off, none⟩ = some (.int .i64 o.kind) ∧ w.cell? ⟨b, off + 1, none⟩ = some (.int .i64 o.key) ∧ w.cell? ⟨b, off + 2, none⟩ = some (.int .i64 o.v)
/-- The slice value v holds the steps L, in a block below B. -/
def Steps (w : World) (B : Nat) (v : Value) (L : List StepV) : Prop :=
  ∃ ao cap, v = .slice ao L.length cap ∧ L.length ≤ maxLen ∧ (∀ o ∈ L, o.fits) ∧
    (L ≠ [] → ∃ b off, ao = some ⟨b, off, none⟩ ∧ b < B ∧ ∀ i (h : i < L.length), StepCells w b (off + i * 3) L[i])
theorem StepCells.keep {w w' : World} {B b off : Nat} {o : StepV} (h : StepCells w b off o) (hb : Below B w w') (hB : b < B) : StepCells w' b off o :=
  ⟨(hb.cell (p := ⟨b, off, none⟩) hB).trans h.1, (hb.cell (p := ⟨b, off + 1, none⟩) hB).trans h.2.1, (hb.cell (p := ⟨b, off + 2, none⟩) hB).trans h.2.2⟩

theorem cells_int6 : Try.prog.cellsOf 3 = 1 := by kernel_rfl
theorem cells_BOp : Try.prog.cellsOf 30 = 3 := by kernel_rfl
theorem step_open {H : Type} {enc : TypeId × Value → H} {w : World} {base : Nat} {spare : Nat → Bool} {held : Bool} {n : Nat} {cs : List Value} {x : DataW H × List MemPlace} (hl : cs.length = 3)
    (h : DataW.trod enc Try.prog w base spare held n 30 cs = some x) :
    ∃ o : StepV, o.fits ∧ cs = [.int .i64 o.kind, .int .i64 o.key, .int .i64 o.v] := by
  obtain ⟨xs, m, _, _, _, hxl, hf⟩ := DataW.trod_struct Try.underlying30 h
  match cs, hl with
  | [c0, c1, c2], _ =>
    match xs, hxl with
    | [y0, y1, y2], _ =>
      have h0 : DataW.trod enc Try.prog w base spare held m 3 [c0] = some y0 := by simpa [cells_int6] using hf 0 _ rfl
      have h1 : DataW.trod enc Try.prog w base spare held m 3 [c1] = some y1 := by simpa [cells_int6] using hf 1 _ rfl
      have h2 : DataW.trod enc Try.prog w base spare held m 3 [c2] = some y2 := by simpa [cells_int6] using hf 2 _ rfl
      obtain ⟨a0, e0, _, w0⟩ := DataW.trod_int Try.underlying3 h0
      obtain ⟨a1, e1, _, w1⟩ := DataW.trod_int Try.underlying3 h1
      obtain ⟨a2, e2, _, w2⟩ := DataW.trod_int Try.underlying3 h2
      simp only [List.cons.injEq, and_true] at e0 e1 e2
      subst e0 e1 e2
      exact ⟨⟨a0, a1, a2⟩, ⟨wf_of w0, wf_of w1, wf_of w2⟩, rfl⟩
instance : Inhabited StepV := ⟨⟨0, 0, 0⟩⟩
theorem steps_open {H : Type} {enc : TypeId × Value → H} {w : World} {a : Option Addr} {len cap : Nat} {d : DataW H} {p : List MemPlace} (h : DataW.Trod enc Try.prog w 0 (fun _ => true) true 22 (.slice a len cap) d p) :
    ∃ L, Steps w w.heap.size (.slice a len cap) L := by
  obtain ⟨fuel, hf⟩ := h
  rcases Go.Deep.open_slice Try.underlying22 hf with ⟨hcs, _⟩ | ⟨x, l, c, m, n, D, Pl, hcs, _, hl, hm, hmm, _, hi⟩
  · simp [Value.cells] at hcs
    obtain ⟨rfl, rfl, rfl⟩ := hcs
    exact ⟨[], none, 0, rfl, Nat.zero_le _, by simp, fun h => absurd rfl h⟩
  · simp [Value.cells] at hcs
    obtain ⟨rfl, rfl, rfl⟩ := hcs
    have hml : len ≤ m := by rw [hmm]; split <;> omega
    have each : ∀ i, i < len → ∃ o : StepV, o.fits ∧ w.cell? (x.add (i * 3)) = some (.int .i64 o.kind) ∧ w.cell? (x.add (i * 3 + 1)) = some (.int .i64 o.key) ∧ w.cell? (x.add (i * 3 + 2)) = some (.int .i64 o.v) := by
      intro i hil
      obtain ⟨cs', hc, ht⟩ := hi i (by omega)
      rw [cells_BOp] at hc
      obtain ⟨_, hcl, hat⟩ := World.cells?_some hc
      obtain ⟨o, ho, rfl⟩ := step_open hcl ht
      have g := fun j hj => (Go.Deep.add_add x (i * 3) j) ▸ hat j hj
      exact ⟨o, ho, g 0 (by omega), g 1 (by omega), g 2 (by omega)⟩
    obtain ⟨f, hF⟩ := Go.Deep.choose_lt each
    have hlen : ((List.range len).map f).length = len := by simp
    refine ⟨(List.range len).map f, some x, cap, by rw [hlen], by rw [hlen]; omega, ?_, fun hne => ?_⟩
    · intro o ho
      obtain ⟨i, hi', rfl⟩ := List.mem_map.1 ho
      exact (hF i (List.mem_range.1 hi')).1
    · have hpos : 0 < len := by
        rcases Nat.eq_zero_or_pos len with h | h
        · subst h; exact absurd rfl hne
        · exact h
      obtain ⟨b, off, spot⟩ := x
      have hspot : spot = none := by simpa [Addr.add] using World.cell?_spot (hF 0 hpos).2.1
      subst hspot
      have hc0 := (hF 0 hpos).2.1
      rw [Addr.add_lit] at hc0
      refine ⟨b, off, rfl, World.block_lt_of_cell? _ _ hc0, fun i h => ?_⟩
      rw [hlen] at h
      have hf := (hF i h).2
      simp only [Addr.add_lit, ← Nat.add_assoc] at hf
      have e : ((List.range len).map f)[i] = f i := by simp
      rw [e]
      exact ⟨hf.1, hf.2.1, hf.2.2⟩
end Go.Proofs.Ytkieifkbkmdgdaa
