/-
  WHAT CAME IN: steps on a disk, each with bytes. No condition.
-/
import Derived.Test.YtgbfpabmkjkgnaaPackArgs
import Derived.Deep.Slices
import Derived.Deep.Fields
namespace Go.Proofs.Ytgbfpabmkjkgnaa
open Go.ChangeShapes Go.WideShapes Go.ChangeAt Go.RowKit

/-- A step on a disk as plain data: its bytes lie where the slice bv says. -/
structure DStepV where
  kind : Int
  num : Int
  bv : Value
  bl : List UInt8
instance : Inhabited DStepV := ⟨⟨0, 0, .slice none 0 0, []⟩⟩
def DStepCells (w : World) (b off : Nat) (o : DStepV) : Prop := w.cell? ⟨b, off, none⟩ = some (.int .i64 o.kind) ∧ w.cell? ⟨b, off + 1, none⟩ = some (.int .i64 o.num) ∧ w.cell? ⟨b, off + 2, none⟩ = some o.bv
/-- The slice value v holds the steps L, in a block below B. -/
def DSteps (w : World) (B : Nat) (v : Value) (L : List DStepV) : Prop :=
  ∃ ao cap, v = .slice ao L.length cap ∧ L.length ≤ maxLen ∧ (∀ o ∈ L, Byt w B o.bv o.bl) ∧
    (L ≠ [] → ∃ b off, ao = some ⟨b, off, none⟩ ∧ b < B ∧ ∀ i (h : i < L.length), DStepCells w b (off + i * 3) L[i])
theorem DStepCells.keep {w w' : World} {B b off : Nat} {o : DStepV} (h : DStepCells w b off o) (hb : Below B w w') (hB : b < B) : DStepCells w' b off o :=
  ⟨(hb.cell (p := ⟨b, off, none⟩) hB).trans h.1, (hb.cell (p := ⟨b, off + 1, none⟩) hB).trans h.2.1, (hb.cell (p := ⟨b, off + 2, none⟩) hB).trans h.2.2⟩

theorem cells_int7 : Try.prog.cellsOf 3 = 1 := by kernel_rfl
theorem cells_bytes7 : Try.prog.cellsOf 28 = 1 := by kernel_rfl
theorem cells_DOp : Try.prog.cellsOf 30 = 3 := by kernel_rfl
theorem dstep_open {H : Type} {enc : TypeId × Value → H} {w : World} {base : Nat} {held : Bool} {n : Nat} {cs : List Value} {x : DataW H × List MemPlace} (hl : cs.length = 3)
    (h : DataW.trod enc Try.prog w base (fun _ => true) held n 30 cs = some x) :
    ∃ o : DStepV, Byt w w.heap.size o.bv o.bl ∧ cs = [.int .i64 o.kind, .int .i64 o.num, o.bv] := by
  obtain ⟨xs, m, _, _, _, hxl, hf⟩ := DataW.trod_struct Try.underlying30 h
  match cs, hl with
  | [c0, c1, c2], _ =>
    match xs, hxl with
    | [y0, y1, y2], _ =>
      have h0 : DataW.trod enc Try.prog w base (fun _ => true) held m 3 [c0] = some y0 := by simpa [cells_int7] using hf 0 _ rfl
      have h1 : DataW.trod enc Try.prog w base (fun _ => true) held m 3 [c1] = some y1 := by simpa [cells_int7] using hf 1 _ rfl
      have h2 : DataW.trod enc Try.prog w base (fun _ => true) held m 28 [c2] = some y2 := by simpa [cells_bytes7] using hf 2 _ rfl
      obtain ⟨a0, e0, _, _⟩ := DataW.trod_int Try.underlying3 h0
      obtain ⟨a1, e1, _, _⟩ := DataW.trod_int Try.underlying3 h1
      simp only [List.cons.injEq, and_true] at e0 e1
      subst e0 e1
      rcases open_ints Try.underlying28 Try.underlying5 (by kernel_rfl) h2 with ⟨hcs, _⟩ | ⟨x, l, c, zs, hcs, _, hl, hm, hz, _, hcell, hwz⟩
      · simp only [List.cons.injEq, and_true] at hcs
        subst hcs
        exact ⟨⟨a0, a1, _, []⟩, Byt.none _ _, rfl⟩
      · simp only [List.cons.injEq, and_true] at hcs
        subst hcs
        obtain ⟨l, _, hb⟩ := byt_row hl hm (by simpa using hz) hcell hwz
        exact ⟨⟨a0, a1, _, l⟩, hb, rfl⟩
theorem dsteps_open {H : Type} {enc : TypeId × Value → H} {w : World} {a : Option Addr} {len cap : Nat} {d : DataW H} {p : List MemPlace} (h : DataW.Trod enc Try.prog w 0 (fun _ => true) true 22 (.slice a len cap) d p) :
    ∃ L, DSteps w w.heap.size (.slice a len cap) L := by
  obtain ⟨fuel, hf⟩ := h
  rcases Go.Deep.open_slice Try.underlying22 hf with ⟨hcs, _⟩ | ⟨x, l, c, m, n, D, P1, hcs, _, hl, hm, hmm, _, hi⟩
  · simp [Value.cells] at hcs
    obtain ⟨rfl, rfl, rfl⟩ := hcs
    exact ⟨[], none, 0, rfl, Nat.zero_le _, by simp, fun h => absurd rfl h⟩
  · simp [Value.cells] at hcs
    obtain ⟨rfl, rfl, rfl⟩ := hcs
    have hml : len ≤ m := by rw [hmm]; split <;> omega
    have each : ∀ i, i < len → ∃ o : DStepV, Byt w w.heap.size o.bv o.bl ∧ w.cell? (x.add (i * 3)) = some (.int .i64 o.kind) ∧ w.cell? (x.add (i * 3 + 1)) = some (.int .i64 o.num) ∧ w.cell? (x.add (i * 3 + 2)) = some o.bv := by
      intro i hil
      obtain ⟨cs', hc, ht⟩ := hi i (by omega)
      rw [cells_DOp] at hc
      obtain ⟨_, hcl, hat⟩ := World.cells?_some hc
      obtain ⟨o, ho, rfl⟩ := dstep_open hcl ht
      have g := fun j hj => (Go.Deep.add_add x (i * 3) j) ▸ hat j hj
      exact ⟨o, ho, g 0 (by omega), g 1 (by omega), g 2 (by omega)⟩
    obtain ⟨f, hF⟩ := Go.Deep.choose_lt each
    have hlen : ((List.range len).map f).length = len := by simp
    refine ⟨(List.range len).map f, some x, cap, by rw [hlen], by rw [hlen]; omega, ?_, fun hne => ?_⟩
    · intro o ho
      obtain ⟨i, hi', rfl⟩ := List.mem_map.1 ho
      exact (hF i (List.mem_range.1 hi')).1
    · have hpos : 0 < len := by
        rcases Nat.eq_zero_or_pos len with h | h
        · subst h; exact absurd rfl hne
        · exact h
      obtain ⟨b, off, spot⟩ := x
      have hspot : spot = none := by simpa [Addr.add] using World.cell?_spot (hF 0 hpos).2.1
      subst hspot
      have hc0 := (hF 0 hpos).2.1
      rw [Addr.add_lit] at hc0
      refine ⟨b, off, rfl, World.block_lt_of_cell? _ _ hc0, fun i h => ?_⟩
      rw [hlen] at h
      have hf := (hF i h).2
      simp only [Addr.add_lit, ← Nat.add_assoc] at hf
      have e : ((List.range len).map f)[i] = f i := by simp
      rw [e]
      exact ⟨hf.1, hf.2.1, hf.2.2⟩
end Go.Proofs.Ytgbfpabmkjkgnaa
