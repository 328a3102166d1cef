/-
  WHAT CAME IN: ints within an int's bounds; steps on a table. No condition.
-/
import Derived.Test.YtiidmiioegdfaaaItemArgs
namespace Go.Proofs.Ytiidmiioegdfaaa
open Go.ChangeShapes Go.WideShapes Go.ChangeAt Go.RowKit

def Wf (x : Int) : Prop := -9223372036854775808 ≤ x ∧ x ≤ 9223372036854775807
theorem wf_of {x : Int} (h : (Lit.int .i64 x).wf = true) : Wf x := by
  simp [Lit.wf, IntKind.min, IntKind.max, IntKind.signed, IntKind.bits] at h
  exact ⟨by omega, by omega⟩

theorem wints_open {H : Type} {enc : TypeId × Value → H} {w : World} {a : Option Addr} {len cap : Nat} {d : DataW H} {p : List MemPlace} (h : DataW.Trod enc Try.prog w 0 (fun _ => true) true 24 (.slice a len cap) d p) :
    ∃ L, Ints w w.heap.size (.slice a len cap) L ∧ ∀ x ∈ L, Wf x := by
  obtain ⟨fuel, hf⟩ := h
  rcases open_ints Try.underlying24 Try.underlying3 (by kernel_rfl) hf with ⟨hcs, _⟩ | ⟨x, l, c, zs, hcs, _, hl, hm, hz, _, hcell, hwz⟩
  · simp [Value.cells] at hcs
    obtain ⟨rfl, rfl, rfl⟩ := hcs
    exact ⟨[], Ints.none _ _, by simp⟩
  · simp [Value.cells] at hcs
    obtain ⟨rfl, rfl, rfl⟩ := hcs
    obtain ⟨L, hlen, hI⟩ := ints_row hl hm (by simpa using hz) hcell
    refine ⟨L, hI, fun y hy => ?_⟩
    obtain ⟨ao, cap', hv, _, _, _, h4⟩ := hI
    obtain ⟨b, off, rfl, _, hc⟩ := h4 (List.ne_nil_of_mem hy)
    cases hv
    obtain ⟨j, hj, rfl⟩ := List.getElem_of_mem hy
    have h1 := hc j hj
    have h2 := hcell j (by rw [show zs.length = _ by simpa using hz]; omega)
    rw [Addr.add_lit, h1] at h2
    have e : L.getD j 0 = zs.getD j 0 := by simpa using h2
    have hjz : j < zs.length := by rw [show zs.length = _ by simpa using hz]; omega
    rw [show L[j] = L.getD j 0 by simp [List.getD, hj], e, show zs.getD j 0 = zs[j] by simp [List.getD, hjz]]
    exact wf_of (hwz _ (List.getElem_mem hjz))

/-- A step on a table as plain data. -/
structure StepV where
  kind : Int
  key : Int
  v : Int
def StepV.fits (o : StepV) : Prop := Wf o.kind ∧ Wf o.key ∧ Wf o.v
def StepCells (w : World) (b off : Nat) (o : StepV) : Prop := w.cell? ⟨b, off, none⟩ = some (.int .i64 o.kind) ∧ w.cell? ⟨b, off + 1, none⟩ = some (.int .i64 o.key) ∧ w.cell? ⟨b, off + 2, none⟩ = some (.int .i64 o.v)
/-- The slice value v holds the steps L, in a block below B. -/
def Steps (w : World) (B : Nat) (v : Value) (L : List StepV) : Prop :=
  ∃ ao cap, v = .slice ao L.length cap ∧ L.length ≤ maxLen ∧ (∀ o ∈ L, o.fits) ∧
    (L ≠ [] → ∃ b off, ao = some ⟨b, off, none⟩ ∧ b < B ∧ ∀ i (h : i < L.length), StepCells w b (off + i * 3) L[i])
theorem StepCells.keep {w w' : World} {B b off : Nat} {o : StepV} (h : StepCells w b off o) (hb : Below B w w') (hB : b < B) : StepCells w' b off o :=
  ⟨(hb.cell (p := ⟨b, off, none⟩) hB).trans h.1, (hb.cell (p := ⟨b, off + 1, none⟩) hB).trans h.2.1, (hb.cell (p := ⟨b, off + 2, none⟩) hB).trans h.2.2⟩

theorem cells_int6 : Try.prog.cellsOf 3 = 1 := by kernel_rfl
instance : Inhabited StepV := ⟨⟨0, 0, 0⟩⟩
end Go.Proofs.Ytiidmiioegdfaaa
