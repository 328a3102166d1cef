/-
  A SLICE OF THINGS (casebooklaw1.Op) THAT CAME IN, AS A LIST. No condition.
-/
import Derived.Test.YthnkipbbeiadjaaPackArgs
import Derived.Deep.Slices
import Derived.Deep.Fields
namespace Go.Proofs.Ythnkipbbeiadjaa
open Go.ChangeShapes Go.WideShapes Go.ChangeAt Go.RowKit

structure OpV where
  kind : Int
  num : Nat
  str : ByteArray
  yes : Bool
  more : Int
instance : Inhabited OpV := ⟨⟨0, 0, ByteArray.empty, false, 0⟩⟩

def OpV.fits (o : OpV) : Prop := o.num < 18446744073709551616 ∧ o.str.size ≤ maxLen ∧ -9223372036854775808 ≤ o.more ∧ o.more ≤ 9223372036854775807

/-- The five cells of one thing. -/
structure OpCells (w : World) (b off : Nat) (o : OpV) : Prop where
  kind : w.cell? ⟨b, off, none⟩ = some (.int .i64 o.kind)
  num : w.cell? ⟨b, off + 1, none⟩ = some (.int .u64 o.num)
  str : w.cell? ⟨b, off + 2, none⟩ = some (.string o.str)
  yes : w.cell? ⟨b, off + 3, none⟩ = some (.bool o.yes)
  more : w.cell? ⟨b, off + 4, none⟩ = some (.int .i64 o.more)

/-- The slice value v holds the things L, in a block below B. -/
def Ops (w : World) (B : Nat) (v : Value) (L : List OpV) : Prop :=
  ∃ ao cap, v = .slice ao L.length cap ∧ L.length ≤ maxLen ∧ (∀ o ∈ L, o.fits) ∧
    (L ≠ [] → ∃ b off, ao = some ⟨b, off, none⟩ ∧ b < B ∧ ∀ i (h : i < L.length), OpCells w b (off + i * 5) L[i])

theorem OpCells.keep {w w' : World} {B b off : Nat} {o : OpV} (h : OpCells w b off o) (hb : Below B w w') (hB : b < B) : OpCells w' b off o :=
  ⟨(hb.cell (p := ⟨b, off, none⟩) hB).trans h.kind, (hb.cell (p := ⟨b, off + 1, none⟩) hB).trans h.num, (hb.cell (p := ⟨b, off + 2, none⟩) hB).trans h.str,
   (hb.cell (p := ⟨b, off + 3, none⟩) hB).trans h.yes, (hb.cell (p := ⟨b, off + 4, none⟩) hB).trans h.more⟩

theorem cells_int : Try.prog.cellsOf 3 = 1 := by kernel_rfl
theorem cells_u64 : Try.prog.cellsOf 27 = 1 := by kernel_rfl
theorem cells_string : Try.prog.cellsOf 9 = 1 := by kernel_rfl
theorem cells_bool : Try.prog.cellsOf 4 = 1 := by kernel_rfl
theorem cells_Op : Try.prog.cellsOf 29 = 5 := by kernel_rfl

theorem op_open {H : Type} {enc : TypeId × Value → H} {w : World} {base : Nat} {spare : Nat → Bool} {held : Bool} {n : Nat} {cs : List Value} {x : DataW H × List MemPlace} (hl : cs.length = 5)
    (h : DataW.trod enc Try.prog w base spare held n 29 cs = some x) :
    ∃ o : OpV, o.fits ∧ cs = [.int .i64 o.kind, .int .u64 o.num, .string o.str, .bool o.yes, .int .i64 o.more] := by
  obtain ⟨xs, m, _, _, _, hxl, hf⟩ := DataW.trod_struct Try.underlying29 h
  match cs, hl with
  | [c0, c1, c2, c3, c4], _ =>
    match xs, hxl with
    | [y0, y1, y2, y3, y4], _ =>
      have h0 : DataW.trod enc Try.prog w base spare held m 3 [c0] = some y0 := by simpa [cells_int] using hf 0 _ rfl
      have h1 : DataW.trod enc Try.prog w base spare held m 27 [c1] = some y1 := by simpa [cells_u64] using hf 1 _ rfl
      have h2 : DataW.trod enc Try.prog w base spare held m 9 [c2] = some y2 := by simpa [cells_string] using hf 2 _ rfl
      have h3 : DataW.trod enc Try.prog w base spare held m 4 [c3] = some y3 := by simpa [cells_bool] using hf 3 _ rfl
      have h4 : DataW.trod enc Try.prog w base spare held m 3 [c4] = some y4 := by simpa [cells_int] using hf 4 _ rfl
      obtain ⟨a0, e0, _, _⟩ := DataW.trod_int Try.underlying3 h0
      obtain ⟨a1, e1, _, w1⟩ := DataW.trod_int Try.underlying27 h1
      obtain ⟨a2, e2, _, w2⟩ := DataW.trod_string Try.underlying9 h2
      obtain ⟨a3, e3, _⟩ := DataW.trod_bool Try.underlying4 h3
      obtain ⟨a4, e4, _, w4⟩ := DataW.trod_int Try.underlying3 h4
      simp only [List.cons.injEq, and_true] at e0 e1 e2 e3 e4
      subst e0 e1 e2 e3 e4
      obtain ⟨k1, rfl, hk1⟩ : ∃ v : Nat, a1 = (v : Int) ∧ v < 18446744073709551616 := by
        simp [Lit.wf, IntKind.min, IntKind.max, IntKind.signed, IntKind.bits] at w1
        exact ⟨a1.toNat, by omega, by omega⟩
      have hb : -9223372036854775808 ≤ a4 ∧ a4 ≤ 9223372036854775807 := by
        simp [Lit.wf, IntKind.min, IntKind.max, IntKind.signed, IntKind.bits] at w4
        omega
      exact ⟨⟨a0, k1, a2, a3, a4⟩, ⟨hk1, w2, hb.1, hb.2⟩, rfl⟩

theorem ops_open {H : Type} {enc : TypeId × Value → H} {w : World} {a : Option Addr} {len cap : Nat} {d : DataW H} {p : List MemPlace} (h : DataW.Trod enc Try.prog w 0 (fun _ => true) true 22 (.slice a len cap) d p) :
    ∃ L, Ops w w.heap.size (.slice a len cap) L := by
  obtain ⟨fuel, hf⟩ := h
  rcases Go.Deep.open_slice Try.underlying22 hf with ⟨hcs, _⟩ | ⟨x, l, c, m, n, D, Pl, hcs, _, hl, hm, hmm, _, hi⟩
  · simp [Value.cells] at hcs
    obtain ⟨rfl, rfl, rfl⟩ := hcs
    exact ⟨[], none, 0, rfl, Nat.zero_le _, by simp, fun h => absurd rfl h⟩
  · simp [Value.cells] at hcs
    obtain ⟨rfl, rfl, rfl⟩ := hcs
    have hml : len ≤ m := by rw [hmm]; split <;> omega
    have each : ∀ i, i < len → ∃ o : OpV, o.fits ∧ w.cell? (x.add (i * 5)) = some (.int .i64 o.kind) ∧ w.cell? (x.add (i * 5 + 1)) = some (.int .u64 o.num) ∧ w.cell? (x.add (i * 5 + 2)) = some (.string o.str) ∧
        w.cell? (x.add (i * 5 + 3)) = some (.bool o.yes) ∧ w.cell? (x.add (i * 5 + 4)) = some (.int .i64 o.more) := by
      intro i hil
      obtain ⟨cs', hc, ht⟩ := hi i (by omega)
      rw [cells_Op] at hc
      obtain ⟨_, hcl, hat⟩ := World.cells?_some hc
      obtain ⟨o, ho, rfl⟩ := op_open hcl ht
      have g := fun j hj => (Go.Deep.add_add x (i * 5) j) ▸ hat j hj
      exact ⟨o, ho, g 0 (by omega), g 1 (by omega), g 2 (by omega), g 3 (by omega), g 4 (by omega)⟩
    obtain ⟨f, hF⟩ := Go.Deep.choose_lt each
    have hlen : ((List.range len).map f).length = len := by simp
    refine ⟨(List.range len).map f, some x, cap, by rw [hlen], by rw [hlen]; omega, ?_, fun hne => ?_⟩
    · intro o ho
      obtain ⟨i, hi', rfl⟩ := List.mem_map.1 ho
      exact (hF i (List.mem_range.1 hi')).1
    · have hpos : 0 < len := by
        rcases Nat.eq_zero_or_pos len with h | h
        · subst h; exact absurd rfl hne
        · exact h
      obtain ⟨b, off, spot⟩ := x
      have hspot : spot = none := by simpa [Addr.add] using World.cell?_spot (hF 0 hpos).2.1
      subst hspot
      have hc0 := (hF 0 hpos).2.1
      rw [Addr.add_lit] at hc0
      refine ⟨b, off, rfl, World.block_lt_of_cell? _ _ hc0, fun i h => ?_⟩
      rw [hlen] at h
      have hf := (hF i h).2
      simp only [Addr.add_lit, ← Nat.add_assoc] at hf
      have e : ((List.range len).map f)[i] = f i := by simp
      rw [e]
      exact ⟨hf.1, hf.2.1, hf.2.2.1, hf.2.2.2.1, hf.2.2.2.2⟩
end Go.Proofs.Ythnkipbbeiadjaa
