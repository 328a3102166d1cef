/-
  WHAT CAME IN: ints, bools, steps on a bag with bytes. No condition.
-/
import Derived.Test.YtkflkkdfklbfpaaPackArgs
import Derived.Test.YtkflkkdfklbfpaaBagO
import Derived.Deep.Slices
import Derived.Deep.Fields
import Derived.Deep.Grids
namespace Go.Proofs.Ytkflkkdfklbfpaa
open Go.ChangeShapes Go.WideShapes Go.ChangeAt Go.RowKit

theorem gints_open {H : Type} {enc : TypeId × Value → H} {w : World} {a : Option Addr} {len cap : Nat} {d : DataW H} {p : List MemPlace} (h : DataW.Trod enc Try.prog w 0 (fun _ => true) true 22 (.slice a len cap) d p) :
    ∃ L, Ints w w.heap.size (.slice a len cap) L := by
  obtain ⟨fuel, hf⟩ := h
  rcases open_ints Try.underlying22 Try.underlying3 (by kernel_rfl) hf with ⟨hcs, _⟩ | ⟨x, l, c, zs, hcs, _, hl, hm, hz, _, hcell, _⟩
  · simp [Value.cells] at hcs
    obtain ⟨rfl, rfl, rfl⟩ := hcs
    exact ⟨[], Ints.none _ _⟩
  · simp [Value.cells] at hcs
    obtain ⟨rfl, rfl, rfl⟩ := hcs
    have hz' : zs.length = cap := by simpa using hz
    have hlen : (zs.take len).length = len := by rw [List.length_take]; omega
    refine ⟨zs.take len, some x, cap, by rw [hlen], by omega, hm, fun e => by simp at e, fun hne => ?_⟩
    have hpos : 0 < len := by
      rcases Nat.eq_zero_or_pos len with h | h
      · subst h; exact absurd (by simp) hne
      · exact h
    obtain ⟨b, off, spot⟩ := x
    have h0 := hcell 0 (by omega)
    have hspot : spot = none := by simpa [Addr.add] using World.cell?_spot h0
    subst hspot
    rw [Addr.add_lit] at h0
    refine ⟨b, off, rfl, World.block_lt_of_cell? _ _ h0, fun j hj => ?_⟩
    rw [hlen] at hj
    have h1 := hcell j (by omega)
    rw [Addr.add_lit] at h1
    rw [h1]
    congr 2
    simp [List.getD, hj]

/-- The slice value v holds the bools L, in a block below B. -/
def Bools (w : World) (B : Nat) (v : Value) (L : List Bool) : Prop :=
  ∃ ao cap, v = .slice ao L.length cap ∧ L.length ≤ maxLen ∧ (L ≠ [] → ∃ b off, ao = some ⟨b, off, none⟩ ∧ b < B ∧ ∀ j, j < L.length → w.cell? ⟨b, off + j, none⟩ = some (.bool (L.getD j false)))
theorem bools_open {H : Type} {enc : TypeId × Value → H} {w : World} {a : Option Addr} {len cap : Nat} {d : DataW H} {p : List MemPlace} (h : DataW.Trod enc Try.prog w 0 (fun _ => true) true 49 (.slice a len cap) d p) :
    ∃ L, Bools w w.heap.size (.slice a len cap) L := by
  obtain ⟨fuel, hf⟩ := h
  rcases Go.Deep.open_bools Try.underlying49 Try.underlying4 (by kernel_rfl) hf with ⟨hcs, _⟩ | ⟨x, l, c, B, hcs, _, hl, hm, _, hcell⟩
  · simp [Value.cells] at hcs
    obtain ⟨rfl, rfl, rfl⟩ := hcs
    exact ⟨[], _, _, rfl, Nat.zero_le _, fun h => absurd rfl h⟩
  · simp [Value.cells] at hcs
    obtain ⟨rfl, rfl, rfl⟩ := hcs
    have hlen : ((List.range len).map B).length = len := by simp
    refine ⟨(List.range len).map B, some x, cap, by rw [hlen], by omega, fun hne => ?_⟩
    have hpos : 0 < len := by
      rcases Nat.eq_zero_or_pos len with h | h
      · subst h; exact absurd rfl hne
      · exact h
    obtain ⟨b, off, spot⟩ := x
    have h0 := hcell 0 (by omega)
    have hspot : spot = none := by simpa [Addr.add] using World.cell?_spot h0
    subst hspot
    rw [Addr.add_lit] at h0
    refine ⟨b, off, rfl, World.block_lt_of_cell? _ _ h0, fun j hj => ?_⟩
    rw [hlen] at hj
    have h1 := hcell j (by omega)
    rw [Addr.add_lit] at h1
    rw [h1]
    simp [List.getD, hj]

/-- A step on a bag as plain data: its bytes lie where the slice bv says. -/
structure GStepV where
  kind : Int
  num : Int
  fr : Int
  td : Int
  bv : Value
  bl : List UInt8
instance : Inhabited GStepV := ⟨⟨0, 0, 0, 0, .slice none 0 0, []⟩⟩
def GStepCells (w : World) (b off : Nat) (o : GStepV) : Prop := w.cell? ⟨b, off, none⟩ = some (.int .i64 o.kind) ∧ w.cell? ⟨b, off + 1, none⟩ = some (.int .i64 o.num) ∧ w.cell? ⟨b, off + 2, none⟩ = some (.int .i64 o.fr) ∧ w.cell? ⟨b, off + 3, none⟩ = some (.int .i64 o.td) ∧ w.cell? ⟨b, off + 4, none⟩ = some o.bv
/-- The slice value v holds the steps L, in a block below B. -/
def GSteps (w : World) (B : Nat) (v : Value) (L : List GStepV) : Prop :=
  ∃ ao cap, v = .slice ao L.length cap ∧ L.length ≤ maxLen ∧ (∀ o ∈ L, Byt w B o.bv o.bl) ∧
    (L ≠ [] → ∃ b off, ao = some ⟨b, off, none⟩ ∧ b < B ∧ ∀ i (h : i < L.length), GStepCells w b (off + i * 5) L[i])
theorem GStepCells.keep {w w' : World} {B b off : Nat} {o : GStepV} (h : GStepCells w b off o) (hb : Below B w w') (hB : b < B) : GStepCells w' b off o :=
  ⟨(hb.cell (p := ⟨b, off, none⟩) hB).trans h.1, (hb.cell (p := ⟨b, off + 1, none⟩) hB).trans h.2.1, (hb.cell (p := ⟨b, off + 2, none⟩) hB).trans h.2.2.1, (hb.cell (p := ⟨b, off + 3, none⟩) hB).trans h.2.2.2.1, (hb.cell (p := ⟨b, off + 4, none⟩) hB).trans h.2.2.2.2⟩
theorem cells_int9 : Try.prog.cellsOf 3 = 1 := by kernel_rfl
theorem cells_bytes9 : Try.prog.cellsOf 28 = 1 := by kernel_rfl
theorem cells_GOp : Try.prog.cellsOf 41 = 5 := by kernel_rfl
theorem gstep_open {H : Type} {enc : TypeId × Value → H} {w : World} {base : Nat} {held : Bool} {n : Nat} {cs : List Value} {x : DataW H × List MemPlace} (hl : cs.length = 5)
    (h : DataW.trod enc Try.prog w base (fun _ => true) held n 41 cs = some x) :
    ∃ o : GStepV, Byt w w.heap.size o.bv o.bl ∧ cs = [.int .i64 o.kind, .int .i64 o.num, .int .i64 o.fr, .int .i64 o.td, o.bv] := by
  obtain ⟨xs, m, _, _, _, hxl, hf⟩ := DataW.trod_struct Try.underlying41 h
  match cs, hl with
  | [c0, c1, c2, c3, c4], _ =>
    match xs, hxl with
    | [y0, y1, y2, y3, y4], _ =>
      have h0 : DataW.trod enc Try.prog w base (fun _ => true) held m 3 [c0] = some y0 := by simpa [cells_int9] using hf 0 _ rfl
      have h1 : DataW.trod enc Try.prog w base (fun _ => true) held m 3 [c1] = some y1 := by simpa [cells_int9] using hf 1 _ rfl
      have h2 : DataW.trod enc Try.prog w base (fun _ => true) held m 3 [c2] = some y2 := by simpa [cells_int9] using hf 2 _ rfl
      have h3 : DataW.trod enc Try.prog w base (fun _ => true) held m 3 [c3] = some y3 := by simpa [cells_int9] using hf 3 _ rfl
      have h4 : DataW.trod enc Try.prog w base (fun _ => true) held m 28 [c4] = some y4 := by simpa [cells_bytes9] using hf 4 _ rfl
      obtain ⟨a0, e0, _, _⟩ := DataW.trod_int Try.underlying3 h0
      obtain ⟨a1, e1, _, _⟩ := DataW.trod_int Try.underlying3 h1
      obtain ⟨a2, e2, _, _⟩ := DataW.trod_int Try.underlying3 h2
      obtain ⟨a3, e3, _, _⟩ := DataW.trod_int Try.underlying3 h3
      simp only [List.cons.injEq, and_true] at e0 e1 e2 e3
      subst e0 e1 e2 e3
      rcases open_ints Try.underlying28 Try.underlying5 (by kernel_rfl) h4 with ⟨hcs, _⟩ | ⟨x, l, c, zs, hcs, _, hl, hm, hz, _, hcell, hwz⟩
      · simp only [List.cons.injEq, and_true] at hcs
        subst hcs
        exact ⟨⟨a0, a1, a2, a3, _, []⟩, Byt.none _ _, rfl⟩
      · simp only [List.cons.injEq, and_true] at hcs
        subst hcs
        obtain ⟨l, _, hb⟩ := byt_row hl hm (by simpa using hz) hcell hwz
        exact ⟨⟨a0, a1, a2, a3, _, l⟩, hb, rfl⟩
theorem gsteps_open {H : Type} {enc : TypeId × Value → H} {w : World} {a : Option Addr} {len cap : Nat} {d : DataW H} {p : List MemPlace} (h : DataW.Trod enc Try.prog w 0 (fun _ => true) true 35 (.slice a len cap) d p) :
    ∃ L, GSteps w w.heap.size (.slice a len cap) L := by
  obtain ⟨fuel, hf⟩ := h
  rcases Go.Deep.open_slice Try.underlying35 hf with ⟨hcs, _⟩ | ⟨x, l, c, m, n, D, P1, hcs, _, hl, hm, hmm, _, hi⟩
  · simp [Value.cells] at hcs
    obtain ⟨rfl, rfl, rfl⟩ := hcs
    exact ⟨[], none, 0, rfl, Nat.zero_le _, by simp, fun h => absurd rfl h⟩
  · simp [Value.cells] at hcs
    obtain ⟨rfl, rfl, rfl⟩ := hcs
    have hml : len ≤ m := by rw [hmm]; split <;> omega
    have each : ∀ i, i < len → ∃ o : GStepV, Byt w w.heap.size o.bv o.bl ∧ w.cell? (x.add (i * 5)) = some (.int .i64 o.kind) ∧ w.cell? (x.add (i * 5 + 1)) = some (.int .i64 o.num) ∧ w.cell? (x.add (i * 5 + 2)) = some (.int .i64 o.fr) ∧ w.cell? (x.add (i * 5 + 3)) = some (.int .i64 o.td) ∧ w.cell? (x.add (i * 5 + 4)) = some o.bv := by
      intro i hil
      obtain ⟨cs', hc, ht⟩ := hi i (by omega)
      rw [cells_GOp] at hc
      obtain ⟨_, hcl, hat⟩ := World.cells?_some hc
      obtain ⟨o, ho, rfl⟩ := gstep_open hcl ht
      have g := fun j hj => (Go.Deep.add_add x (i * 5) j) ▸ hat j hj
      exact ⟨o, ho, g 0 (by omega), g 1 (by omega), g 2 (by omega), g 3 (by omega), g 4 (by omega)⟩
    obtain ⟨f, hF⟩ := Go.Deep.choose_lt each
    have hlen : ((List.range len).map f).length = len := by simp
    refine ⟨(List.range len).map f, some x, cap, by rw [hlen], by rw [hlen]; omega, ?_, fun hne => ?_⟩
    · intro o ho
      obtain ⟨i, hi', rfl⟩ := List.mem_map.1 ho
      exact (hF i (List.mem_range.1 hi')).1
    · have hpos : 0 < len := by
        rcases Nat.eq_zero_or_pos len with h | h
        · subst h; exact absurd rfl hne
        · exact h
      obtain ⟨b, off, spot⟩ := x
      have hspot : spot = none := by simpa [Addr.add] using World.cell?_spot (hF 0 hpos).2.1
      subst hspot
      have hc0 := (hF 0 hpos).2.1
      rw [Addr.add_lit] at hc0
      refine ⟨b, off, rfl, World.block_lt_of_cell? _ _ hc0, fun i h => ?_⟩
      rw [hlen] at h
      have hf := (hF i h).2
      simp only [Addr.add_lit, ← Nat.add_assoc] at hf
      have e : ((List.range len).map f)[i] = f i := by simp
      rw [e]
      exact ⟨hf.1, hf.2.1, hf.2.2.1, hf.2.2.2.1, hf.2.2.2.2⟩

section
variable {n : Nat} {w0 w w' : World} {g : Nat} {L : List MsgV}
theorem row_kind {w : World} {base : Nat} {e : TypeId} {size : Nat} {v : Value} {m : Nat} {xs : List Value} (h : w.ownsRow base e size v m xs) {b : Nat} (hb : v.ownBlock = some b) : base ≤ b ∧ ∃ cs, w.heap[b]? = some (.cells cs e (0, 0)) := by
  rcases h.2 with ⟨rfl, _⟩ | ⟨q, cap, cur, rfl, hq, hh, _⟩
  · simp [Value.ownBlock] at hb
  · simp only [Value.ownBlock, Option.some.injEq] at hb
    subst hb
    exact ⟨hq, cur, hh⟩
/-- The bag stands while a row of another kind grows. -/
theorem BgO.grown (h : BgO n w0 g L w) {base : Nat} {e : TypeId} {size : Nat} {v : Value} {m : Nat} {xs : List Value} (hr : w.ownsRow base e size v m xs) (hg : w.grownBy w' v.ownBlock) (h1 : e ≠ 55) (h2 : e ≠ 58) (hn : n ≤ base) : BgO n w0 g L w' := by
  obtain ⟨x, g1, g2, g3⟩ := h
  have ho : Only (fun b => v.ownBlock = some b) w w' := ⟨hg.os, hg.tape, hg.output, hg.size, fun k hk hne => hg.block k hk fun e => hne e.symm⟩
  refine ⟨x, g1.keep ho fun y hy he => ?_, Nat.le_trans g2 ho.size, ho.below g3 (fun y hy => Nat.le_trans hn (row_kind hr hy).1) g2⟩
  obtain ⟨_, cs, hc⟩ := row_kind hr he
  obtain ⟨cs', e', h4, h5⟩ := g1.kind y hy
  have := h4.symm.trans hc
  simp only [Option.some.injEq, Obj.cells.injEq] at this
  obtain ⟨_, rfl, _⟩ := this
  rcases h5 with h | h
  · exact h1 h
  · exact h2 h
/-- A row of another kind stands while the bag turns. -/
theorem KB.row (h : KB w w') {base : Nat} {e : TypeId} {size : Nat} {v : Value} {m : Nat} {xs : List Value} (hr : w.ownsRow base e size v m xs) (h1 : e ≠ 55) (h2 : e ≠ 58) : w'.ownsRow base e size v m xs := by
  refine ⟨hr.1, ?_⟩
  rcases hr.2 with h0 | ⟨q, cap, cur, rfl, hq, hh, rest⟩
  · exact .inl h0
  · exact .inr ⟨q, cap, cur, rfl, hq, h q cur e h1 h2 hh, rest⟩
end
theorem byt_one (u : World) (i : Nat) (hi : i < 256) : Byt (u.alloc (.cells #[.int .u8 i] 5)) (u.heap.size + 1) (.slice (some ⟨u.heap.size, 0, none⟩) 1 1) [UInt8.ofNat i] := by
  have h := byt_lit u [UInt8.ofNat i] 5 (0, 0) 1 rfl (by decide)
  have e : Lib.byteCells [UInt8.ofNat i] = [.int .u8 (i : Int)] := by simp [Lib.byteCells, Nat.mod_eq_of_lt hi]
  rwa [e] at h
end Go.Proofs.Ytkflkkdfklbfpaa
