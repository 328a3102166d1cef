/-
  WHAT CAME IN: steps with parts. No condition. Written by gen/stepargs.py.
-/
import Derived.Test.YtpcbpimlakehcaaTrodArgs
import Derived.Deep.Slices
import Derived.Deep.Fields
namespace Go.Proofs.Ytpcbpimlakehcaa
open Go.ChangeShapes Go.WideShapes Go.ChangeAt Go.RowKit

/-- A step as plain data. -/
structure CStepV where
  kd : Int
  now : Int
  seq : Int
  q : ReqV
  cE : Int
  cV : Value
  cL : List Int
instance : Inhabited CStepV := ⟨⟨0, 0, 0, ⟨0, 0, 0, 0, 0, ⟨#[]⟩⟩, 0, .slice none 0 0, []⟩⟩
def CStepCells (w : World) (b off : Nat) (o : CStepV) : Prop := w.cell? ⟨b, off, none⟩ = some (.int .i64 o.kd) ∧ w.cell? ⟨b, off + 1, none⟩ = some (.int .i64 o.now) ∧ w.cell? ⟨b, off + 2, none⟩ = some (.int .i64 o.seq) ∧ w.cell? ⟨b, off + 3, none⟩ = some (.int .i64 o.q.client) ∧ w.cell? ⟨b, off + 4, none⟩ = some (.int .i64 o.q.seq) ∧ w.cell? ⟨b, off + 5, none⟩ = some (.int .i64 o.q.kind) ∧ w.cell? ⟨b, off + 6, none⟩ = some (.int .i64 o.q.id) ∧ w.cell? ⟨b, off + 7, none⟩ = some (.int .i64 o.q.mtch) ∧ w.cell? ⟨b, off + 8, none⟩ = some (.string o.q.data) ∧ w.cell? ⟨b, off + 9, none⟩ = some (.int .i64 o.cE) ∧ w.cell? ⟨b, off + 10, none⟩ = some (o.cV)
def CStepV.fits (o : CStepV) (w : World) : Prop := Fits64 o.kd ∧ Fits64 o.now ∧ Fits64 o.seq ∧ o.q.data.size ≤ maxLen ∧ (Fits64 o.cE ∧ Ints w w.heap.size o.cV o.cL)
/-- The slice value v holds the steps L, in a block below B; what they lead to lies in memory at w. -/
def CSteps (w : World) (v : Value) (L : List CStepV) : Prop :=
  ∃ ao cap, v = .slice ao L.length cap ∧ L.length ≤ maxLen ∧ (∀ o ∈ L, o.fits w) ∧
    (L ≠ [] → ∃ b off, ao = some ⟨b, off, none⟩ ∧ b < w.heap.size ∧ ∀ i (h : i < L.length), CStepCells w b (off + i * 11) L[i])
theorem CStepCells.keep {w w' : World} {B b off : Nat} {o : CStepV} (h : CStepCells w b off o) (hb : Below B w w') (hB : b < B) : CStepCells w' b off o :=
  ⟨(hb.cell (p := ⟨b, off, none⟩) hB).trans h.1, (hb.cell (p := ⟨b, off + 1, none⟩) hB).trans h.2.1, (hb.cell (p := ⟨b, off + 2, none⟩) hB).trans h.2.2.1, (hb.cell (p := ⟨b, off + 3, none⟩) hB).trans h.2.2.2.1, (hb.cell (p := ⟨b, off + 4, none⟩) hB).trans h.2.2.2.2.1, (hb.cell (p := ⟨b, off + 5, none⟩) hB).trans h.2.2.2.2.2.1, (hb.cell (p := ⟨b, off + 6, none⟩) hB).trans h.2.2.2.2.2.2.1, (hb.cell (p := ⟨b, off + 7, none⟩) hB).trans h.2.2.2.2.2.2.2.1, (hb.cell (p := ⟨b, off + 8, none⟩) hB).trans h.2.2.2.2.2.2.2.2.1, (hb.cell (p := ⟨b, off + 9, none⟩) hB).trans h.2.2.2.2.2.2.2.2.2.1, (hb.cell (p := ⟨b, off + 10, none⟩) hB).trans h.2.2.2.2.2.2.2.2.2.2⟩
theorem cells_CStep : Try.prog.cellsOf 44 = 11 := by kernel_rfl
set_option maxRecDepth 100000 in
theorem cstep1_open {H : Type} {enc : TypeId × Value → H} {w : World} {base : Nat} {held : Bool} {n : Nat} {cs : List Value} {x : DataW H × List MemPlace} (hl : cs.length = 11)
    (h : DataW.trod enc Try.prog w base (fun _ => true) held n 44 cs = some x) :
    ∃ o : CStepV, o.fits w ∧ cs = [.int .i64 o.kd, .int .i64 o.now, .int .i64 o.seq, .int .i64 o.q.client, .int .i64 o.q.seq, .int .i64 o.q.kind, .int .i64 o.q.id, .int .i64 o.q.mtch, .string o.q.data, .int .i64 o.cE, o.cV] := by
  obtain ⟨xs, m, _, _, _, hxl, hf⟩ := DataW.trod_struct Try.underlying44 h
  match cs, hl with
  | [c0, c1, c2, c3, c4, c5, c6, c7, c8, c9, c10], _ =>
    match xs, hxl with
    | [y0, y1, y2, y3, y4], _ =>
      have h0 : DataW.trod enc Try.prog w base (fun _ => true) held m 3 [c0] = some y0 := by simpa [one_int, one_bool, one_string, one_ints, six_Req, two_Chain] using hf 0 _ rfl
      have h1 : DataW.trod enc Try.prog w base (fun _ => true) held m 3 [c1] = some y1 := by simpa [one_int, one_bool, one_string, one_ints, six_Req, two_Chain] using hf 1 _ rfl
      have h2 : DataW.trod enc Try.prog w base (fun _ => true) held m 3 [c2] = some y2 := by simpa [one_int, one_bool, one_string, one_ints, six_Req, two_Chain] using hf 2 _ rfl
      have h3 : DataW.trod enc Try.prog w base (fun _ => true) held m 33 [c3, c4, c5, c6, c7, c8] = some y3 := by simpa [one_int, one_bool, one_string, one_ints, six_Req, two_Chain] using hf 3 _ rfl
      have h4 : DataW.trod enc Try.prog w base (fun _ => true) held m 24 [c9, c10] = some y4 := by simpa [one_int, one_bool, one_string, one_ints, six_Req, two_Chain] using hf 4 _ rfl
      obtain ⟨a0, e0, _, w0⟩ := DataW.trod_int Try.underlying3 h0
      obtain ⟨a1, e1, _, w1⟩ := DataW.trod_int Try.underlying3 h1
      obtain ⟨a2, e2, _, w2⟩ := DataW.trod_int Try.underlying3 h2
      obtain ⟨a3, w3, e3⟩ := trod_req rfl h3
      obtain ⟨a4, b4, l4, w4, e4⟩ := trod_chain rfl h4
      simp only [List.cons.injEq, and_true] at e0 e1 e2 e3 e4
      subst e0
      subst e1
      subst e2
      obtain ⟨rfl, rfl, rfl, rfl, rfl, rfl⟩ := e3
      obtain ⟨rfl, rfl⟩ := e4
      exact ⟨⟨a0, a1, a2, a3, a4, _, l4⟩, ⟨fits64_of w0, fits64_of w1, fits64_of w2, w3, w4⟩, rfl⟩
set_option maxRecDepth 100000 in
theorem csteps_open {H : Type} {enc : TypeId × Value → H} {w : World} {a : Option Addr} {len cap : Nat} {d : DataW H} {p : List MemPlace} (h : DataW.Trod enc Try.prog w 0 (fun _ => true) true 39 (.slice a len cap) d p) :
    ∃ L, CSteps w (.slice a len cap) L := by
  obtain ⟨fuel, hf⟩ := h
  rcases Go.Deep.open_slice Try.underlying39 hf with ⟨hcs, _⟩ | ⟨x, l, c, m, n, D, P1, hcs, _, hl, hm, hmm, _, hi⟩
  · simp [Value.cells] at hcs
    obtain ⟨rfl, rfl, rfl⟩ := hcs
    exact ⟨[], none, 0, rfl, Nat.zero_le _, by simp, fun h => absurd rfl h⟩
  · simp [Value.cells] at hcs
    obtain ⟨rfl, rfl, rfl⟩ := hcs
    have hml : len ≤ m := by rw [hmm]; split <;> omega
    have each : ∀ i, i < len → ∃ o : CStepV, o.fits w ∧ w.cell? (x.add (i * 11)) = some (.int .i64 o.kd) ∧ w.cell? (x.add (i * 11 + 1)) = some (.int .i64 o.now) ∧ w.cell? (x.add (i * 11 + 2)) = some (.int .i64 o.seq) ∧ w.cell? (x.add (i * 11 + 3)) = some (.int .i64 o.q.client) ∧ w.cell? (x.add (i * 11 + 4)) = some (.int .i64 o.q.seq) ∧ w.cell? (x.add (i * 11 + 5)) = some (.int .i64 o.q.kind) ∧ w.cell? (x.add (i * 11 + 6)) = some (.int .i64 o.q.id) ∧ w.cell? (x.add (i * 11 + 7)) = some (.int .i64 o.q.mtch) ∧ w.cell? (x.add (i * 11 + 8)) = some (.string o.q.data) ∧ w.cell? (x.add (i * 11 + 9)) = some (.int .i64 o.cE) ∧ w.cell? (x.add (i * 11 + 10)) = some (o.cV) := by
      intro i hil
      obtain ⟨cs', hc, ht⟩ := hi i (by omega)
      rw [cells_CStep] at hc
      obtain ⟨_, hcl, hat⟩ := World.cells?_some hc
      obtain ⟨o, ho, rfl⟩ := cstep1_open hcl ht
      have g := fun j hj => (Go.Deep.add_add x (i * 11) j) ▸ hat j hj
      exact ⟨o, ho, g 0 (by omega), g 1 (by omega), g 2 (by omega), g 3 (by omega), g 4 (by omega), g 5 (by omega), g 6 (by omega), g 7 (by omega), g 8 (by omega), g 9 (by omega), g 10 (by omega)⟩
    obtain ⟨f, hF⟩ := Go.Deep.choose_lt each
    have hlen : ((List.range len).map f).length = len := by simp
    refine ⟨(List.range len).map f, some x, cap, by rw [hlen], by rw [hlen]; omega, ?_, fun hne => ?_⟩
    · intro o ho
      obtain ⟨i, hi', rfl⟩ := List.mem_map.1 ho
      exact (hF i (List.mem_range.1 hi')).1
    · have hpos : 0 < len := by
        rcases Nat.eq_zero_or_pos len with h | h
        · subst h; exact absurd rfl hne
        · exact h
      obtain ⟨b, off, spot⟩ := x
      have hspot : spot = none := by simpa [Addr.add] using World.cell?_spot (hF 0 hpos).2.1
      subst hspot
      have hc0 := (hF 0 hpos).2.1
      rw [Addr.add_lit] at hc0
      refine ⟨b, off, rfl, World.block_lt_of_cell? _ _ hc0, fun i h => ?_⟩
      rw [hlen] at h
      have hf := (hF i h).2
      simp only [Addr.add_lit, ← Nat.add_assoc] at hf
      have e : ((List.range len).map f)[i] = f i := by simp
      rw [e]
      exact hf
end Go.Proofs.Ytpcbpimlakehcaa
