/-
  VERSIONS, REQUESTS, NUMBERS THAT CAME IN, as lists. No condition.
-/
import Derived.Test.YtenjjgghoacboaaChartT
import Derived.Deep.Slices
import Derived.Deep.Fields
namespace Go.Proofs.Ytenjjgghoacboaa
open Go.ChangeShapes Go.WideShapes Go.ChangeAt Go.RowKit

set_option maxRecDepth 100000 in
theorem cells_bool' : Try.prog.cellsOf 4 = 1 := by kernel_rfl
set_option maxRecDepth 100000 in
theorem cells_Version : Try.prog.cellsOf 121 = 2 := by kernel_rfl

set_option maxRecDepth 100000 in
theorem ver_open {H : Type} {enc : TypeId × Value → H} {w : World} {base : Nat} {spare : Nat → Bool} {held : Bool} {n : Nat} {cs : List Value} {x : DataW H × List MemPlace} (hl : cs.length = 2)
    (h : DataW.trod enc Try.prog w base spare held n 121 cs = some x) :
    ∃ v : VerV, v.data.size ≤ maxLen ∧ cs = [.bool v.gone, .string v.data] := by
  obtain ⟨xs, m, _, _, _, hxl, hf⟩ := DataW.trod_struct Try.underlying121 h
  match cs, hl with
  | [c0, c1], _ =>
    match xs, hxl with
    | [y0, y1], _ =>
      have h0 : DataW.trod enc Try.prog w base spare held m 4 [c0] = some y0 := by simpa [cells_bool'] using hf 0 _ rfl
      have h1 : DataW.trod enc Try.prog w base spare held m 9 [c1] = some y1 := by simpa [cells_string] using hf 1 _ rfl
      obtain ⟨a0, e0, _⟩ := DataW.trod_bool Try.underlying4 h0
      obtain ⟨a1, e1, _, w1⟩ := DataW.trod_string Try.underlying9 h1
      simp only [List.cons.injEq, and_true] at e0 e1
      subst e0 e1
      exact ⟨⟨a0, a1⟩, w1, rfl⟩

set_option maxRecDepth 100000 in
theorem vers_open {H : Type} {enc : TypeId × Value → H} {w : World} {a : Option Addr} {len cap : Nat} {d : DataW H} {p : List MemPlace} (h : DataW.Trod enc Try.prog w 0 (fun _ => true) true 112 (.slice a len cap) d p) :
    ∃ L, Vers w w.heap.size (.slice a len cap) L ∧ ∀ x ∈ L, x.data.size ≤ maxLen := by
  obtain ⟨fuel, hf⟩ := h
  rcases Go.Deep.open_slice Try.underlying112 hf with ⟨hcs, _⟩ | ⟨x, l, c, m, n, D, Pl, hcs, _, hl, hm, hmm, _, hi⟩
  · simp [Value.cells] at hcs
    obtain ⟨rfl, rfl, rfl⟩ := hcs
    exact ⟨[], Vers.none _ _, by simp⟩
  · simp [Value.cells] at hcs
    obtain ⟨rfl, rfl, rfl⟩ := hcs
    have hml : len ≤ m := by rw [hmm]; split <;> omega
    have each : ∀ i, i < len → ∃ o : VerV, o.data.size ≤ maxLen ∧ w.cell? (x.add (i * 2)) = some (.bool o.gone) ∧ w.cell? (x.add (i * 2 + 1)) = some (.string o.data) := by
      intro i hil
      obtain ⟨cs', hc, ht⟩ := hi i (by omega)
      rw [cells_Version] at hc
      obtain ⟨_, hcl, hat⟩ := World.cells?_some hc
      obtain ⟨o, ho, rfl⟩ := ver_open hcl ht
      have g := fun j hj => (Go.Deep.add_add x (i * 2) j) ▸ hat j hj
      exact ⟨o, ho, g 0 (by omega), g 1 (by omega)⟩
    obtain ⟨f, hF⟩ := Go.Deep.choose_lt each
    have hlen : ((List.range len).map f).length = len := by simp
    refine ⟨(List.range len).map f, ⟨some x, cap, by rw [hlen], by rw [hlen]; omega, hm, fun e => by simp at e, fun hne => ?_⟩, ?_⟩
    · have hpos : 0 < len := by
        rcases Nat.eq_zero_or_pos len with h | h
        · subst h; exact absurd rfl hne
        · exact h
      obtain ⟨b, off, spot⟩ := x
      have hspot : spot = none := by simpa [Addr.add] using World.cell?_spot (hF 0 hpos).2.1
      subst hspot
      have hc0 := (hF 0 hpos).2.1
      rw [Addr.add_lit] at hc0
      refine ⟨b, off, rfl, World.block_lt_of_cell? _ _ hc0, fun i h => ?_⟩
      rw [hlen] at h
      have hf := (hF i h).2
      simp only [Addr.add_lit, ← Nat.add_assoc] at hf
      have e : at' ((List.range len).map f) i = f i := by simp [at', List.getD, h]
      rw [e]
      exact ⟨hf.1, hf.2⟩
    · intro o ho
      obtain ⟨i, hi', rfl⟩ := List.mem_map.1 ho
      exact (hF i (List.mem_range.1 hi')).1

instance : Inhabited ReqV := ⟨⟨0, 0, 0, 0, 0, ⟨#[]⟩⟩⟩

/-- The slice value v holds the requests L, in a block below B. -/
def Reqs (w : World) (B : Nat) (v : Value) (L : List ReqV) : Prop :=
  ∃ ao cap, v = .slice ao L.length cap ∧ L.length ≤ maxLen ∧ (∀ q ∈ L, q.data.size ≤ maxLen) ∧
    (L ≠ [] → ∃ b off, ao = some ⟨b, off, none⟩ ∧ b < B ∧ ∀ i (h : i < L.length), w.cell? ⟨b, off + i * 6, none⟩ = some (.int .i64 L[i].client) ∧ w.cell? ⟨b, off + i * 6 + 1, none⟩ = some (.int .i64 L[i].seq) ∧ w.cell? ⟨b, off + i * 6 + 2, none⟩ = some (.int .i64 L[i].kind) ∧
      w.cell? ⟨b, off + i * 6 + 3, none⟩ = some (.int .i64 L[i].id) ∧ w.cell? ⟨b, off + i * 6 + 4, none⟩ = some (.int .i64 L[i].mtch) ∧ w.cell? ⟨b, off + i * 6 + 5, none⟩ = some (.string L[i].data))

set_option maxRecDepth 100000 in
theorem req1_open {H : Type} {enc : TypeId × Value → H} {w : World} {base : Nat} {spare : Nat → Bool} {held : Bool} {n : Nat} {cs : List Value} {x : DataW H × List MemPlace} (hl : cs.length = 6)
    (h : DataW.trod enc Try.prog w base spare held n 34 cs = some x) :
    ∃ q : ReqV, q.data.size ≤ maxLen ∧ cs = [.int .i64 q.client, .int .i64 q.seq, .int .i64 q.kind, .int .i64 q.id, .int .i64 q.mtch, .string q.data] := by
  obtain ⟨xs, m, _, _, _, hxl, hg⟩ := DataW.trod_struct Try.underlying34 h
  match cs, hl with
  | [x0, x1, x2, x3, x4, x5], _ =>
    match xs, hxl with
    | [y0, y1, y2, y3, y4, y5], _ =>
      have h0 : DataW.trod enc Try.prog w base spare held m 3 [x0] = some y0 := by simpa [cells_int] using hg 0 _ rfl
      have h1 : DataW.trod enc Try.prog w base spare held m 3 [x1] = some y1 := by simpa [cells_int] using hg 1 _ rfl
      have h2 : DataW.trod enc Try.prog w base spare held m 3 [x2] = some y2 := by simpa [cells_int] using hg 2 _ rfl
      have h3 : DataW.trod enc Try.prog w base spare held m 3 [x3] = some y3 := by simpa [cells_int] using hg 3 _ rfl
      have h4 : DataW.trod enc Try.prog w base spare held m 3 [x4] = some y4 := by simpa [cells_int] using hg 4 _ rfl
      have h5 : DataW.trod enc Try.prog w base spare held m 9 [x5] = some y5 := by simpa [cells_string] using hg 5 _ rfl
      obtain ⟨a0, e0, _, _⟩ := DataW.trod_int Try.underlying3 h0
      obtain ⟨a1, e1, _, _⟩ := DataW.trod_int Try.underlying3 h1
      obtain ⟨a2, e2, _, _⟩ := DataW.trod_int Try.underlying3 h2
      obtain ⟨a3, e3, _, _⟩ := DataW.trod_int Try.underlying3 h3
      obtain ⟨a4, e4, _, _⟩ := DataW.trod_int Try.underlying3 h4
      obtain ⟨a5, e5, _, w5⟩ := DataW.trod_string Try.underlying9 h5
      simp only [List.cons.injEq, and_true] at e0 e1 e2 e3 e4 e5
      subst e0 e1 e2 e3 e4 e5
      exact ⟨⟨a0, a1, a2, a3, a4, a5⟩, w5, rfl⟩

set_option maxRecDepth 100000 in
theorem reqs_open {H : Type} {enc : TypeId × Value → H} {w : World} {a : Option Addr} {len cap : Nat} {d : DataW H} {p : List MemPlace} (h : DataW.Trod enc Try.prog w 0 (fun _ => true) true 29 (.slice a len cap) d p) :
    ∃ L, Reqs w w.heap.size (.slice a len cap) L := by
  obtain ⟨fuel, hf⟩ := h
  rcases Go.Deep.open_slice Try.underlying29 hf with ⟨hcs, _⟩ | ⟨x, l, c, m, n, D, Pl, hcs, _, hl, hm, hmm, _, hi⟩
  · simp [Value.cells] at hcs
    obtain ⟨rfl, rfl, rfl⟩ := hcs
    exact ⟨[], none, 0, rfl, Nat.zero_le _, by simp, fun h => absurd rfl h⟩
  · simp [Value.cells] at hcs
    obtain ⟨rfl, rfl, rfl⟩ := hcs
    have hml : len ≤ m := by rw [hmm]; split <;> omega
    have each : ∀ i, i < len → ∃ o : ReqV, o.data.size ≤ maxLen ∧ w.cell? (x.add (i * 6)) = some (.int .i64 o.client) ∧ w.cell? (x.add (i * 6 + 1)) = some (.int .i64 o.seq) ∧ w.cell? (x.add (i * 6 + 2)) = some (.int .i64 o.kind) ∧
        w.cell? (x.add (i * 6 + 3)) = some (.int .i64 o.id) ∧ w.cell? (x.add (i * 6 + 4)) = some (.int .i64 o.mtch) ∧ w.cell? (x.add (i * 6 + 5)) = some (.string o.data) := by
      intro i hil
      obtain ⟨cs', hc, ht⟩ := hi i (by omega)
      rw [cells_Req] at hc
      obtain ⟨_, hcl, hat⟩ := World.cells?_some hc
      obtain ⟨o, ho, rfl⟩ := req1_open hcl ht
      have g := fun j hj => (Go.Deep.add_add x (i * 6) j) ▸ hat j hj
      exact ⟨o, ho, g 0 (by omega), g 1 (by omega), g 2 (by omega), g 3 (by omega), g 4 (by omega), g 5 (by omega)⟩
    obtain ⟨f, hF⟩ := Go.Deep.choose_lt each
    have hlen : ((List.range len).map f).length = len := by simp
    refine ⟨(List.range len).map f, some x, cap, by rw [hlen], by rw [hlen]; omega, ?_, fun hne => ?_⟩
    · intro o ho
      obtain ⟨i, hi', rfl⟩ := List.mem_map.1 ho
      exact (hF i (List.mem_range.1 hi')).1
    · have hpos : 0 < len := by
        rcases Nat.eq_zero_or_pos len with h | h
        · subst h; exact absurd rfl hne
        · exact h
      obtain ⟨b, off, spot⟩ := x
      have hspot : spot = none := by simpa [Addr.add] using World.cell?_spot (hF 0 hpos).2.1
      subst hspot
      have hc0 := (hF 0 hpos).2.1
      rw [Addr.add_lit] at hc0
      refine ⟨b, off, rfl, World.block_lt_of_cell? _ _ hc0, fun i h => ?_⟩
      rw [hlen] at h
      have hf := (hF i h).2
      simp only [Addr.add_lit, ← Nat.add_assoc] at hf
      have e : ((List.range len).map f)[i] = f i := by simp
      rw [e]
      exact hf

set_option maxRecDepth 100000 in
theorem ints_open {H : Type} {enc : TypeId × Value → H} {w : World} {a : Option Addr} {len cap : Nat} {d : DataW H} {p : List MemPlace} (h : DataW.Trod enc Try.prog w 0 (fun _ => true) true 41 (.slice a len cap) d p) :
    ∃ L, Ints w w.heap.size (.slice a len cap) L := by
  obtain ⟨fuel, hf⟩ := h
  rcases open_ints Try.underlying41 Try.underlying3 (by kernel_rfl) hf with ⟨hcs, _⟩ | ⟨x, l, c, zs, hcs, _, hl, hm, hz, _, hcell, _⟩
  · simp [Value.cells] at hcs
    obtain ⟨rfl, rfl, rfl⟩ := hcs
    exact ⟨[], Ints.none _ _⟩
  · simp [Value.cells] at hcs
    obtain ⟨rfl, rfl, rfl⟩ := hcs
    obtain ⟨L, _, hI⟩ := ints_row hl hm (by simpa using hz) hcell
    exact ⟨L, hI⟩
end Go.Proofs.Ytenjjgghoacboaa
