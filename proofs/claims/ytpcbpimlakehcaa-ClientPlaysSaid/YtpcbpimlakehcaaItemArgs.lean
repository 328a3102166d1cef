/-
  A REQUEST, A CHAIN THAT CAME IN, as plain data. No condition.
-/
import Derived.Test.YtpcbpimlakehcaaPackT
import Derived.Test.YtpcbpimlakehcaaItemT
import Derived.Deep.Slices
import Derived.Deep.Fields
import Derived.SizedLaws
namespace Go.Proofs.Ytpcbpimlakehcaa
open Go.ChangeShapes Go.WideShapes Go.ChangeAt Go.RowKit

theorem cells_int : Try.prog.cellsOf 3 = 1 := by kernel_rfl
theorem cells_string : Try.prog.cellsOf 9 = 1 := by kernel_rfl
theorem cells_ints : Try.prog.cellsOf 22 = 1 := by kernel_rfl
theorem cells_Req : Try.prog.cellsOf 33 = 6 := by kernel_rfl
theorem cells_Chain : Try.prog.cellsOf 24 = 2 := by kernel_rfl

set_option maxRecDepth 100000 in
theorem req_open {H : Type} {enc : TypeId × Value → H} {w : World} {r : Reach} {b0 base : Nat} {spare : Nat → Bool} {held : Bool} {v : Value} {d : DataW H} {p : List MemPlace}
    (hv : Value.okWide Try.prog w r b0 33 v) (h : DataW.Trod enc Try.prog w base spare held 33 v d p) : ∃ q : ReqV, q.data.size ≤ maxLen ∧ v = q.val := by
  obtain ⟨cs, rfl, hsz⟩ := okWide_struct Try.underlying33 hv
  rw [cells_Req] at hsz
  obtain ⟨l⟩ := cs
  match l, hsz with
  | [x0, x1, x2, x3, x4, x5], _ =>
    obtain ⟨fuel, hf⟩ := h
    obtain ⟨xs, m, _, _, _, hxl, hg⟩ := DataW.trod_struct Try.underlying33 hf
    match xs, hxl with
    | [y0, y1, y2, y3, y4, y5], _ =>
      have h0 : DataW.trod enc Try.prog w base spare held m 3 [x0] = some y0 := by simpa [Value.cells, cells_int] using hg 0 _ rfl
      have h1 : DataW.trod enc Try.prog w base spare held m 3 [x1] = some y1 := by simpa [Value.cells, cells_int] using hg 1 _ rfl
      have h2 : DataW.trod enc Try.prog w base spare held m 3 [x2] = some y2 := by simpa [Value.cells, cells_int] using hg 2 _ rfl
      have h3 : DataW.trod enc Try.prog w base spare held m 3 [x3] = some y3 := by simpa [Value.cells, cells_int] using hg 3 _ rfl
      have h4 : DataW.trod enc Try.prog w base spare held m 3 [x4] = some y4 := by simpa [Value.cells, cells_int] using hg 4 _ rfl
      have h5 : DataW.trod enc Try.prog w base spare held m 9 [x5] = some y5 := by simpa [Value.cells, cells_string] using hg 5 _ rfl
      obtain ⟨a0, e0, _, _⟩ := DataW.trod_int Try.underlying3 h0
      obtain ⟨a1, e1, _, _⟩ := DataW.trod_int Try.underlying3 h1
      obtain ⟨a2, e2, _, _⟩ := DataW.trod_int Try.underlying3 h2
      obtain ⟨a3, e3, _, _⟩ := DataW.trod_int Try.underlying3 h3
      obtain ⟨a4, e4, _, _⟩ := DataW.trod_int Try.underlying3 h4
      obtain ⟨a5, e5, _, w5⟩ := DataW.trod_string Try.underlying9 h5
      simp only [List.cons.injEq, and_true] at e0 e1 e2 e3 e4 e5
      subst e0 e1 e2 e3 e4 e5
      exact ⟨⟨a0, a1, a2, a3, a4, a5⟩, w5, rfl⟩

theorem ints_row {W : World} {a : Addr} {len cap : Nat} {zs : List Int} (hl : len ≤ cap) (hm : cap ≤ maxLen) (hz : zs.length = cap) (hcell : ∀ i, i < zs.length → W.cell? (a.add i) = some (.int .i64 (zs.getD i 0))) :
    ∃ L, L.length = len ∧ Ints W W.heap.size (.slice (some a) len cap) L := by
  have hlen : (zs.take len).length = len := by rw [List.length_take]; omega
  refine ⟨zs.take len, hlen, some a, cap, by rw [hlen], by omega, hm, fun e => by simp at e, fun hne => ?_⟩
  have hpos : 0 < len := by
    rcases Nat.eq_zero_or_pos len with h | h
    · subst h; exact absurd (by simp) hne
    · exact h
  obtain ⟨b, off, rfl, hc⟩ := ints_at hcell (by omega)
  refine ⟨b, off, rfl, World.block_lt_of_cell? _ _ (hc 0 (by omega)), fun j hj => ?_⟩
  rw [hlen] at hj
  rw [hc j (by omega)]
  have : (zs.take len).getD j 0 = zs.getD j 0 := by simp [List.getD, hj]
  rw [this]

set_option maxRecDepth 100000 in
theorem chain_open {H : Type} {enc : TypeId × Value → H} {w : World} {r : Reach} {b0 base : Nat} {held : Bool} {v : Value} {d : DataW H} {p : List MemPlace}
    (hv : Value.okWide Try.prog w r b0 24 v) (h : DataW.Trod enc Try.prog w base (fun _ => true) held 24 v d p) :
    ∃ (ep : Int) (ao : Option Addr) (len cap : Nat) (L : List Int), v = .agg #[.int .i64 ep, .slice ao len cap] ∧ Ints w w.heap.size (.slice ao len cap) L := by
  obtain ⟨cs, rfl, hsz⟩ := okWide_struct Try.underlying24 hv
  rw [cells_Chain] at hsz
  obtain ⟨l⟩ := cs
  match l, hsz with
  | [x0, x1], _ =>
    obtain ⟨fuel, hf⟩ := h
    obtain ⟨xs, m, _, _, _, hxl, hg⟩ := DataW.trod_struct Try.underlying24 hf
    match xs, hxl with
    | [y0, y1], _ =>
      have h0 : DataW.trod enc Try.prog w base (fun _ => true) held m 3 [x0] = some y0 := by simpa [Value.cells, cells_int] using hg 0 _ rfl
      have h1 : DataW.trod enc Try.prog w base (fun _ => true) held m 22 [x1] = some y1 := by simpa [Value.cells, cells_ints] using hg 1 _ rfl
      obtain ⟨a0, e0, _, _⟩ := DataW.trod_int Try.underlying3 h0
      simp only [List.cons.injEq, and_true] at e0
      subst e0
      rcases open_ints Try.underlying22 Try.underlying3 (by kernel_rfl) h1 with ⟨hcs, _⟩ | ⟨x, l, c, zs, hcs, _, hl, hm, hz, _, hcell, _⟩
      · simp at hcs
        subst hcs
        exact ⟨a0, none, 0, 0, [], rfl, Ints.none _ _⟩
      · simp at hcs
        subst hcs
        obtain ⟨L, _, hI⟩ := ints_row hl hm (by simpa using hz) hcell
        exact ⟨a0, some x, l, c, L, rfl, hI⟩

theorem cells_Reply : Try.prog.cellsOf 64 = 4 := by kernel_rfl

set_option maxRecDepth 100000 in
theorem reply_open {H : Type} {enc : TypeId × Value → H} {w : World} {r : Reach} {b0 base : Nat} {held : Bool} {v : Value} {d : DataW H} {p : List MemPlace}
    (hv : Value.okWide Try.prog w r b0 64 v) (h : DataW.Trod enc Try.prog w base (fun _ => true) held 64 v d p) :
    ∃ (c n : Int) (dt : ByteArray) (ao : Option Addr) (len cap : Nat) (L : List Int), v = .agg #[.int .i64 c, .int .i64 n, .string dt, .slice ao len cap] ∧ Ints w w.heap.size (.slice ao len cap) L ∧
      dt.size ∈ DataW.weights Try.prog 64 d := by
  obtain ⟨cs, rfl, hsz⟩ := okWide_struct Try.underlying64 hv
  rw [cells_Reply] at hsz
  obtain ⟨l⟩ := cs
  match l, hsz with
  | [x0, x1, x2, x3], _ =>
    obtain ⟨fuel, hf⟩ := h
    obtain ⟨xs, m, _, hd, _, hxl, hg⟩ := DataW.trod_struct Try.underlying64 hf
    match xs, hxl with
    | [y0, y1, y2, y3], _ =>
      have h0 : DataW.trod enc Try.prog w base (fun _ => true) held m 3 [x0] = some y0 := by simpa [Value.cells, cells_int] using hg 0 _ rfl
      have h1 : DataW.trod enc Try.prog w base (fun _ => true) held m 3 [x1] = some y1 := by simpa [Value.cells, cells_int] using hg 1 _ rfl
      have h2 : DataW.trod enc Try.prog w base (fun _ => true) held m 9 [x2] = some y2 := by simpa [Value.cells, cells_string] using hg 2 _ rfl
      have h3 : DataW.trod enc Try.prog w base (fun _ => true) held m 22 [x3] = some y3 := by simpa [Value.cells, cells_ints] using hg 3 _ rfl
      obtain ⟨a0, e0, _, _⟩ := DataW.trod_int Try.underlying3 h0
      obtain ⟨a1, e1, _, _⟩ := DataW.trod_int Try.underlying3 h1
      obtain ⟨a2, e2, k2, _⟩ := DataW.trod_string Try.underlying9 h2
      simp only [List.cons.injEq, and_true] at e0 e1 e2
      subst e0 e1 e2
      have hwt : a2.size ∈ DataW.weights Try.prog 64 d := by
        rw [show d = .agg [y0.1, y1.1, y2.1, y3.1] from congrArg Prod.fst hd, k2]
        simp only [DataW.weights, Try.underlying64, DataW.weightsEach, List.map, List.mem_append]
        right; right; left
        simp
      rcases open_ints Try.underlying22 Try.underlying3 (by kernel_rfl) h3 with ⟨hcs, _⟩ | ⟨x, l, c, zs, hcs, _, hl, hm, hz, _, hcell, _⟩
      · simp at hcs
        subst hcs
        exact ⟨a0, a1, a2, none, 0, 0, [], rfl, Ints.none _ _, hwt⟩
      · simp at hcs
        subst hcs
        obtain ⟨L, _, hI⟩ := ints_row hl hm (by simpa using hz) hcell
        exact ⟨a0, a1, a2, some x, l, c, L, rfl, hI, hwt⟩
end Go.Proofs.Ytpcbpimlakehcaa
