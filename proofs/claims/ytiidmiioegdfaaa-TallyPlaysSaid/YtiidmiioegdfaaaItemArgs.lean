/-
  A REQUEST, A CHAIN THAT CAME IN, as plain data. No condition.
-/
import Derived.Test.YtiidmiioegdfaaaPackT
import Derived.Test.YtiidmiioegdfaaaItemT
import Derived.Deep.Slices
import Derived.Deep.Fields
import Derived.SizedLaws
namespace Go.Proofs.Ytiidmiioegdfaaa
open Go.ChangeShapes Go.WideShapes Go.ChangeAt Go.RowKit

theorem cells_int : Try.prog.cellsOf 3 = 1 := by kernel_rfl
theorem cells_string : Try.prog.cellsOf 9 = 1 := by kernel_rfl
theorem cells_ints : Try.prog.cellsOf 24 = 1 := by kernel_rfl
theorem cells_Chain : Try.prog.cellsOf 26 = 2 := by kernel_rfl

theorem ints_row {W : World} {a : Addr} {len cap : Nat} {zs : List Int} (hl : len ≤ cap) (hm : cap ≤ maxLen) (hz : zs.length = cap) (hcell : ∀ i, i < zs.length → W.cell? (a.add i) = some (.int .i64 (zs.getD i 0))) :
    ∃ L, L.length = len ∧ Ints W W.heap.size (.slice (some a) len cap) L := by
  have hlen : (zs.take len).length = len := by rw [List.length_take]; omega
  refine ⟨zs.take len, hlen, some a, cap, by rw [hlen], by omega, hm, fun e => by simp at e, fun hne => ?_⟩
  have hpos : 0 < len := by
    rcases Nat.eq_zero_or_pos len with h | h
    · subst h; exact absurd (by simp) hne
    · exact h
  obtain ⟨b, off, rfl, hc⟩ := ints_at hcell (by omega)
  refine ⟨b, off, rfl, World.block_lt_of_cell? _ _ (hc 0 (by omega)), fun j hj => ?_⟩
  rw [hlen] at hj
  rw [hc j (by omega)]
  have : (zs.take len).getD j 0 = zs.getD j 0 := by simp [List.getD, hj]
  rw [this]

set_option maxRecDepth 100000 in
theorem chain_open {H : Type} {enc : TypeId × Value → H} {w : World} {r : Reach} {b0 base : Nat} {held : Bool} {v : Value} {d : DataW H} {p : List MemPlace}
    (hv : Value.okWide Try.prog w r b0 26 v) (h : DataW.Trod enc Try.prog w base (fun _ => true) held 26 v d p) :
    ∃ (ep : Int) (ao : Option Addr) (len cap : Nat) (L : List Int), v = .agg #[.int .i64 ep, .slice ao len cap] ∧ Ints w w.heap.size (.slice ao len cap) L := by
  obtain ⟨cs, rfl, hsz⟩ := okWide_struct Try.underlying26 hv
  rw [cells_Chain] at hsz
  obtain ⟨l⟩ := cs
  match l, hsz with
  | [x0, x1], _ =>
    obtain ⟨fuel, hf⟩ := h
    obtain ⟨xs, m, _, _, _, hxl, hg⟩ := DataW.trod_struct Try.underlying26 hf
    match xs, hxl with
    | [y0, y1], _ =>
      have h0 : DataW.trod enc Try.prog w base (fun _ => true) held m 3 [x0] = some y0 := by simpa [Value.cells, cells_int] using hg 0 _ rfl
      have h1 : DataW.trod enc Try.prog w base (fun _ => true) held m 24 [x1] = some y1 := by simpa [Value.cells, cells_ints] using hg 1 _ rfl
      obtain ⟨a0, e0, _, _⟩ := DataW.trod_int Try.underlying3 h0
      simp only [List.cons.injEq, and_true] at e0
      subst e0
      rcases open_ints Try.underlying24 Try.underlying3 (by kernel_rfl) h1 with ⟨hcs, _⟩ | ⟨x, l, c, zs, hcs, _, hl, hm, hz, _, hcell, _⟩
      · simp at hcs
        subst hcs
        exact ⟨a0, none, 0, 0, [], rfl, Ints.none _ _⟩
      · simp at hcs
        subst hcs
        obtain ⟨L, _, hI⟩ := ints_row hl hm (by simpa using hz) hcell
        exact ⟨a0, some x, l, c, L, rfl, hI⟩

end Go.Proofs.Ytiidmiioegdfaaa
