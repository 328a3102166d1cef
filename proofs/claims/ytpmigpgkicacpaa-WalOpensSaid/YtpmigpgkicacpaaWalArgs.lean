/-
  WHAT CAME IN: a slice of slices of bytes. No condition.
-/
import Derived.Test.YtpmigpgkicacpaaPackArgs
import Derived.Test.YtpmigpgkicacpaaWalT
import Derived.Deep.Slices
import Derived.Deep.Fields
namespace Go.Proofs.Ytpmigpgkicacpaa
open Go.ChangeShapes Go.WideShapes Go.ChangeAt Go.RowKit

theorem cells_bytes8 : Try.prog.cellsOf 22 = 1 := by kernel_rfl
theorem bytess_open {H : Type} {enc : TypeId × Value → H} {w : World} {a : Option Addr} {len cap : Nat} {d : DataW H} {p : List MemPlace} (h : DataW.Trod enc Try.prog w 0 (fun _ => true) true 27 (.slice a len cap) d p) :
    ∃ L, BytsAt w w.heap.size (.slice a len cap) L := by
  obtain ⟨fuel, hf⟩ := h
  rcases Go.Deep.open_slice Try.underlying27 hf with ⟨hcs, _⟩ | ⟨x, l, c, m, n, D, P1, hcs, _, hl, hm, hmm, _, hi⟩
  · simp [Value.cells] at hcs
    obtain ⟨rfl, rfl, rfl⟩ := hcs
    exact ⟨[], none, 0, rfl, Nat.le_refl _, Nat.zero_le _, fun h => absurd rfl h⟩
  · simp [Value.cells] at hcs
    obtain ⟨rfl, rfl, rfl⟩ := hcs
    have hml : len ≤ m := by rw [hmm]; split <;> omega
    have each : ∀ i, i < len → ∃ o : List UInt8, ∃ u, w.cell? (x.add i) = some u ∧ Byt w w.heap.size u o := by
      intro i hil
      obtain ⟨cs', hc, ht⟩ := hi i (by omega)
      rw [cells_bytes8, Nat.mul_one] at hc
      obtain ⟨_, hcl, hat⟩ := World.cells?_some hc
      match cs', hcl with
      | [c0], _ =>
        have hc0 := hat 0 (by simp)
        rw [Go.Deep.add_add] at hc0
        rcases open_ints Try.underlying22 Try.underlying5 (by kernel_rfl) ht with ⟨hcs, _⟩ | ⟨y, l', c', zs, hcs, _, hl', hm', hz, _, hcell, hwz⟩
        · simp only [List.cons.injEq, and_true] at hcs
          subst hcs
          exact ⟨[], _, by simpa using hc0, Byt.none _ _⟩
        · simp only [List.cons.injEq, and_true] at hcs
          subst hcs
          obtain ⟨l, _, hb⟩ := byt_row hl' hm' (by simpa using hz) hcell hwz
          exact ⟨l, _, by simpa using hc0, hb⟩
    obtain ⟨f, hF⟩ := Go.Deep.choose_lt each
    have hlen : ((List.range len).map f).length = len := by simp
    refine ⟨(List.range len).map f, some x, cap, by rw [hlen], by rw [hlen]; exact hl, hm, fun hne => ?_⟩
    have hpos : 0 < len := by
      rcases Nat.eq_zero_or_pos len with h | h
      · subst h; exact absurd rfl hne
      · exact h
    obtain ⟨b, off, spot⟩ := x
    obtain ⟨u0, hu0, _⟩ := hF 0 hpos
    have hspot : spot = none := by simpa [Addr.add] using World.cell?_spot hu0
    subst hspot
    rw [Addr.add_lit] at hu0
    refine ⟨b, off, rfl, World.block_lt_of_cell? _ _ hu0, fun i h => ?_⟩
    rw [hlen] at h
    obtain ⟨u, hu, hy⟩ := hF i h
    rw [Addr.add_lit] at hu
    have e : ((List.range len).map f).getD i [] = f i := by simp [List.getD, h]
    rw [e]
    exact ⟨u, hu, hy⟩
end Go.Proofs.Ytpmigpgkicacpaa
