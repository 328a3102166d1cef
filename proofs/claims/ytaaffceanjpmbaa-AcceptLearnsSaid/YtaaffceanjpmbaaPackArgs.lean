/-
  A SLICE OF BYTES THAT CAME IN, AS A LIST OF BYTES. No condition.
-/
import Derived.Test.YtaaffceanjpmbaaPackR
import Derived.ProofKit
import Derived.OpenShut
import Derived.ShutString
import Derived.ChangeOld
namespace Go.Proofs.Ytaaffceanjpmbaa
open Go.ChangeShapes Go.WideShapes Go.ChangeAt Go.RowKit

theorem own : ownKnob Try.prog.godebug = none := by kernel_rfl
theorem laidOut : laidOutB Try.prog = true := by kernel_rfl

theorem byt_row {W : World} {a : Addr} {len cap : Nat} {zs : List Int} (hl : len ≤ cap) (hm : cap ≤ maxLen) (hz : zs.length = cap) (hcell : ∀ i, i < zs.length → W.cell? (a.add i) = some (.int .u8 (zs.getD i 0)))
    (hwz : ∀ n ∈ zs, (Lit.int .u8 n).wf = true) : ∃ l, l.length = len ∧ Byt W W.heap.size (.slice (some a) len cap) l := by
  have hlen : ((zs.take len).map fun z => UInt8.ofNat z.toNat).length = len := by rw [List.length_map, List.length_take]; omega
  refine ⟨(zs.take len).map fun z => UInt8.ofNat z.toNat, hlen, some a, cap, by rw [hlen], by omega, hm, fun e => by simp at e, fun hne => ?_⟩
  have hpos : 0 < len := by
    rcases Nat.eq_zero_or_pos len with h | h
    · subst h; exact absurd (by simp) hne
    · exact h
  obtain ⟨b, off, rfl, hc⟩ := ints_at hcell (by omega)
  refine ⟨b, off, rfl, World.block_lt_of_cell? _ _ (hc 0 (by omega)), fun j hj => ?_⟩
  rw [hlen] at hj
  have hj' : j < zs.length := by omega
  have hb := bounds_u8 (hwz zs[j] (List.getElem_mem hj'))
  rw [hc j hj']
  have e : ((zs.take len).map fun z => UInt8.ofNat z.toNat).getD j 0 = UInt8.ofNat zs[j].toNat := by
    simp [List.getD, hj, hj']
  rw [e]
  have e2 : zs.getD j 0 = zs[j] := by simp [List.getD, hj']
  rw [e2]
  congr 2
  simp
  omega
end Go.Proofs.Ytaaffceanjpmbaa
