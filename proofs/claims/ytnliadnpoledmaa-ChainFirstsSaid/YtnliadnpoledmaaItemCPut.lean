/-
  THE PROGRAM's PutChain: nothing of a chain that may not be, else its bytes. No condition but that the chain can be read.
-/
import Derived.Test.YtnliadnpoledmaaItemCMay
namespace Go.Proofs.Ytnliadnpoledmaa
open Go.RowKit

theorem toNat_getD (L : List Int) (h : ∀ x ∈ L, 0 ≤ x) (j : Nat) : L.getD j 0 = (((L.map Int.toNat).getD j 0 : Nat) : Int) := by
  by_cases hj : j < L.length
  · simp only [List.getD, List.getElem?_map, List.getElem?_eq_getElem hj, Option.map_some, Option.getD_some]
    have := h L[j] (List.getElem_mem hj)
    omega
  · simp [List.getD, List.getElem?_eq_none (show L.length ≤ j by omega)]

/-- The bytes of a chain that may be. -/
def ChainV.bytes (c : ChainV) : List UInt8 := chainBytes c.epoch.toNat (c.nodes.map Int.toNat)

end Go.Proofs.Ytnliadnpoledmaa
