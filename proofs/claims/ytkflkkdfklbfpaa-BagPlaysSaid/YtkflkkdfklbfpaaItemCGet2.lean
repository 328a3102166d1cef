/-
  THE PROGRAM's GetChain: the chain that the bytes are, or none. No condition but lengths.
-/
import Derived.Test.YtkflkkdfklbfpaaItemCGet
namespace Go.Proofs.Ytkflkkdfklbfpaa
open Go.RowKit

theorem own_grown {w w' : World} {base r : Nat} {e : TypeId} {size : Nat} {v : Value} {n : Nat} {xs : List Value} (h : w.ownsRow base e size v n xs) (hg : w.grownBy w' (some r)) (hr : r < base) : w'.ownsRow base e size v n xs := by
  refine ⟨h.1, ?_⟩
  rcases h.2 with hz | ⟨g, cap, cur, hv, hgb, hh, rest⟩
  · exact .inl hz
  · exact .inr ⟨g, cap, cur, hv, hgb, (hg.block g (lt_of_block hh) (fun e => by have := Option.some.inj e; omega)).trans hh, rest⟩
theorem own_below {w w' : World} {base : Nat} {e : TypeId} {size : Nat} {v : Value} {n : Nat} {xs : List Value} (h : w.ownsRow base e size v n xs) (hb : Below w.heap.size w w') : w'.ownsRow base e size v n xs := by
  refine ⟨h.1, ?_⟩
  rcases h.2 with hz | ⟨g, cap, cur, hv, hgb, hh, rest⟩
  · exact .inl hz
  · exact .inr ⟨g, cap, cur, hv, hgb, (hb.block g (lt_of_block hh)).trans hh, rest⟩

def progC : CBounds := ⟨1073741824, 5, 4⟩
theorem progC_wide : progC.wide := by unfold CBounds.wide progC; decide

end Go.Proofs.Ytkflkkdfklbfpaa
