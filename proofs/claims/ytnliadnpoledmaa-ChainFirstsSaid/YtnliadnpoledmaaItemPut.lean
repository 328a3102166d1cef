/-
  THE PROGRAM's PutReq: nothing of a request that may not be, else its bytes. No condition but lengths.
-/
import Derived.Test.YtnliadnpoledmaaItemMayP
import Derived.Test.YtnliadnpoledmaaItemMath
namespace Go.Proofs.Ytnliadnpoledmaa
open Go.RowKit

theorem own_base {w : World} {base base' : Nat} {e : TypeId} {size : Nat} {v : Value} {n : Nat} {xs : List Value} (h : w.ownsRow base e size v n xs) (hb : base' ≤ base) : w.ownsRow base' e size v n xs := by
  refine ⟨h.1, ?_⟩
  rcases h.2 with h0 | ⟨r, cap, cur, rfl, hr, rest⟩
  · exact .inl h0
  · exact .inr ⟨r, cap, cur, rfl, by omega, rest⟩

end Go.Proofs.Ytnliadnpoledmaa
