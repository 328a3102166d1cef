/-
  A DISK IN MEMORY: its block and its row; New, Append, Sync, Len, Synced, what is copied; of nil. No condition but that lengths stay below 2^47.
-/
import Derived.Test.YtpcbpimlakehcaaPackBase
import Derived.Test.YtpcbpimlakehcaaPackQ
import Derived.Laws.CopyOwn
import Derived.Deep.QuietTactic
import Derived.BigQuiet
import Derived.Deep.RegionHeld3
namespace Go.Proofs.Ytpcbpimlakehcaa
open Go.RowKit

theorem ownsRow_on {w w' : World} {base : Nat} {e : TypeId} {size : Nat} {v : Value} {n : Nat} {xs : List Value} (h : w.ownsRow base e size v n xs) (hk : ∀ b, v.ownBlock = some b → w'.heap[b]? = w.heap[b]?) : w'.ownsRow base e size v n xs := by
  refine ⟨h.1, ?_⟩
  rcases h.2 with h0 | ⟨g, cap, cur, rfl, hr, hh, rest⟩
  · exact .inl h0
  · exact .inr ⟨g, cap, cur, rfl, hr, (hk g rfl).trans hh, rest⟩
theorem ownsRow_low {w : World} {base base' : Nat} {e : TypeId} {size : Nat} {v : Value} {n : Nat} {xs : List Value} (h : w.ownsRow base e size v n xs) (hb : base' ≤ base) : w.ownsRow base' e size v n xs := by
  refine ⟨h.1, ?_⟩
  rcases h.2 with h0 | ⟨g, cap, cur, rfl, hr, rest⟩
  · exact .inl h0
  · exact .inr ⟨g, cap, cur, rfl, by omega, rest⟩

/-- The blocks of a disk. -/
def dblks (g : Nat) (v : Value) (x : Nat) : Prop := x = g ∨ v.ownBlock = some x

section
variable {w w' : World} {n g : Nat} {v : Value} {xs : List UInt8} {k : Nat}
end

/-! ### of nil -/
end Go.Proofs.Ytpcbpimlakehcaa
