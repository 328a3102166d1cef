/-
  THE PROGRAM's With, Same, First. Of chains of at most a hundred nodes.
-/
import Derived.Test.YtaaffceanjpmbaaChainE
namespace Go.Proofs.Ytaaffceanjpmbaa
open Go.RowKit

theorem rowOn {w w' : World} {base : Nat} {e : TypeId} {size : Nat} {v : Value} {n : Nat} {xs : List Value} (h : w.ownsRow base e size v n xs) (hb : Below w.heap.size w w') : w'.ownsRow base e size v n xs :=
  h.kept (row := none) ⟨hb.os, hb.tape, hb.output, hb.size, fun k hk _ => hb.block k hk⟩ (by cases hv : v.ownBlock with | none => exact .inl rfl | some g => exact .inr (by simp))
theorem own_only {w w' : World} {base b : Nat} {e : TypeId} {size : Nat} {v : Value} {n : Nat} {xs : List Value} (h : w.ownsRow base e size v n xs) (ho : Only (· = b) w w') (hb : b < base) : w'.ownsRow base e size v n xs := by
  refine ⟨h.1, ?_⟩
  rcases h.2 with h0 | ⟨g, cap, cur, rfl, hg, hh, hr⟩
  · exact .inl h0
  · exact .inr ⟨g, cap, cur, rfl, hg, (ho.block g (lt_of_block hh) (fun e => by omega)).trans hh, hr⟩
/-- A chain's box stands. -/
def BoxC (b : Nat) (ep : Int) (v : Value) (u : World) : Prop := u.cell? ⟨b, 0, none⟩ = some (.int .i64 ep) ∧ u.cell? ⟨b, 1, none⟩ = some v
theorem BoxC.on {b : Nat} {ep : Int} {v : Value} {u u' : World} (h : BoxC b ep v u) (hb : Below u.heap.size u u') (hl : b < u.heap.size) : BoxC b ep v u' := ⟨(hb.cell hl).trans h.1, (hb.cell hl).trans h.2⟩

end Go.Proofs.Ytaaffceanjpmbaa
