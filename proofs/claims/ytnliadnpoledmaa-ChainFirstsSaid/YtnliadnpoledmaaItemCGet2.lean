/-
  THE PROGRAM's GetChain: the chain that the bytes are, or none. No condition but lengths.
-/
import Derived.Test.YtnliadnpoledmaaItemCGet
namespace Go.Proofs.Ytnliadnpoledmaa
open Go.RowKit

theorem own_grown {w w' : World} {base r : Nat} {e : TypeId} {size : Nat} {v : Value} {n : Nat} {xs : List Value} (h : w.ownsRow base e size v n xs) (hg : w.grownBy w' (some r)) (hr : r < base) : w'.ownsRow base e size v n xs := by
  refine ⟨h.1, ?_⟩
  rcases h.2 with hz | ⟨g, cap, cur, hv, hgb, hh, rest⟩
  · exact .inl hz
  · exact .inr ⟨g, cap, cur, hv, hgb, (hg.block g (lt_of_block hh) (fun e => by have := Option.some.inj e; omega)).trans hh, rest⟩
theorem own_below {w w' : World} {base : Nat} {e : TypeId} {size : Nat} {v : Value} {n : Nat} {xs : List Value} (h : w.ownsRow base e size v n xs) (hb : Below w.heap.size w w') : w'.ownsRow base e size v n xs := by
  refine ⟨h.1, ?_⟩
  rcases h.2 with hz | ⟨g, cap, cur, hv, hgb, hh, rest⟩
  · exact .inl hz
  · exact .inr ⟨g, cap, cur, hv, hgb, (hb.block g (lt_of_block hh)).trans hh, rest⟩

theorem size_Chain : (Try.prog.info? 25).map (·.size) = some 2 := by kernel_rfl

/-- A chain stored whole into a block that holds one. -/
theorem store_ch {ops : Array Oper} {rest : List Oper} {o : Oper} {a : Act} {w : World} {Q : Exit → Act → World → Prop} (hgd : o.guard = none) (x y : Operand) (ho : o.op = .store 25 x y)
    (g : Nat) (hx : a.eval x = .pointer (some ⟨g, 0, none⟩)) (ep : Int) (ao : Option Addr) (n cap : Nat) (hy : a.eval y = .agg #[.int .i64 ep, .slice ao n cap])
    {ep0 : Int} {v0 : Value} (hg : ChB w g ep0 v0)
    (h : ∀ w', ChB w' g ep (.slice ao n cap) → w.grownBy w' (some g) → wpList Try.prog ops Q rest (a.put o.dst undef) w') : wpList Try.prog ops Q (o :: rest) a w := by
  obtain ⟨e, hb⟩ := hg
  refine wpList_store_row hgd 25 x y ho g #[.int .i64 ep, .slice ao n cap] hx hy e _ hb size_Chain rfl (by simp [Value.oneCell']) (h _ ⟨e, ?_⟩ ?_)
  · exact setRow_heap w g _ _ e _ hb
  · exact ⟨rfl, rfl, rfl, by simp, fun k _ hk => setRow_other w g k _ (fun e => hk (by rw [e]))⟩

def progC : CBounds := ⟨1073741824, 5, 4⟩
theorem progC_wide : progC.wide := by unfold CBounds.wide progC; decide

end Go.Proofs.Ytnliadnpoledmaa
