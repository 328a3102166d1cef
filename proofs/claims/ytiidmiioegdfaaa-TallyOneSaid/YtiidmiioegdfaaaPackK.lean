/-
  WHAT A WRITER DOES, with one word more: whatever is no cells lies as it lay, but rows of bytes. No condition but that the bytes stay below 2^47.
-/
import Derived.Test.YtiidmiioegdfaaaPackQ
import Derived.RangeFuncOwn
namespace Go.Proofs.Ytiidmiioegdfaaa
open Go.RowKit

/-- All blocks but g and rows of bytes are as they were. -/
structure KeepU (g : Nat) (w w' : World) : Prop where
  size : w.heap.size ≤ w'.heap.size
  same : ∀ (k : Nat) (o : Obj), w.heap[k]? = some o → k ≠ g → (∀ cs fr, o ≠ .cells cs 5 fr) → w'.heap[k]? = some o
theorem KeepU.refl (g : Nat) (w : World) : KeepU g w w := ⟨Nat.le_refl _, fun _ _ h _ _ => h⟩
theorem KeepU.trans {g : Nat} {a b c : World} (h : KeepU g a b) (k : KeepU g b c) : KeepU g a c := ⟨Nat.le_trans h.size k.size, fun i o hi hg ho => k.same i o (h.same i o hi hg ho) hg ho⟩
theorem KeepU.alloc (g : Nat) (w : World) (o : Obj) : KeepU g w (w.alloc o) := ⟨by simp, fun k _ hk _ _ => (Below.heap_alloc w o k (Array.getElem?_eq_some_iff.1 hk).1).trans hk⟩
theorem KeepU.setCell (g o : Nat) (w : World) (v : Value) : KeepU g w (w.setCell ⟨g, o, none⟩ v) := ⟨by simp [World.setCell], fun k _ hk hg _ => (Below.heap_setCell _ _ _ _ hg).trans hk⟩
theorem grown_keeps {W w1 : World} {base n g : Nat} {v : Value} {xs : List Value} (hr : W.ownsRow base 5 1 v n xs) (hg : W.grownBy w1 v.ownBlock) : KeepU g W w1 :=
  ⟨hg.size, fun k o hk _ ho => by
    refine (hg.block k (Array.getElem?_eq_some_iff.1 hk).1 ?_).trans hk
    intro e
    rcases hr.2 with ⟨rfl, _⟩ | ⟨r, cap, cur, rfl, _, hgb, _⟩
    · simp [Value.ownBlock] at e
    · obtain rfl : k = r := by simpa [Value.ownBlock] using e
      rw [hk] at hgb
      exact ho _ _ (Option.some.inj hgb)⟩
/-- What is no cells lies as it lay, if g is cells. -/
theorem KeepU.others {g : Nat} {w w' : World} (h : KeepU g w w') {cs : Array Value} {e : TypeId} {fr : Nat × Nat} (hg : w.heap[g]? = some (.cells cs e fr)) : KeepsOthers w w' :=
  ⟨h.size, fun k o hk ho => h.same k o hk (fun e => by subst e; rw [hg] at hk; cases hk; cases ho) (fun cs fr e => by subst e; cases ho)⟩

end Go.Proofs.Ytiidmiioegdfaaa
