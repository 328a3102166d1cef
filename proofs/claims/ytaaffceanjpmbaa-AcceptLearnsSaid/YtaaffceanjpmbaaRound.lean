/-
  A REGION OF A ROUND OF A RANGE OVER A FUNCTION, walked by the plain laws; what a round keeps. No condition but a wide fence, and no defer.
-/
import Derived.RangeFuncKeeps
import Derived.RangeFuncNested
import Derived.RangeFuncBound
import Derived.RangeFuncCalls
import Derived.RangeFuncLeaves
import Derived.RangeFuncBox
import Derived.Shelf.Abstract
import Derived.Shelf.RegionOpen
import Derived.WalkKit
import Derived.OwnWalkIn
import Derived.TacticsInMore
import Derived.LoopNIn
import Derived.LoopIn
import Derived.Maps.AppendAt
import Derived.Test.YtaaffceanjpmbaaHeld
namespace Go.Proofs.Ytaaffceanjpmbaa
open Go.RowKit Go.Shelf

attribute [local go_sem] Oper.semAt_some

/-! ### a region of a round, walked as outside -/
section
variable {P : Program} {ops : Array Oper} {Q : Exit → Act → World → Prop} {md : Region.Mode} {S : World → Prop}
theorem oper_round {o : Oper} {a : Act} {w : World} {K : Act → World → Prop} (l n : Nat) (hnd : ∀ c, o.op ≠ .defer c) (h : o.wp P a w K Q) : o.wpIn (Fence.wide.inRound l) n P a w K Q := by
  unfold Oper.wp at h
  unfold Oper.wpIn
  refine ⟨fun _ _ => trivial, ?_⟩
  rw [show (Fence.wide.inRound l).round = some l from rfl, Oper.semAt_some l _ _ hnd]
  have hd : (Fence.wide.inRound l).depth.isSome = true → 1 ≤ n := fun h => by cases h
  generalize (execOp a.eval o).run P w = r at h ⊢
  cases r with
  | ok x w' =>
    cases x <;> simp only [Oper.upon, Oper.uponIn] at h ⊢ <;>
      first
        | exact h
        | exact ⟨hd, CallsIn.inRound l (callsIn_wide.2 h)⟩
        | (refine ⟨hd, fun c cs _ => ?_⟩; obtain ⟨v, w'', hr, hs⟩ := h c cs; exact ⟨v, w'', hr, stepsIn_wide.2 hs⟩)
  | halt x w' => cases x <;> simp only [Oper.upon, Oper.uponIn] at h ⊢ <;> exact h
theorem wpAnyIn_of_plain (l n : Nat) (hnd : ∀ (i : Nat) o, ops[i]? = some o → ∀ c, o.op ≠ .defer c) (hQ : ¬ LetsOut Q) : ∀ (fuel : Nat) (listed : Array Bool) (a : Act) (w : World), wpAny P md ops Q fuel listed a w → wpAnyIn (Fence.wide.inRound l) n P md ops Q fuel listed a w
  | 0, _, _, _, h => h
  | fuel + 1, listed, a, w, h => ⟨h.1, fun i hi => by
      have hh := h.2 i hi
      unfold wpOp at hh
      unfold wpOpIn
      cases ho : ops[i]? with
      | none =>
        simp only [ho] at hh
        exact wpAnyIn_of_plain l n hnd hQ fuel _ _ _ hh
      | some o =>
        simp only [ho] at hh ⊢
        split
        · rename_i hw
          rw [if_pos hw] at hh
          rcases hh with hh | hh
          · exact oper_round l n (hnd i o ho) (Oper.wp_mono (fun a' w' h' => wpAnyIn_of_plain l n hnd hQ fuel _ _ _ h') hh)
          · exact absurd hh.2 hQ
        · rename_i hw
          rw [if_neg hw] at hh
          exact ⟨fun _ _ => trivial, wpAnyIn_of_plain l n hnd hQ fuel _ _ _ hh⟩⟩
theorem wpIn_region_held {id l n : Nat} {a : Act} {w : World} (hm : P.follows .mixedOrders = true) (hnd : ∀ (i : Nat) o, ops[i]? = some o → ∀ c, o.op ≠ .defer c) (hQ : ¬ LetsOut Q) (hS : S w.drew)
    (h : S w.drew → wpAnyH P .any ops Q S ops.size (Array.replicate ops.size false) a w.drew) : (Code.region id ops true).wpIn (Fence.wide.inRound l) n P Q a w :=
  wpIn_region_any hm (wpAnyIn_of_plain l n hnd hQ _ _ _ _ (wpAny_of_held _ _ _ _ (h hS)))
end

/-- What a round keeps: what lay below n₀, and block Bs. -/
def KeepB (n₀ Bs : Nat) (A C : World) : Prop := Below n₀ A C ∧ C.heap[Bs]? = A.heap[Bs]?
theorem KeepB.trans {n₀ Bs : Nat} {A C D : World} (h : KeepB n₀ Bs A C) (k : KeepB n₀ Bs C D) : KeepB n₀ Bs A D := ⟨h.1.trans k.1, k.2.trans h.2⟩
theorem KeepB.of {n₀ Bs : Nat} {A C : World} (h : Below A.heap.size A C) (hn : n₀ ≤ A.heap.size) (hb : Bs < A.heap.size) : KeepB n₀ Bs A C := ⟨h.mono hn, h.block Bs hb⟩
end Go.Proofs.Ytaaffceanjpmbaa
