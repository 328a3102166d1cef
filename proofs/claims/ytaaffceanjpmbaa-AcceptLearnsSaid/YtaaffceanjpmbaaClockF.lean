/-
  CLOCKS AS PLAIN DATA: which ticks and rounds may be, what they make; the program's calls told so; Fair. No condition but that lists are no longer than lists may be.
-/
import Derived.Test.YtaaffceanjpmbaaClockV
namespace Go.Proofs.Ytaaffceanjpmbaa
open Go.RowKit

/-- What clocks show, and how often each ticked since the last Round. -/
structure CkS where
  f : Nat → Nat
  g : Nat → Nat
def CkS.zero : CkS := ⟨fun _ => 0, fun _ => 0⟩
def canT (n : Nat) (s : CkS) (k : Int) : Bool := decide (0 ≤ k ∧ k < (n : Int) ∧ s.g k.toNat ≤ 1)
def tickS (n : Nat) (s : CkS) (k : Int) : CkS := if canT n s k then ⟨upF s.f k.toNat (s.f k.toNat + 1), upF s.g k.toNat (s.g k.toNat + 1)⟩ else s
def canR (n : Nat) (s : CkS) : Bool := decide (¬ ∃ j, j < n ∧ s.g j = 0)
def roundS (n : Nat) (s : CkS) : CkS := if canR n s then ⟨s.f, fun _ => 0⟩ else s
def stepS (n : Nat) (s : CkS) (k : Int) : Option CkS := if canT n s k then some (tickS n s k) else if canR n s then (if canT n (roundS n s) k then some (tickS n (roundS n s) k) else none) else none
def fairS (n : Nat) : CkS → List Int → Bool
  | _, [] => true
  | s, k :: r => match stepS n s k with
    | none => false
    | some s' => fairS n s' r
/-- May such clocks tick in this order? -/
def fairV (n : Int) (L : List Int) : Bool := if 1 ≤ n ∧ n ≤ 9 then fairS n.toNat .zero L else false
/-- No clock shows more. -/
def CkS.upto (s : CkS) (m : Nat) : Prop := ∀ j, s.f j ≤ m
theorem upto_zero : CkS.zero.upto 0 := fun _ => Nat.le_refl _
theorem CkS.upto.mono {s : CkS} {m m' : Nat} (h : s.upto m) (hm : m ≤ m') : s.upto m' := fun j => Nat.le_trans (h j) hm
theorem CkS.upto.tick {n : Nat} {s : CkS} {m : Nat} (h : s.upto m) (k : Int) : (tickS n s k).upto (m + 1) := by
  intro j
  unfold tickS
  split
  · show upF _ _ _ j ≤ _
    unfold upF
    split
    · have := h k.toNat; omega
    · have := h j; omega
  · have := h j; omega
theorem CkS.upto.round {n : Nat} {s : CkS} {m : Nat} (h : s.upto m) : (roundS n s).upto m := by
  intro j
  unfold roundS
  split
  · exact h j
  · exact h j
theorem CkS.upto.step {n : Nat} {s s' : CkS} {m : Nat} (h : s.upto m) {k : Int} (hs : stepS n s k = some s') : s'.upto (m + 1) := by
  unfold stepS at hs
  split at hs
  · cases hs; exact h.tick k
  · split at hs
    · split at hs
      · cases hs; exact h.round.tick k
      · cases hs
    · cases hs
theorem fairS_step (n : Nat) (s : CkS) (L : List Int) (k : Nat) (hk : k < L.length) : fairS n s (L.drop k) = match stepS n s (L.getD k 0) with | none => false | some s' => fairS n s' (L.drop (k + 1)) := by
  rw [List.drop_eq_getElem_cons hk]
  simp only [fairS, List.getD_eq_getElem?_getD, List.getElem?_eq_getElem hk, Option.getD_some]

section
variable {w : World} {b n : Nat} {s : CkS}
end

end Go.Proofs.Ytaaffceanjpmbaa
