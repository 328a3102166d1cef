/-
  THE REFERENCE'S READER: Num when it is wrong, Text, Yes, End behind any calls, each as the same plain function as the program's own. No condition but lengths.
-/
import Derived.Test.YtaaffceanjpmbaaPackRef
namespace Go.Proofs.Ytaaffceanjpmbaa
open Go.RowKit

theorem rNum_len (M : Nat) (st : Option (List UInt8)) (b : Nat) (hm : ∀ l, st = some l → l.length ≤ b) : ∀ l, (rNum M st).2 = some l → l.length ≤ b := by
  intro l hl
  cases st with
  | none => simp [rNum] at hl
  | some l0 =>
    simp only [rNum] at hl
    split at hl
    · cases hl
    · split at hl
      · simp only [Option.some.injEq] at hl
        subst hl
        have := hm l0 rfl
        simp; omega
      · cases hl

end Go.Proofs.Ytaaffceanjpmbaa
