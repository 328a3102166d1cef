/-
  WHAT A READER DOES: firstNum, isWrong, Num, Text, Yes, End behind any calls, each as a plain function of what is left. No condition but that lengths stay below 2^47.
-/
import Derived.Test.YtnliadnpoledmaaPackR
import Derived.Test.YtnliadnpoledmaaPackMath
namespace Go.Proofs.Ytnliadnpoledmaa
open Go.RowKit

def rNum (most : Nat) : Option (List UInt8) → Nat × Option (List UInt8)
  | none => (0, none)
  | some l => match numAt 0 0 l with
    | none => (0, none)
    | some x => if x.1 ≤ most then (x.1, some (l.drop x.2)) else (0, none)

def rTextOf : Nat × Option (List UInt8) → List UInt8 × Option (List UInt8)
  | (_, none) => ([], none)
  | (n, some l) => if n ≤ l.length then (l.take n, some (l.drop n)) else ([], none)
def rText (most : Nat) (st : Option (List UInt8)) : List UInt8 × Option (List UInt8) := rTextOf (rNum most st)
def rYes (st : Option (List UInt8)) : Bool × Option (List UInt8) := (decide ((rNum 1 st).1 = 1), (rNum 1 st).2)
def rEnd : Option (List UInt8) → Int
  | none => 2
  | some [] => 0
  | some (_ :: _) => 9

theorem ret_fn {a b c d : Int} (h1 : a = c) (h2 : b = d) : Ending.returned (.tuple #[.int .u64 a, .int .i64 b]) = .returned (.tuple #[.int .u64 c, .int .i64 d]) := by rw [h1, h2]

end Go.Proofs.Ytnliadnpoledmaa
