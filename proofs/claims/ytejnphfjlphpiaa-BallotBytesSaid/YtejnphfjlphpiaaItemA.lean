/-
  THE PROGRAM's SMALL TESTS: isWithin, mayData, mayMatch, Writes, and the law's few. No condition but that the request can be read.
-/
import Derived.Test.YtejnphfjlphpiaaItemV
namespace Go.Proofs.Ytejnphfjlphpiaa
open Go.RowKit

end Go.Proofs.Ytejnphfjlphpiaa
