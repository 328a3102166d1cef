/-
  THE PROGRAM's SMALL TESTS: isWithin, mayData, mayMatch, Writes, and the law's few. No condition but that the request can be read.
-/
import Derived.Test.YtichojlijhnlpaaItemV
namespace Go.Proofs.Ytichojlijhnlpaa
open Go.RowKit

end Go.Proofs.Ytichojlijhnlpaa
