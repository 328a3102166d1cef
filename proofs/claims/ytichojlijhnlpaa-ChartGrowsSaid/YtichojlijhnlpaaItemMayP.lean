/-
  THE PROGRAM's MayReq, as a plain function of a request. No condition but that the request can be read.
-/
import Derived.Test.YtichojlijhnlpaaItemA
namespace Go.Proofs.Ytichojlijhnlpaa
open Go.RowKit

end Go.Proofs.Ytichojlijhnlpaa
