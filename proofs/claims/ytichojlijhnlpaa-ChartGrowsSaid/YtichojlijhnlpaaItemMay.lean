/-
  THE REFERENCE'S MayReq, Writes, AND THE LAW'S few, as plain functions of a request. No condition but that the request can be read.
-/
import Derived.Test.YtichojlijhnlpaaItemV
namespace Go.Proofs.Ytichojlijhnlpaa
open Go.RowKit

end Go.Proofs.Ytichojlijhnlpaa
