/-
  THE REFERENCE's MayReq AND Writes, as plain functions of a request. No condition but that the request can be read.
-/
import Derived.Test.YtichojlijhnlpaaItemMay
namespace Go.Proofs.Ytichojlijhnlpaa
open Go.RowKit

end Go.Proofs.Ytichojlijhnlpaa
