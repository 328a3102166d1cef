/-
  THE PROGRAM's MayReq, as a plain function of a request. No condition but that the request can be read.
-/
import Derived.Test.YtnliadnpoledmaaItemA
namespace Go.Proofs.Ytnliadnpoledmaa
open Go.RowKit

end Go.Proofs.Ytnliadnpoledmaa
