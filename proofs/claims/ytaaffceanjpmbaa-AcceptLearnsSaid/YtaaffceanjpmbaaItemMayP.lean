/-
  THE PROGRAM's MayReq, as a plain function of a request. No condition but that the request can be read.
-/
import Derived.Test.YtaaffceanjpmbaaItemA
namespace Go.Proofs.Ytaaffceanjpmbaa
open Go.RowKit

end Go.Proofs.Ytaaffceanjpmbaa
