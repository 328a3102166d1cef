/-
  THE PROGRAM's MayReq, as a plain function of a request. No condition but that the request can be read.
-/
import Derived.Test.YtkieifkbkmdgdaaItemA
namespace Go.Proofs.Ytkieifkbkmdgdaa
open Go.RowKit

end Go.Proofs.Ytkieifkbkmdgdaa
