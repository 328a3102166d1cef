/-
  THE PROGRAM's MayReq, as a plain function of a request. No condition but that the request can be read.
-/
import Derived.Test.YtkflkkdfklbfpaaItemA
namespace Go.Proofs.Ytkflkkdfklbfpaa
open Go.RowKit

end Go.Proofs.Ytkflkkdfklbfpaa
