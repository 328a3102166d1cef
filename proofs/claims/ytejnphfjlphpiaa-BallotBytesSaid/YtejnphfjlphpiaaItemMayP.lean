/-
  THE PROGRAM's MayReq, as a plain function of a request. No condition but that the request can be read.
-/
import Derived.Test.YtejnphfjlphpiaaItemA
namespace Go.Proofs.Ytejnphfjlphpiaa
open Go.RowKit

end Go.Proofs.Ytejnphfjlphpiaa
