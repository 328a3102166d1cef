/-
  THE REFERENCE's Ints, SameChain, MayChain. No condition but that the values can be read.
-/
import Derived.Test.YthinedikgbbmoaaItemC
import Derived.Test.YthinedikgbbmoaaPackRef
import Derived.Deep.QuietTactic
import Derived.BigQuiet
namespace Go.Proofs.Ythinedikgbbmoaa
open Go.RowKit

end Go.Proofs.Ythinedikgbbmoaa
