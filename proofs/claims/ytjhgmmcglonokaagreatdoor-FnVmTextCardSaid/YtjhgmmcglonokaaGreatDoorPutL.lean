/-
  Values laid one behind the other, into a list and into a block.
-/
import Derived.Test.YtjhgmmcglonokaaGreatDoorJ1
import Derived.OwnWalk
namespace Go.Proofs.YtjhgmmcglonokaaGreatDoor
open Go.RowKit
set_option linter.unusedVariables false
set_option linter.unusedSimpArgs false

end Go.Proofs.YtjhgmmcglonokaaGreatDoor
