/-
  A text that is a mark.
-/
import Derived.Test.YtjphjnopdlfplaaGreatDoorDecN
import Derived.Test.YtjphjnopdlfplaaGreatDoorItoaN
namespace Go.Proofs.YtjphjnopdlfplaaGreatDoor
open Go.RowKit
set_option linter.unusedVariables false

end Go.Proofs.YtjphjnopdlfplaaGreatDoor
