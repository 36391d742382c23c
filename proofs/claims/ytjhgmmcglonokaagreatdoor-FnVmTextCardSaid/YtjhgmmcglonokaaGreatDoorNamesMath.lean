/-
  Names of a rule: put in order one by one, or sorted and left once; the same list.
-/
import Derived.Test.YtjhgmmcglonokaaGreatDoorRuleMath
import Derived.Lib.SlicesCompact
namespace Go.Proofs.YtjhgmmcglonokaaGreatDoor
open Go.RowKit
set_option linter.unusedVariables false
set_option linter.unusedSimpArgs false

end Go.Proofs.YtjhgmmcglonokaaGreatDoor
