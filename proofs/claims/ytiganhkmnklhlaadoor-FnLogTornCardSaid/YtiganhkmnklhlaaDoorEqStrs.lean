/-
  Two lists of texts that read the same are told to be the same.
-/
import Derived.Test.YtiganhkmnklhlaaDoorStrs
namespace Go.Proofs.YtiganhkmnklhlaaDoor
open Go.RowKit
set_option linter.unusedVariables false

end Go.Proofs.YtiganhkmnklhlaaDoor
