/-
  Facts over the whole program, the second part.
-/
import Derived.WalkKit
import Derived.ProofKit
import Derived.OpenShut
import Derived.ShutString
import Derived.ChangeOld
import Derived.SliceStrings
import Derived.Below
import Derived.LaidMore
import Derived.Stop.Joined
import Derived.SevenTiedAt
import Derived.Lib.LaidTab
import Derived.Test.YtemjooejfmkkbaaGreatDoorRows
namespace Go.Proofs.YtemjooejfmkkbaaGreatDoor
open Go Go.ChangeShapes Go.WideShapes Go.ChangeAt Go.RowKit
set_option linter.unusedVariables false

theorem factLifts : ((Rows.fnRuleBoxRow.lifted == Tryz.prog.liftsFinal)) = true := by kernel_rfl
theorem factMake : ((Tryz.prog.make == some Rows.fnRuleBoxRow.make)) = true := by kernel_rfl
theorem factHeard : (Tryz.prog.stopsHeard) = true := by kernel_rfl
theorem factStops : ((Tryz.prog.stops == [])) = true := by kernel_rfl
theorem factKnobs : ((Tryz.prog.stopKnobs == [])) = true := by kernel_rfl
end Go.Proofs.YtemjooejfmkkbaaGreatDoor
