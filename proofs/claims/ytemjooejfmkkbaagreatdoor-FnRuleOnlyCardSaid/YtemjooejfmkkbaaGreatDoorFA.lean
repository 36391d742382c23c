/-
  Facts over the whole program, the first part.
-/
import Derived.WalkKit
import Derived.ProofKit
import Derived.OpenShut
import Derived.ShutString
import Derived.ChangeOld
import Derived.SliceStrings
import Derived.Below
import Derived.LaidMore
import Derived.Stop.Joined
import Derived.SevenTiedAt
import Derived.Lib.LaidTab
import Derived.Test.YtemjooejfmkkbaaGreatDoorRows
namespace Go.Proofs.YtemjooejfmkkbaaGreatDoor
open Go Go.ChangeShapes Go.WideShapes Go.ChangeAt Go.RowKit
set_option linter.unusedVariables false

theorem factMay : (Tryz.prog.mayEnter) = true := by kernel_rfl
theorem factLaid : (laidOutB Tryz.prog) = true := by kernel_rfl
theorem factMaps : (mapsRowed Tryz.prog) = true := by kernel_rfl
theorem factMain : Tryz.prog.mainIs = some ((true, "a68a6e96f70b12b2f489a6b1cff52fedb2ceba9205bc9cdf18a6f335a4f18ac5").1, ((true, "a68a6e96f70b12b2f489a6b1cff52fedb2ceba9205bc9cdf18a6f335a4f18ac5") : Bool × String).2.toList) := by kernel_rfl
theorem factLooks : true = Tryz.prog.looks [] := by kernel_rfl
theorem factStand : (!Tryz.prog.wantsStandIn 47) = true := by kernel_rfl
theorem factPlain : ((Rows.fnRuleBoxRow.plainKeys == Tryz.prog.plainKeys)) = true := by kernel_rfl
theorem factOwn : ownKnob Tryz.prog.godebug = none := by kernel_rfl
end Go.Proofs.YtemjooejfmkkbaaGreatDoor
