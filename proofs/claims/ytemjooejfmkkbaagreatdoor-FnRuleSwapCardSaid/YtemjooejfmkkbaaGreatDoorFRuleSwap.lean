/-
  The law FnRuleSwap: facts over the whole program.
-/
import Derived.WalkKit
import Derived.ProofKit
import Derived.OpenShut
import Derived.ShutString
import Derived.ChangeOld
import Derived.SliceStrings
import Derived.Below
import Derived.LaidMore
import Derived.Stop.Joined
import Derived.SevenTiedAt
import Derived.Lib.LaidTab
import Derived.Test.YtemjooejfmkkbaaGreatDoorRows
import Derived.Test.YtemjooejfmkkbaaGreatDoorFA
import Derived.Test.YtemjooejfmkkbaaGreatDoorFB
namespace Go.Proofs.YtemjooejfmkkbaaGreatDoor.fnRuleSwap
open Go Go.ChangeShapes Go.WideShapes Go.ChangeAt Go.RowKit
set_option linter.unusedVariables false

theorem and2 {a b : Bool} (h : a = true) (k : b = true) : (a && b) = true := by rw [h, k]; rfl
theorem j0 : (Rows.fnRuleSwapRow.wf (OpenSpec.ofChange Rows.fnRuleSwapSpec)) = true := by kernel_rfl
theorem j1 : (laidOutB Tryz.prog) = true := factLaid
theorem j2 : (mapsRowed Tryz.prog) = true := factMaps
theorem j3 : (Tryz.f10.params.all (Tryz.prog.readableRec ·)) = true := by kernel_rfl
theorem j4 : (namedTie Tryz.prog Rows.fnRuleSwapRow.named Rows.fnRuleSwapSpec.vars) = true := by kernel_rfl
theorem j5 : ((Rows.fnRuleSwapRow.stops == [])) = true := by kernel_rfl
theorem j6 : ((Tryz.prog.stops == [])) = true := factStops
theorem j7 : ((Rows.fnRuleSwapRow.knobs == [])) = true := by kernel_rfl
theorem j8 : ((Tryz.prog.stopKnobs == [])) = true := factKnobs
theorem j9 : ((Rows.fnRuleSwapRow.inPlace == Tryz.prog.inPlace 10)) = true := by kernel_rfl
theorem j10 : ((Rows.fnRuleSwapRow.unfollowed == Tryz.prog.unfollowed 10)) = true := by kernel_rfl
theorem j11 : ((Rows.fnRuleSwapRow.recurses == Tryz.prog.recurses 10)) = true := by kernel_rfl
theorem j12 : ((Rows.fnRuleSwapRow.named == Tryz.prog.varsNamed 10)) = true := by kernel_rfl
theorem j13 : ((Rows.fnRuleSwapRow.maps == (Tryz.f10.params.toList ++ Rows.fnRuleSwapSpec.plain.varTypes Tryz.prog).any (Tryz.prog.mapsRec ·))) = true := by kernel_rfl
theorem j14 : ((Rows.fnRuleSwapRow.ifaces == (Tryz.f10.params.toList ++ Rows.fnRuleSwapSpec.plain.varTypes Tryz.prog).any (Tryz.prog.ifacesRec ·))) = true := by kernel_rfl
theorem j15 : ((Rows.fnRuleSwapRow.mapsOut == Tryz.prog.mapsAmong Tryz.f10.resultTypes.toList)) = true := by kernel_rfl
theorem j16 : ((Rows.fnRuleSwapRow.loops == (Tryz.f10.params.toList ++ Rows.fnRuleSwapSpec.plain.varTypes Tryz.prog).any (Tryz.prog.loopsFrom ·))) = true := by kernel_rfl
theorem j17 : ((Rows.fnRuleSwapRow.wideKeys == (Tryz.f10.params.toList ++ Rows.fnRuleSwapSpec.plain.varTypes Tryz.prog ++ Tryz.f10.resultTypes.toList).any (Tryz.prog.wideKeysFrom ·))) = true := by kernel_rfl
theorem j18 : (Rows.fnRuleSwapSpec.vars.all (Tryz.prog.varReadable ·)) = true := by kernel_rfl
theorem j19 : (Tryz.f10.resultTypes.all (fun t => Tryz.prog.readableRec t && decide (t < Tryz.prog.types.size))) = true := by kernel_rfl
theorem j20 : ((Rows.fnRuleSwapRow.ifacesOut == Tryz.f10.resultTypes.toList.any (Tryz.prog.ifacesRec ·))) = true := by kernel_rfl
theorem j21 : ((Rows.fnRuleSwapRow.loopsOut == Tryz.f10.resultTypes.toList.any (Tryz.prog.loopsFrom ·))) = true := by kernel_rfl
theorem j22 : ((Rows.fnRuleSwapRow.plainKeys == Tryz.prog.plainKeys)) = true := factPlain
theorem j23 : (Rows.fnRuleSwapRow.shortTexts.isNone) = true := by kernel_rfl
theorem j24 : (Tryz.prog.stopsHeard) = true := factHeard
theorem j25 : (Tryz.prog.mayEnter) = true := factMay
theorem j26 : ((Rows.fnRuleSwapRow.lifted == Tryz.prog.liftsFinal)) = true := factLifts
theorem j27 : ((Tryz.prog.make == some Rows.fnRuleSwapRow.make)) = true := factMake
theorem j29 : ((Rows.fnRuleSwapRow.pinned == Rows.fnRuleSwapRow.pinnedBy)) = true := by kernel_rfl
theorem j30 : ((Rows.fnRuleSwapRow.veiled == (Tryz.f10.params.toList ++ Rows.fnRuleSwapSpec.plain.varTypes Tryz.prog ++ Tryz.f10.resultTypes.toList).any (Tryz.prog.veiledRec ·))) = true := by kernel_rfl
theorem j31 : (Rows.fnRuleSwapRow.veiledFits Tryz.prog Tryz.f10.params.toList (Tryz.f10.params.toList ++ Rows.fnRuleSwapSpec.plain.varTypes Tryz.prog ++ Tryz.f10.resultTypes.toList)) = true := by kernel_rfl
theorem closed : joinedFacts Tryz.prog 10 Tryz.f10 Rows.fnRuleSwapSpec Rows.fnRuleSwapRow = true := by
  unfold joinedFacts
  refine and2 ?_ j31
  refine and2 ?_ j30
  refine and2 ?_ j29
  refine and2 ?_ (by kernel_rfl)
  refine and2 ?_ j27
  refine and2 ?_ j26
  refine and2 ?_ j25
  refine and2 ?_ j24
  refine and2 ?_ j23
  refine and2 ?_ j22
  refine and2 ?_ j21
  refine and2 ?_ j20
  refine and2 ?_ j19
  refine and2 ?_ j18
  refine and2 ?_ j17
  refine and2 ?_ j16
  refine and2 ?_ j15
  refine and2 ?_ j14
  refine and2 ?_ j13
  refine and2 ?_ j12
  refine and2 ?_ j11
  refine and2 ?_ j10
  refine and2 ?_ j9
  refine and2 ?_ j8
  refine and2 ?_ j7
  refine and2 ?_ j6
  refine and2 ?_ j5
  refine and2 ?_ j4
  refine and2 ?_ j3
  refine and2 ?_ j2
  refine and2 ?_ j1
  exact j0
theorem hfnT : Tryz.prog.funcNamed "loop.example/stopover/laws.FnRuleSwap" = some 10 := by kernel_rfl
theorem hinstT : Tryz.f10.isInstance Tryz.prog Rows.fnRuleSwapRow.origin Rows.fnRuleSwapRow.targs := of_decide_eq_true (by kernel_rfl)
theorem hwrapT : Tryz.f10.isWrapper Tryz.prog Rows.fnRuleSwapRow.wrapper Rows.fnRuleSwapRow.mainSum := by unfold Func.isWrapper; first | (rw [if_pos (by decide +kernel)]; kernel_rfl) | (rw [if_neg (by decide +kernel)]; exact ⟨rfl, rfl⟩)
theorem textT7 : Rows.fnRuleSwapRow.wfByText (OpenSpec.ofChange Rows.fnRuleSwapSpec) = true := by kernel_rfl
theorem goesT : false = Rows.fnRuleSwapRow.goesBy Tryz.prog := by kernel_rfl
end Go.Proofs.YtemjooejfmkkbaaGreatDoor.fnRuleSwap
