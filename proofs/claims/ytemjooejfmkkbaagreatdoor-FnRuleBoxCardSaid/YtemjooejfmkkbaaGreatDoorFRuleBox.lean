/-
  The law FnRuleBox: facts over the whole program.
-/
import Derived.WalkKit
import Derived.ProofKit
import Derived.OpenShut
import Derived.ShutString
import Derived.ChangeOld
import Derived.SliceStrings
import Derived.Below
import Derived.LaidMore
import Derived.Stop.Joined
import Derived.SevenTiedAt
import Derived.Lib.LaidTab
import Derived.Test.YtemjooejfmkkbaaGreatDoorRows
import Derived.Test.YtemjooejfmkkbaaGreatDoorFA
import Derived.Test.YtemjooejfmkkbaaGreatDoorFB
namespace Go.Proofs.YtemjooejfmkkbaaGreatDoor.fnRuleBox
open Go Go.ChangeShapes Go.WideShapes Go.ChangeAt Go.RowKit
set_option linter.unusedVariables false

theorem and2 {a b : Bool} (h : a = true) (k : b = true) : (a && b) = true := by rw [h, k]; rfl
theorem j0 : (Rows.fnRuleBoxRow.wf (OpenSpec.ofChange Rows.fnRuleBoxSpec)) = true := by kernel_rfl
theorem j1 : (laidOutB Tryz.prog) = true := factLaid
theorem j2 : (mapsRowed Tryz.prog) = true := factMaps
theorem j3 : (Tryz.f9.params.all (Tryz.prog.readableRec ·)) = true := by kernel_rfl
theorem j4 : (namedTie Tryz.prog Rows.fnRuleBoxRow.named Rows.fnRuleBoxSpec.vars) = true := by kernel_rfl
theorem j5 : ((Rows.fnRuleBoxRow.stops == [])) = true := by kernel_rfl
theorem j6 : ((Tryz.prog.stops == [])) = true := factStops
theorem j7 : ((Rows.fnRuleBoxRow.knobs == [])) = true := by kernel_rfl
theorem j8 : ((Tryz.prog.stopKnobs == [])) = true := factKnobs
theorem j9 : ((Rows.fnRuleBoxRow.inPlace == Tryz.prog.inPlace 9)) = true := by kernel_rfl
theorem j10 : ((Rows.fnRuleBoxRow.unfollowed == Tryz.prog.unfollowed 9)) = true := by kernel_rfl
theorem j11 : ((Rows.fnRuleBoxRow.recurses == Tryz.prog.recurses 9)) = true := by kernel_rfl
theorem j12 : ((Rows.fnRuleBoxRow.named == Tryz.prog.varsNamed 9)) = true := by kernel_rfl
theorem j13 : ((Rows.fnRuleBoxRow.maps == (Tryz.f9.params.toList ++ Rows.fnRuleBoxSpec.plain.varTypes Tryz.prog).any (Tryz.prog.mapsRec ·))) = true := by kernel_rfl
theorem j14 : ((Rows.fnRuleBoxRow.ifaces == (Tryz.f9.params.toList ++ Rows.fnRuleBoxSpec.plain.varTypes Tryz.prog).any (Tryz.prog.ifacesRec ·))) = true := by kernel_rfl
theorem j15 : ((Rows.fnRuleBoxRow.mapsOut == Tryz.prog.mapsAmong Tryz.f9.resultTypes.toList)) = true := by kernel_rfl
theorem j16 : ((Rows.fnRuleBoxRow.loops == (Tryz.f9.params.toList ++ Rows.fnRuleBoxSpec.plain.varTypes Tryz.prog).any (Tryz.prog.loopsFrom ·))) = true := by kernel_rfl
theorem j17 : ((Rows.fnRuleBoxRow.wideKeys == (Tryz.f9.params.toList ++ Rows.fnRuleBoxSpec.plain.varTypes Tryz.prog ++ Tryz.f9.resultTypes.toList).any (Tryz.prog.wideKeysFrom ·))) = true := by kernel_rfl
theorem j18 : (Rows.fnRuleBoxSpec.vars.all (Tryz.prog.varReadable ·)) = true := by kernel_rfl
theorem j19 : (Tryz.f9.resultTypes.all (fun t => Tryz.prog.readableRec t && decide (t < Tryz.prog.types.size))) = true := by kernel_rfl
theorem j20 : ((Rows.fnRuleBoxRow.ifacesOut == Tryz.f9.resultTypes.toList.any (Tryz.prog.ifacesRec ·))) = true := by kernel_rfl
theorem j21 : ((Rows.fnRuleBoxRow.loopsOut == Tryz.f9.resultTypes.toList.any (Tryz.prog.loopsFrom ·))) = true := by kernel_rfl
theorem j22 : ((Rows.fnRuleBoxRow.plainKeys == Tryz.prog.plainKeys)) = true := factPlain
theorem j23 : (Rows.fnRuleBoxRow.shortTexts.isNone) = true := by kernel_rfl
theorem j24 : (Tryz.prog.stopsHeard) = true := factHeard
theorem j25 : (Tryz.prog.mayEnter) = true := factMay
theorem j26 : ((Rows.fnRuleBoxRow.lifted == Tryz.prog.liftsFinal)) = true := factLifts
theorem j27 : ((Tryz.prog.make == some Rows.fnRuleBoxRow.make)) = true := factMake
theorem j29 : ((Rows.fnRuleBoxRow.pinned == Rows.fnRuleBoxRow.pinnedBy)) = true := by kernel_rfl
theorem j30 : ((Rows.fnRuleBoxRow.veiled == (Tryz.f9.params.toList ++ Rows.fnRuleBoxSpec.plain.varTypes Tryz.prog ++ Tryz.f9.resultTypes.toList).any (Tryz.prog.veiledRec ·))) = true := by kernel_rfl
theorem j31 : (Rows.fnRuleBoxRow.veiledFits Tryz.prog Tryz.f9.params.toList (Tryz.f9.params.toList ++ Rows.fnRuleBoxSpec.plain.varTypes Tryz.prog ++ Tryz.f9.resultTypes.toList)) = true := by kernel_rfl
theorem closed : joinedFacts Tryz.prog 9 Tryz.f9 Rows.fnRuleBoxSpec Rows.fnRuleBoxRow = true := by
  unfold joinedFacts
  refine and2 ?_ j31
  refine and2 ?_ j30
  refine and2 ?_ j29
  refine and2 ?_ (by kernel_rfl)
  refine and2 ?_ j27
  refine and2 ?_ j26
  refine and2 ?_ j25
  refine and2 ?_ j24
  refine and2 ?_ j23
  refine and2 ?_ j22
  refine and2 ?_ j21
  refine and2 ?_ j20
  refine and2 ?_ j19
  refine and2 ?_ j18
  refine and2 ?_ j17
  refine and2 ?_ j16
  refine and2 ?_ j15
  refine and2 ?_ j14
  refine and2 ?_ j13
  refine and2 ?_ j12
  refine and2 ?_ j11
  refine and2 ?_ j10
  refine and2 ?_ j9
  refine and2 ?_ j8
  refine and2 ?_ j7
  refine and2 ?_ j6
  refine and2 ?_ j5
  refine and2 ?_ j4
  refine and2 ?_ j3
  refine and2 ?_ j2
  refine and2 ?_ j1
  exact j0
theorem hfnT : Tryz.prog.funcNamed "loop.example/stopover/laws.FnRuleBox" = some 9 := by kernel_rfl
theorem hinstT : Tryz.f9.isInstance Tryz.prog Rows.fnRuleBoxRow.origin Rows.fnRuleBoxRow.targs := of_decide_eq_true (by kernel_rfl)
theorem hwrapT : Tryz.f9.isWrapper Tryz.prog Rows.fnRuleBoxRow.wrapper Rows.fnRuleBoxRow.mainSum := by unfold Func.isWrapper; first | (rw [if_pos (by decide +kernel)]; kernel_rfl) | (rw [if_neg (by decide +kernel)]; exact ⟨rfl, rfl⟩)
theorem textT7 : Rows.fnRuleBoxRow.wfByText (OpenSpec.ofChange Rows.fnRuleBoxSpec) = true := by kernel_rfl
theorem goesT : false = Rows.fnRuleBoxRow.goesBy Tryz.prog := by kernel_rfl
end Go.Proofs.YtemjooejfmkkbaaGreatDoor.fnRuleBox
