/-
  The law FnRuleOnly: facts over the whole program.
-/
import Derived.WalkKit
import Derived.ProofKit
import Derived.OpenShut
import Derived.ShutString
import Derived.ChangeOld
import Derived.SliceStrings
import Derived.Below
import Derived.LaidMore
import Derived.Stop.Joined
import Derived.SevenTiedAt
import Derived.Lib.LaidTab
import Derived.Test.YtemjooejfmkkbaaGreatDoorRows
import Derived.Test.YtemjooejfmkkbaaGreatDoorFA
import Derived.Test.YtemjooejfmkkbaaGreatDoorFB
namespace Go.Proofs.YtemjooejfmkkbaaGreatDoor.fnRuleOnly
open Go Go.ChangeShapes Go.WideShapes Go.ChangeAt Go.RowKit
set_option linter.unusedVariables false

theorem and2 {a b : Bool} (h : a = true) (k : b = true) : (a && b) = true := by rw [h, k]; rfl
theorem j0 : (Rows.fnRuleOnlyRow.wf (OpenSpec.ofChange Rows.fnRuleOnlySpec)) = true := by kernel_rfl
theorem j1 : (laidOutB Tryz.prog) = true := factLaid
theorem j2 : (mapsRowed Tryz.prog) = true := factMaps
theorem j3 : (Tryz.f8.params.all (Tryz.prog.readableRec ·)) = true := by kernel_rfl
theorem j4 : (namedTie Tryz.prog Rows.fnRuleOnlyRow.named Rows.fnRuleOnlySpec.vars) = true := by kernel_rfl
theorem j5 : ((Rows.fnRuleOnlyRow.stops == [])) = true := by kernel_rfl
theorem j6 : ((Tryz.prog.stops == [])) = true := factStops
theorem j7 : ((Rows.fnRuleOnlyRow.knobs == [])) = true := by kernel_rfl
theorem j8 : ((Tryz.prog.stopKnobs == [])) = true := factKnobs
theorem j9 : ((Rows.fnRuleOnlyRow.inPlace == Tryz.prog.inPlace 8)) = true := by kernel_rfl
theorem j10 : ((Rows.fnRuleOnlyRow.unfollowed == Tryz.prog.unfollowed 8)) = true := by kernel_rfl
theorem j11 : ((Rows.fnRuleOnlyRow.recurses == Tryz.prog.recurses 8)) = true := by kernel_rfl
theorem j12 : ((Rows.fnRuleOnlyRow.named == Tryz.prog.varsNamed 8)) = true := by kernel_rfl
theorem j13 : ((Rows.fnRuleOnlyRow.maps == (Tryz.f8.params.toList ++ Rows.fnRuleOnlySpec.plain.varTypes Tryz.prog).any (Tryz.prog.mapsRec ·))) = true := by kernel_rfl
theorem j14 : ((Rows.fnRuleOnlyRow.ifaces == (Tryz.f8.params.toList ++ Rows.fnRuleOnlySpec.plain.varTypes Tryz.prog).any (Tryz.prog.ifacesRec ·))) = true := by kernel_rfl
theorem j15 : ((Rows.fnRuleOnlyRow.mapsOut == Tryz.prog.mapsAmong Tryz.f8.resultTypes.toList)) = true := by kernel_rfl
theorem j16 : ((Rows.fnRuleOnlyRow.loops == (Tryz.f8.params.toList ++ Rows.fnRuleOnlySpec.plain.varTypes Tryz.prog).any (Tryz.prog.loopsFrom ·))) = true := by kernel_rfl
theorem j17 : ((Rows.fnRuleOnlyRow.wideKeys == (Tryz.f8.params.toList ++ Rows.fnRuleOnlySpec.plain.varTypes Tryz.prog ++ Tryz.f8.resultTypes.toList).any (Tryz.prog.wideKeysFrom ·))) = true := by kernel_rfl
theorem j18 : (Rows.fnRuleOnlySpec.vars.all (Tryz.prog.varReadable ·)) = true := by kernel_rfl
theorem j19 : (Tryz.f8.resultTypes.all (fun t => Tryz.prog.readableRec t && decide (t < Tryz.prog.types.size))) = true := by kernel_rfl
theorem j20 : ((Rows.fnRuleOnlyRow.ifacesOut == Tryz.f8.resultTypes.toList.any (Tryz.prog.ifacesRec ·))) = true := by kernel_rfl
theorem j21 : ((Rows.fnRuleOnlyRow.loopsOut == Tryz.f8.resultTypes.toList.any (Tryz.prog.loopsFrom ·))) = true := by kernel_rfl
theorem j22 : ((Rows.fnRuleOnlyRow.plainKeys == Tryz.prog.plainKeys)) = true := factPlain
theorem j23 : (Rows.fnRuleOnlyRow.shortTexts.isNone) = true := by kernel_rfl
theorem j24 : (Tryz.prog.stopsHeard) = true := factHeard
theorem j25 : (Tryz.prog.mayEnter) = true := factMay
theorem j26 : ((Rows.fnRuleOnlyRow.lifted == Tryz.prog.liftsFinal)) = true := factLifts
theorem j27 : ((Tryz.prog.make == some Rows.fnRuleOnlyRow.make)) = true := factMake
theorem j29 : ((Rows.fnRuleOnlyRow.pinned == Rows.fnRuleOnlyRow.pinnedBy)) = true := by kernel_rfl
theorem j30 : ((Rows.fnRuleOnlyRow.veiled == (Tryz.f8.params.toList ++ Rows.fnRuleOnlySpec.plain.varTypes Tryz.prog ++ Tryz.f8.resultTypes.toList).any (Tryz.prog.veiledRec ·))) = true := by kernel_rfl
theorem j31 : (Rows.fnRuleOnlyRow.veiledFits Tryz.prog Tryz.f8.params.toList (Tryz.f8.params.toList ++ Rows.fnRuleOnlySpec.plain.varTypes Tryz.prog ++ Tryz.f8.resultTypes.toList)) = true := by kernel_rfl
theorem closed : joinedFacts Tryz.prog 8 Tryz.f8 Rows.fnRuleOnlySpec Rows.fnRuleOnlyRow = true := by
  unfold joinedFacts
  refine and2 ?_ j31
  refine and2 ?_ j30
  refine and2 ?_ j29
  refine and2 ?_ (by kernel_rfl)
  refine and2 ?_ j27
  refine and2 ?_ j26
  refine and2 ?_ j25
  refine and2 ?_ j24
  refine and2 ?_ j23
  refine and2 ?_ j22
  refine and2 ?_ j21
  refine and2 ?_ j20
  refine and2 ?_ j19
  refine and2 ?_ j18
  refine and2 ?_ j17
  refine and2 ?_ j16
  refine and2 ?_ j15
  refine and2 ?_ j14
  refine and2 ?_ j13
  refine and2 ?_ j12
  refine and2 ?_ j11
  refine and2 ?_ j10
  refine and2 ?_ j9
  refine and2 ?_ j8
  refine and2 ?_ j7
  refine and2 ?_ j6
  refine and2 ?_ j5
  refine and2 ?_ j4
  refine and2 ?_ j3
  refine and2 ?_ j2
  refine and2 ?_ j1
  exact j0
theorem hfnT : Tryz.prog.funcNamed "loop.example/stopover/laws.FnRuleOnly" = some 8 := by kernel_rfl
theorem hinstT : Tryz.f8.isInstance Tryz.prog Rows.fnRuleOnlyRow.origin Rows.fnRuleOnlyRow.targs := of_decide_eq_true (by kernel_rfl)
theorem hwrapT : Tryz.f8.isWrapper Tryz.prog Rows.fnRuleOnlyRow.wrapper Rows.fnRuleOnlyRow.mainSum := by unfold Func.isWrapper; first | (rw [if_pos (by decide +kernel)]; kernel_rfl) | (rw [if_neg (by decide +kernel)]; exact ⟨rfl, rfl⟩)
theorem textT7 : Rows.fnRuleOnlyRow.wfByText (OpenSpec.ofChange Rows.fnRuleOnlySpec) = true := by kernel_rfl
theorem goesT : false = Rows.fnRuleOnlyRow.goesBy Tryz.prog := by kernel_rfl
end Go.Proofs.YtemjooejfmkkbaaGreatDoor.fnRuleOnly
