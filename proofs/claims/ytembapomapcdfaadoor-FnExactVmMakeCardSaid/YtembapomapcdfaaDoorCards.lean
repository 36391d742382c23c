/-
  DERIVED. GIVEN WITH THE SEED: THE CARDS: each row of YtembapomapcdfaaDoorRows.lean that lists a variable, with what it lists TIED to the program's text (the seventh form; the later family's looks); each row that meets fmt, with fmt's text TOLD by the authors' own Lean function (tested against real Go, not proved from fmt's source: count such statements apart). THE CARD IS WHAT COUNTS. Prove the row's statement (the work); the ties are given (YtembapomapcdfaaDoorTie.lean); close each card by the builder's one call (the guide's Derived/Test/ToyasCard.lean, 'card_holds'). Laid BY PROGRAM, IN A SANDBOX (cutbox-door.mjs). By AI agents, Wed Nov 11 2026. No macro, syntax, notation, axiom, sorry.
-/
import Derived.Test.YtembapomapcdfaaDoorRows
import GoSem.ClaimSeven
namespace Go.Proofs.YtembapomapcdfaaDoor
namespace Rows

/-- THE TIED CARD OF 'laws.FnExactRuleOk'. -/
def fnExactRuleOkCard : Claim7 := { stood := { row := fnExactRuleOkRow, standIns := [], harness := (true, "027fd056d4ec00ebadb61ebd161b6d0e562859cdb7883cbdc7b6d1685873788f"), looks := false }, kinds := [], alts := [], laidByText := true, laidKinds := [.data, .data, .data], laidTests := true, laidLooks := .later }
def FnExactRuleOkCardSaid : Prop := Claim7.holds Tryd.pinned (.plain (OpenSpec.ofChange fnExactRuleOkSpec)) fnExactRuleOkCard

/-- THE TIED CARD OF 'laws.FnExactRuleWrite'. -/
def fnExactRuleWriteCard : Claim7 := { stood := { row := fnExactRuleWriteRow, standIns := [], harness := (true, "027fd056d4ec00ebadb61ebd161b6d0e562859cdb7883cbdc7b6d1685873788f"), looks := false }, kinds := [], alts := [], laidByText := true, laidKinds := [.data, .data, .data], laidTests := true, laidLooks := .later }
def FnExactRuleWriteCardSaid : Prop := Claim7.holds Tryd.pinned (.plain (OpenSpec.ofChange fnExactRuleWriteSpec)) fnExactRuleWriteCard

/-- THE TIED CARD OF 'laws.FnExactRuleCost'. -/
def fnExactRuleCostCard : Claim7 := { stood := { row := fnExactRuleCostRow, standIns := [], harness := (true, "027fd056d4ec00ebadb61ebd161b6d0e562859cdb7883cbdc7b6d1685873788f"), looks := false }, kinds := [], alts := [], laidByText := true, laidKinds := [.data, .data, .data], laidTests := true, laidLooks := .later }
def FnExactRuleCostCardSaid : Prop := Claim7.holds Tryd.pinned (.plain (OpenSpec.ofChange fnExactRuleCostSpec)) fnExactRuleCostCard

/-- THE TIED CARD OF 'laws.FnExactVmMake'. -/
def fnExactVmMakeCard : Claim7 := { stood := { row := fnExactVmMakeRow, standIns := [], harness := (true, "027fd056d4ec00ebadb61ebd161b6d0e562859cdb7883cbdc7b6d1685873788f"), looks := false }, kinds := [], alts := [], laidByText := true, laidKinds := [.data, .data, .data], laidTests := true, laidLooks := .later }
def FnExactVmMakeCardSaid : Prop := Claim7.holds Tryd.pinned (.plain (OpenSpec.ofChange fnExactVmMakeSpec)) fnExactVmMakeCard

/-- THE TIED CARD OF 'laws.FnExactVmOk'. -/
def fnExactVmOkCard : Claim7 := { stood := { row := fnExactVmOkRow, standIns := [], harness := (true, "027fd056d4ec00ebadb61ebd161b6d0e562859cdb7883cbdc7b6d1685873788f"), looks := false }, kinds := [], alts := [], laidByText := true, laidKinds := [.data, .data, .data], laidTests := true, laidLooks := .later }
def FnExactVmOkCardSaid : Prop := Claim7.holds Tryd.pinned (.plain (OpenSpec.ofChange fnExactVmOkSpec)) fnExactVmOkCard

/-- THE TIED CARD OF 'laws.FnExactVmDeep'. -/
def fnExactVmDeepCard : Claim7 := { stood := { row := fnExactVmDeepRow, standIns := [], harness := (true, "027fd056d4ec00ebadb61ebd161b6d0e562859cdb7883cbdc7b6d1685873788f"), looks := false }, kinds := [], alts := [], laidByText := true, laidKinds := [.data, .data, .data], laidTests := true, laidLooks := .later }
def FnExactVmDeepCardSaid : Prop := Claim7.holds Tryd.pinned (.plain (OpenSpec.ofChange fnExactVmDeepSpec)) fnExactVmDeepCard

/-- THE TIED CARD OF 'laws.FnExactVmWrite'. -/
def fnExactVmWriteCard : Claim7 := { stood := { row := fnExactVmWriteRow, standIns := [], harness := (true, "027fd056d4ec00ebadb61ebd161b6d0e562859cdb7883cbdc7b6d1685873788f"), looks := false }, kinds := [], alts := [], laidByText := true, laidKinds := [.data, .data, .data], laidTests := true, laidLooks := .later }
def FnExactVmWriteCardSaid : Prop := Claim7.holds Tryd.pinned (.plain (OpenSpec.ofChange fnExactVmWriteSpec)) fnExactVmWriteCard

/-- THE SECOND FORM's CARD OF 'laws.FnExactRuleOk'. -/
def fnExactRuleOkUptoCard : Claim7 := { stood := { row := fnExactRuleOkUptoRow, standIns := [], harness := (true, "027fd056d4ec00ebadb61ebd161b6d0e562859cdb7883cbdc7b6d1685873788f"), looks := false }, kinds := [], alts := [], laidByText := true, laidKinds := [.data, .data, .data], laidTests := true, laidLooks := .later }
def FnExactRuleOkUptoCardSaid : Prop := Claim7.holds Tryd.pinned (.plain (OpenSpec.upto fnExactRuleOkSpec)) fnExactRuleOkUptoCard

/-- THE SECOND FORM's CARD OF 'laws.FnExactRuleWrite'. -/
def fnExactRuleWriteUptoCard : Claim7 := { stood := { row := fnExactRuleWriteUptoRow, standIns := [], harness := (true, "027fd056d4ec00ebadb61ebd161b6d0e562859cdb7883cbdc7b6d1685873788f"), looks := false }, kinds := [], alts := [], laidByText := true, laidKinds := [.data, .data, .data], laidTests := true, laidLooks := .later }
def FnExactRuleWriteUptoCardSaid : Prop := Claim7.holds Tryd.pinned (.plain (OpenSpec.upto fnExactRuleWriteSpec)) fnExactRuleWriteUptoCard

/-- THE SECOND FORM's CARD OF 'laws.FnExactRuleCost'. -/
def fnExactRuleCostUptoCard : Claim7 := { stood := { row := fnExactRuleCostUptoRow, standIns := [], harness := (true, "027fd056d4ec00ebadb61ebd161b6d0e562859cdb7883cbdc7b6d1685873788f"), looks := false }, kinds := [], alts := [], laidByText := true, laidKinds := [.data, .data, .data], laidTests := true, laidLooks := .later }
def FnExactRuleCostUptoCardSaid : Prop := Claim7.holds Tryd.pinned (.plain (OpenSpec.upto fnExactRuleCostSpec)) fnExactRuleCostUptoCard

/-- THE SECOND FORM's CARD OF 'laws.FnExactVmMake'. -/
def fnExactVmMakeUptoCard : Claim7 := { stood := { row := fnExactVmMakeUptoRow, standIns := [], harness := (true, "027fd056d4ec00ebadb61ebd161b6d0e562859cdb7883cbdc7b6d1685873788f"), looks := false }, kinds := [], alts := [], laidByText := true, laidKinds := [.data, .data, .data], laidTests := true, laidLooks := .later }
def FnExactVmMakeUptoCardSaid : Prop := Claim7.holds Tryd.pinned (.plain (OpenSpec.upto fnExactVmMakeSpec)) fnExactVmMakeUptoCard

/-- THE SECOND FORM's CARD OF 'laws.FnExactVmOk'. -/
def fnExactVmOkUptoCard : Claim7 := { stood := { row := fnExactVmOkUptoRow, standIns := [], harness := (true, "027fd056d4ec00ebadb61ebd161b6d0e562859cdb7883cbdc7b6d1685873788f"), looks := false }, kinds := [], alts := [], laidByText := true, laidKinds := [.data, .data, .data], laidTests := true, laidLooks := .later }
def FnExactVmOkUptoCardSaid : Prop := Claim7.holds Tryd.pinned (.plain (OpenSpec.upto fnExactVmOkSpec)) fnExactVmOkUptoCard

/-- THE SECOND FORM's CARD OF 'laws.FnExactVmDeep'. -/
def fnExactVmDeepUptoCard : Claim7 := { stood := { row := fnExactVmDeepUptoRow, standIns := [], harness := (true, "027fd056d4ec00ebadb61ebd161b6d0e562859cdb7883cbdc7b6d1685873788f"), looks := false }, kinds := [], alts := [], laidByText := true, laidKinds := [.data, .data, .data], laidTests := true, laidLooks := .later }
def FnExactVmDeepUptoCardSaid : Prop := Claim7.holds Tryd.pinned (.plain (OpenSpec.upto fnExactVmDeepSpec)) fnExactVmDeepUptoCard

/-- THE SECOND FORM's CARD OF 'laws.FnExactVmWrite'. -/
def fnExactVmWriteUptoCard : Claim7 := { stood := { row := fnExactVmWriteUptoRow, standIns := [], harness := (true, "027fd056d4ec00ebadb61ebd161b6d0e562859cdb7883cbdc7b6d1685873788f"), looks := false }, kinds := [], alts := [], laidByText := true, laidKinds := [.data, .data, .data], laidTests := true, laidLooks := .later }
def FnExactVmWriteUptoCardSaid : Prop := Claim7.holds Tryd.pinned (.plain (OpenSpec.upto fnExactVmWriteSpec)) fnExactVmWriteUptoCard
end Rows
end Go.Proofs.YtembapomapcdfaaDoor
