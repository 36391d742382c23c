/-
  DERIVED. GIVEN WITH THE SEED: THE CARDS: each row of YtembapomapcdfaaGreatDoorRows.lean that lists a variable, with what it lists TIED to the program's text (the seventh form; the later family's looks); each row that meets fmt, with fmt's text TOLD by the authors' own Lean function (tested against real Go, not proved from fmt's source: count such statements apart). THE CARD IS WHAT COUNTS. Prove the row's statement (the work); the ties are given (YtembapomapcdfaaGreatDoorTie.lean); close each card by the builder's one call (the guide's Derived/Test/ToyasCard.lean, 'card_holds'). Laid BY PROGRAM, IN A SANDBOX (cutbox-door.mjs). By AI agents, Wed Nov 11 2026. No macro, syntax, notation, axiom, sorry.
-/
import Derived.Test.YtembapomapcdfaaGreatDoorRows
import GoSem.ClaimSeven
namespace Go.Proofs.YtembapomapcdfaaGreatDoor
namespace Rows

/-- THE TIED CARD OF 'laws.FnExactRuleOf'. -/
def fnExactRuleOfCard : Claim7 := { stood := { row := fnExactRuleOfRow, standIns := [], harness := (true, "37d95131b087eb3e6b20a6d347cab65384aa733d87c030e075555eee9fffaedd"), looks := false }, kinds := [], alts := [], laidByText := true, laidKinds := [.data, .data, .data], laidTests := true, laidLooks := .later }
def FnExactRuleOfCardSaid : Prop := Claim7.holds Tryz.pinned (.plain (OpenSpec.ofChange fnExactRuleOfSpec)) fnExactRuleOfCard

/-- THE TIED CARD OF 'laws.FnExactVmRun'. -/
def fnExactVmRunCard : Claim7 := { stood := { row := fnExactVmRunRow, standIns := [], harness := (true, "37d95131b087eb3e6b20a6d347cab65384aa733d87c030e075555eee9fffaedd"), looks := false }, kinds := [], alts := [], laidByText := true, laidKinds := [.data, .data, .data], laidTests := true, laidLooks := .later }
def FnExactVmRunCardSaid : Prop := Claim7.holds Tryz.pinned (.plain (OpenSpec.ofChange fnExactVmRunSpec)) fnExactVmRunCard

/-- THE SECOND FORM's CARD OF 'laws.FnExactRuleOf'. -/
def fnExactRuleOfUptoCard : Claim7 := { stood := { row := fnExactRuleOfUptoRow, standIns := [], harness := (true, "37d95131b087eb3e6b20a6d347cab65384aa733d87c030e075555eee9fffaedd"), looks := false }, kinds := [], alts := [], laidByText := true, laidKinds := [.data, .data, .data], laidTests := true, laidLooks := .later }
def FnExactRuleOfUptoCardSaid : Prop := Claim7.holds Tryz.pinned (.plain (OpenSpec.upto fnExactRuleOfSpec)) fnExactRuleOfUptoCard

/-- THE SECOND FORM's CARD OF 'laws.FnExactVmRun'. -/
def fnExactVmRunUptoCard : Claim7 := { stood := { row := fnExactVmRunUptoRow, standIns := [], harness := (true, "37d95131b087eb3e6b20a6d347cab65384aa733d87c030e075555eee9fffaedd"), looks := false }, kinds := [], alts := [], laidByText := true, laidKinds := [.data, .data, .data], laidTests := true, laidLooks := .later }
def FnExactVmRunUptoCardSaid : Prop := Claim7.holds Tryz.pinned (.plain (OpenSpec.upto fnExactVmRunSpec)) fnExactVmRunUptoCard
end Rows
end Go.Proofs.YtembapomapcdfaaGreatDoor
