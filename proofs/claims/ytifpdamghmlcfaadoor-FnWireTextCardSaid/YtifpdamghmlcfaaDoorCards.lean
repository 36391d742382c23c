/-
  DERIVED. GIVEN WITH THE SEED: THE CARDS: each row of YtifpdamghmlcfaaDoorRows.lean that lists a variable, with what it lists TIED to the program's text (the seventh form; the later family's looks); each row that meets fmt, with fmt's text TOLD by the authors' own Lean function (tested against real Go, not proved from fmt's source: count such statements apart). THE CARD IS WHAT COUNTS. Prove the row's statement (the work); the ties are given (YtifpdamghmlcfaaDoorTie.lean); close each card by the builder's one call (the guide's Derived/Test/ToyasCard.lean, 'card_holds'). Laid BY PROGRAM, IN A SANDBOX (cutbox-door.mjs). By AI agents, Wed Nov 11 2026. No macro, syntax, notation, axiom, sorry.
-/
import Derived.Test.YtifpdamghmlcfaaDoorRows
import GoSem.ClaimSeven
namespace Go.Proofs.YtifpdamghmlcfaaDoor
namespace Rows

/-- THE TIED CARD OF 'laws.FnWireText'. -/
def fnWireTextCard : Claim7 := { stood := { row := fnWireTextRow, standIns := [], harness := (true, "695794ff411b1a358b4cb2cd222d9f162ac30093c536ae4f8868b20ff7d94418"), looks := true }, kinds := [], alts := [], laidByText := true, laidKinds := [.data, .data, .data, .sentinel, .sentinel, .sentinel], laidTests := true, laidLooks := .later }
def FnWireTextCardSaid : Prop := Claim7.holds Tryd.pinned (.plain (OpenSpec.ofChange fnWireTextSpec)) fnWireTextCard

/-- THE TIED CARD OF 'laws.FnExactWireGet'. -/
def fnExactWireGetCard : Claim7 := { stood := { row := fnExactWireGetRow, standIns := [], harness := (true, "695794ff411b1a358b4cb2cd222d9f162ac30093c536ae4f8868b20ff7d94418"), looks := true }, kinds := [], alts := [], laidByText := true, laidKinds := [.data, .data, .data, .sentinel, .sentinel, .sentinel], laidTests := true, laidLooks := .later }
def FnExactWireGetCardSaid : Prop := Claim7.holds Tryd.pinned (.plain (OpenSpec.ofChange fnExactWireGetSpec)) fnExactWireGetCard

/-- THE SECOND FORM's CARD OF 'laws.FnWireText'. -/
def fnWireTextUptoCard : Claim7 := { stood := { row := fnWireTextUptoRow, standIns := [], harness := (true, "695794ff411b1a358b4cb2cd222d9f162ac30093c536ae4f8868b20ff7d94418"), looks := true }, kinds := [], alts := [], laidByText := true, laidKinds := [.data, .data, .data, .sentinel, .sentinel, .sentinel], laidTests := true, laidLooks := .later }
def FnWireTextUptoCardSaid : Prop := Claim7.holds Tryd.pinned (.plain (OpenSpec.upto fnWireTextSpec)) fnWireTextUptoCard

/-- THE SECOND FORM's CARD OF 'laws.FnExactWireGet'. -/
def fnExactWireGetUptoCard : Claim7 := { stood := { row := fnExactWireGetUptoRow, standIns := [], harness := (true, "695794ff411b1a358b4cb2cd222d9f162ac30093c536ae4f8868b20ff7d94418"), looks := true }, kinds := [], alts := [], laidByText := true, laidKinds := [.data, .data, .data, .sentinel, .sentinel, .sentinel], laidTests := true, laidLooks := .later }
def FnExactWireGetUptoCardSaid : Prop := Claim7.holds Tryd.pinned (.plain (OpenSpec.upto fnExactWireGetSpec)) fnExactWireGetUptoCard
end Rows
end Go.Proofs.YtifpdamghmlcfaaDoor
