/-
  DERIVED. GIVEN WITH THE SEED: THE CARDS: each row of YtdaccpffdnbkiaaGreatDoorRows.lean that lists a variable, with what it lists TIED to the program's text (the seventh form; the later family's looks); each row that meets fmt, with fmt's text TOLD by the authors' own Lean function (tested against real Go, not proved from fmt's source: count such statements apart). THE CARD IS WHAT COUNTS. Prove the row's statement (the work); the ties are given (YtdaccpffdnbkiaaGreatDoorTie.lean); close each card by the builder's one call (the guide's Derived/Test/ToyasCard.lean, 'card_holds'). Laid BY PROGRAM, IN A SANDBOX (cutbox-door.mjs). By AI agents, Wed Nov 11 2026. No macro, syntax, notation, axiom, sorry.
-/
import Derived.Test.YtdaccpffdnbkiaaGreatDoorRows
import GoSem.ClaimSeven
namespace Go.Proofs.YtdaccpffdnbkiaaGreatDoor
namespace Rows

/-- THE TIED CARD OF 'laws.FnExactLegRead'. -/
def fnExactLegReadCard : Claim7 := { stood := { row := fnExactLegReadRow, standIns := [], harness := (true, "8314467aabcec652edef8582fc5e4807a0c285859caa030eedd4c54c7a3399d6"), looks := true }, kinds := [], alts := [], laidByText := true, laidKinds := [.data, .data, .data, .data, .sentinel, .sentinel, .pinned], laidTests := true, laidLooks := .later }
def FnExactLegReadCardSaid : Prop := Claim7.holds Tryz.pinned (.plain (OpenSpec.ofChange fnExactLegReadSpec)) fnExactLegReadCard

/-- THE TIED CARD OF 'laws.FnLegText'. -/
def fnLegTextCard : Claim7 := { stood := { row := fnLegTextRow, standIns := [], harness := (true, "8314467aabcec652edef8582fc5e4807a0c285859caa030eedd4c54c7a3399d6"), looks := true }, kinds := [], alts := [], laidByText := true, laidKinds := [.data, .data, .data, .data, .sentinel, .sentinel, .pinned], laidTests := true, laidLooks := .later }
def FnLegTextCardSaid : Prop := Claim7.holds Tryz.pinned (.plain (OpenSpec.ofChange fnLegTextSpec)) fnLegTextCard

/-- THE SECOND FORM's CARD OF 'laws.FnExactLegRead'. -/
def fnExactLegReadUptoCard : Claim7 := { stood := { row := fnExactLegReadUptoRow, standIns := [], harness := (true, "8314467aabcec652edef8582fc5e4807a0c285859caa030eedd4c54c7a3399d6"), looks := true }, kinds := [], alts := [], laidByText := true, laidKinds := [.data, .data, .data, .data, .sentinel, .sentinel, .pinned], laidTests := true, laidLooks := .later }
def FnExactLegReadUptoCardSaid : Prop := Claim7.holds Tryz.pinned (.plain (OpenSpec.upto fnExactLegReadSpec)) fnExactLegReadUptoCard

/-- THE SECOND FORM's CARD OF 'laws.FnLegText'. -/
def fnLegTextUptoCard : Claim7 := { stood := { row := fnLegTextUptoRow, standIns := [], harness := (true, "8314467aabcec652edef8582fc5e4807a0c285859caa030eedd4c54c7a3399d6"), looks := true }, kinds := [], alts := [], laidByText := true, laidKinds := [.data, .data, .data, .data, .sentinel, .sentinel, .pinned], laidTests := true, laidLooks := .later }
def FnLegTextUptoCardSaid : Prop := Claim7.holds Tryz.pinned (.plain (OpenSpec.upto fnLegTextSpec)) fnLegTextUptoCard
end Rows
end Go.Proofs.YtdaccpffdnbkiaaGreatDoor
