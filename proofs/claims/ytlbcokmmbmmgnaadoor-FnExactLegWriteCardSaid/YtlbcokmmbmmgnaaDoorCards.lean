/-
  DERIVED. GIVEN WITH THE SEED: THE CARDS: each row of YtlbcokmmbmmgnaaDoorRows.lean that lists a variable, with what it lists TIED to the program's text (the seventh form; the later family's looks); each row that meets fmt, with fmt's text TOLD by the authors' own Lean function (tested against real Go, not proved from fmt's source: count such statements apart). THE CARD IS WHAT COUNTS. Prove the row's statement (the work); the ties are given (YtlbcokmmbmmgnaaDoorTie.lean); close each card by the builder's one call (the guide's Derived/Test/ToyasCard.lean, 'card_holds'). Laid BY PROGRAM, IN A SANDBOX (cutbox-door.mjs). By AI agents, Wed Nov 11 2026. No macro, syntax, notation, axiom, sorry.
-/
import Derived.Test.YtlbcokmmbmmgnaaDoorRows
import GoSem.ClaimSeven
namespace Go.Proofs.YtlbcokmmbmmgnaaDoor
namespace Rows

/-- THE TIED CARD OF 'laws.FnExactLegWrite'. -/
def fnExactLegWriteCard : Claim7 := { stood := { row := fnExactLegWriteRow, standIns := [], harness := (true, "8ad35ada92d662df749b7613f7058fe1bfe0b16992868b08f3d3aa5e7829e771"), looks := false }, kinds := [], alts := [], laidByText := true, laidKinds := [.data, .data, .data], laidTests := true, laidLooks := .later }
def FnExactLegWriteCardSaid : Prop := Claim7.holds Tryd.pinned (.plain (OpenSpec.ofChange fnExactLegWriteSpec)) fnExactLegWriteCard

/-- THE SECOND FORM's CARD OF 'laws.FnExactLegWrite'. -/
def fnExactLegWriteUptoCard : Claim7 := { stood := { row := fnExactLegWriteUptoRow, standIns := [], harness := (true, "8ad35ada92d662df749b7613f7058fe1bfe0b16992868b08f3d3aa5e7829e771"), looks := false }, kinds := [], alts := [], laidByText := true, laidKinds := [.data, .data, .data], laidTests := true, laidLooks := .later }
def FnExactLegWriteUptoCardSaid : Prop := Claim7.holds Tryd.pinned (.plain (OpenSpec.upto fnExactLegWriteSpec)) fnExactLegWriteUptoCard
end Rows
end Go.Proofs.YtlbcokmmbmmgnaaDoor
