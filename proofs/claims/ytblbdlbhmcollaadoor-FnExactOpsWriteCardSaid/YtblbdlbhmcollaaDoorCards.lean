/-
  DERIVED. GIVEN WITH THE SEED: THE CARDS: each row of YtblbdlbhmcollaaDoorRows.lean that lists a variable, with what it lists TIED to the program's text (the seventh form; the later family's looks); each row that meets fmt, with fmt's text TOLD by the authors' own Lean function (tested against real Go, not proved from fmt's source: count such statements apart). THE CARD IS WHAT COUNTS. Prove the row's statement (the work); the ties are given (YtblbdlbhmcollaaDoorTie.lean); close each card by the builder's one call (the guide's Derived/Test/ToyasCard.lean, 'card_holds'). Laid BY PROGRAM, IN A SANDBOX (cutbox-door.mjs). By AI agents, Wed Nov 11 2026. No macro, syntax, notation, axiom, sorry.
-/
import Derived.Test.YtblbdlbhmcollaaDoorRows
import GoSem.ClaimSeven
namespace Go.Proofs.YtblbdlbhmcollaaDoor
namespace Rows

/-- THE TIED CARD OF 'laws.FnExactOpsWrite'. -/
def fnExactOpsWriteCard : Claim7 := { stood := { row := fnExactOpsWriteRow, standIns := [], harness := (true, "a369b0d1024747879d8197e31bc8391bc5cbbf06e6b6de3767c345c69f2f7a8e"), looks := false }, kinds := [], alts := [], laidByText := true, laidKinds := [.data, .data, .data], laidTests := true, laidLooks := .later }
def FnExactOpsWriteCardSaid : Prop := Claim7.holds Tryd.pinned (.plain (OpenSpec.ofChange fnExactOpsWriteSpec)) fnExactOpsWriteCard

/-- THE SECOND FORM's CARD OF 'laws.FnExactOpsWrite'. -/
def fnExactOpsWriteUptoCard : Claim7 := { stood := { row := fnExactOpsWriteUptoRow, standIns := [], harness := (true, "a369b0d1024747879d8197e31bc8391bc5cbbf06e6b6de3767c345c69f2f7a8e"), looks := false }, kinds := [], alts := [], laidByText := true, laidKinds := [.data, .data, .data], laidTests := true, laidLooks := .later }
def FnExactOpsWriteUptoCardSaid : Prop := Claim7.holds Tryd.pinned (.plain (OpenSpec.upto fnExactOpsWriteSpec)) fnExactOpsWriteUptoCard
end Rows
end Go.Proofs.YtblbdlbhmcollaaDoor
