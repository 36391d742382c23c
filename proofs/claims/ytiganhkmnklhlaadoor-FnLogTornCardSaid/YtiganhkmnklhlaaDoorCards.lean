/-
  DERIVED. GIVEN WITH THE SEED: THE CARDS: each row of YtiganhkmnklhlaaDoorRows.lean that lists a variable, with what it lists TIED to the program's text (the seventh form; the later family's looks); each row that meets fmt, with fmt's text TOLD by the authors' own Lean function (tested against real Go, not proved from fmt's source: count such statements apart). THE CARD IS WHAT COUNTS. Prove the row's statement (the work); the ties are given (YtiganhkmnklhlaaDoorTie.lean); close each card by the builder's one call (the guide's Derived/Test/ToyasCard.lean, 'card_holds'). Laid BY PROGRAM, IN A SANDBOX (cutbox-door.mjs). By AI agents, Wed Nov 11 2026. No macro, syntax, notation, axiom, sorry.
-/
import Derived.Test.YtiganhkmnklhlaaDoorRows
import GoSem.ClaimSeven
namespace Go.Proofs.YtiganhkmnklhlaaDoor
namespace Rows

/-- THE TIED CARD OF 'laws.FnLogTorn'. -/
def fnLogTornCard : Claim7 := { stood := { row := fnLogTornRow, standIns := [], harness := (true, "7107309c8dc75927ac370a87b6cf72188a4e84f0cfa13dca4ec74a993be1f3d7"), looks := true }, kinds := [], alts := [], laidByText := true, laidKinds := [.data, .data, .data, .sentinel, .sentinel, .data], laidTests := true, laidLooks := .later }
def FnLogTornCardSaid : Prop := Claim7.holds Tryd.pinned (.plain (OpenSpec.ofChange fnLogTornSpec)) fnLogTornCard

/-- THE TIED CARD OF 'laws.FnExactLogTorn'. -/
def fnExactLogTornCard : Claim7 := { stood := { row := fnExactLogTornRow, standIns := [], harness := (true, "7107309c8dc75927ac370a87b6cf72188a4e84f0cfa13dca4ec74a993be1f3d7"), looks := true }, kinds := [], alts := [], laidByText := true, laidKinds := [.data, .data, .data, .sentinel, .sentinel, .data], laidTests := true, laidLooks := .later }
def FnExactLogTornCardSaid : Prop := Claim7.holds Tryd.pinned (.plain (OpenSpec.ofChange fnExactLogTornSpec)) fnExactLogTornCard

/-- THE SECOND FORM's CARD OF 'laws.FnLogTorn'. -/
def fnLogTornUptoCard : Claim7 := { stood := { row := fnLogTornUptoRow, standIns := [], harness := (true, "7107309c8dc75927ac370a87b6cf72188a4e84f0cfa13dca4ec74a993be1f3d7"), looks := true }, kinds := [], alts := [], laidByText := true, laidKinds := [.data, .data, .data, .sentinel, .sentinel, .data], laidTests := true, laidLooks := .later }
def FnLogTornUptoCardSaid : Prop := Claim7.holds Tryd.pinned (.plain (OpenSpec.upto fnLogTornSpec)) fnLogTornUptoCard

/-- THE SECOND FORM's CARD OF 'laws.FnExactLogTorn'. -/
def fnExactLogTornUptoCard : Claim7 := { stood := { row := fnExactLogTornUptoRow, standIns := [], harness := (true, "7107309c8dc75927ac370a87b6cf72188a4e84f0cfa13dca4ec74a993be1f3d7"), looks := true }, kinds := [], alts := [], laidByText := true, laidKinds := [.data, .data, .data, .sentinel, .sentinel, .data], laidTests := true, laidLooks := .later }
def FnExactLogTornUptoCardSaid : Prop := Claim7.holds Tryd.pinned (.plain (OpenSpec.upto fnExactLogTornSpec)) fnExactLogTornUptoCard
end Rows
end Go.Proofs.YtiganhkmnklhlaaDoor
