/-
  DERIVED. GIVEN WITH THE SEED: THE CARDS: each row of YtlfmhhdlandcjaaDoorRows.lean that lists a variable, with what it lists TIED to the program's text (the seventh form; the later family's looks); each row that meets fmt, with fmt's text TOLD by the authors' own Lean function (tested against real Go, not proved from fmt's source: count such statements apart). THE CARD IS WHAT COUNTS. Prove the row's statement (the work); the ties are given (YtlfmhhdlandcjaaDoorTie.lean); close each card by the builder's one call (the guide's Derived/Test/ToyasCard.lean, 'card_holds'). Laid BY PROGRAM, IN A SANDBOX (cutbox-door.mjs). By AI agents, Wed Nov 11 2026. No macro, syntax, notation, axiom, sorry.
-/
import Derived.Test.YtlfmhhdlandcjaaDoorRows
import GoSem.ClaimSeven
namespace Go.Proofs.YtlfmhhdlandcjaaDoor
namespace Rows

/-- THE TIED CARD OF 'laws.FnOpsText'. -/
def fnOpsTextCard : Claim7 := { stood := { row := fnOpsTextRow, standIns := [], harness := (true, "4b3141668ab37f6ffb3a0463b654deb079aa0d2175081495cf97ebe35d75378c"), looks := true }, kinds := [], alts := [], laidByText := true, laidKinds := [.data, .data, .data, .data, .sentinel, .sentinel, .pinned], laidTests := true, laidLooks := .later }
def FnOpsTextCardSaid : Prop := Claim7.holds Tryd.pinned (.plain (OpenSpec.ofChange fnOpsTextSpec)) fnOpsTextCard

/-- THE TIED CARD OF 'laws.FnExactTripRead'. -/
def fnExactTripReadCard : Claim7 := { stood := { row := fnExactTripReadRow, standIns := [], harness := (true, "4b3141668ab37f6ffb3a0463b654deb079aa0d2175081495cf97ebe35d75378c"), looks := true }, kinds := [], alts := [], laidByText := true, laidKinds := [.data, .data, .data, .data, .sentinel, .sentinel, .pinned], laidTests := true, laidLooks := .later }
def FnExactTripReadCardSaid : Prop := Claim7.holds Tryd.pinned (.plain (OpenSpec.ofChange fnExactTripReadSpec)) fnExactTripReadCard

/-- THE SECOND FORM's CARD OF 'laws.FnOpsText'. -/
def fnOpsTextUptoCard : Claim7 := { stood := { row := fnOpsTextUptoRow, standIns := [], harness := (true, "4b3141668ab37f6ffb3a0463b654deb079aa0d2175081495cf97ebe35d75378c"), looks := true }, kinds := [], alts := [], laidByText := true, laidKinds := [.data, .data, .data, .data, .sentinel, .sentinel, .pinned], laidTests := true, laidLooks := .later }
def FnOpsTextUptoCardSaid : Prop := Claim7.holds Tryd.pinned (.plain (OpenSpec.upto fnOpsTextSpec)) fnOpsTextUptoCard

/-- THE SECOND FORM's CARD OF 'laws.FnExactTripRead'. -/
def fnExactTripReadUptoCard : Claim7 := { stood := { row := fnExactTripReadUptoRow, standIns := [], harness := (true, "4b3141668ab37f6ffb3a0463b654deb079aa0d2175081495cf97ebe35d75378c"), looks := true }, kinds := [], alts := [], laidByText := true, laidKinds := [.data, .data, .data, .data, .sentinel, .sentinel, .pinned], laidTests := true, laidLooks := .later }
def FnExactTripReadUptoCardSaid : Prop := Claim7.holds Tryd.pinned (.plain (OpenSpec.upto fnExactTripReadSpec)) fnExactTripReadUptoCard
end Rows
end Go.Proofs.YtlfmhhdlandcjaaDoor
