/-
  DERIVED. GIVEN WITH THE SEED: THE CARDS: each row of YtldebdoojabboaaDoorRows.lean that lists a variable, with what it lists TIED to the program's text (the seventh form; the later family's looks); each row that meets fmt, with fmt's text TOLD by the authors' own Lean function (tested against real Go, not proved from fmt's source: count such statements apart). THE CARD IS WHAT COUNTS. Prove the row's statement (the work); the ties are given (YtldebdoojabboaaDoorTie.lean); close each card by the builder's one call (the guide's Derived/Test/ToyasCard.lean, 'card_holds'). Laid BY PROGRAM, IN A SANDBOX (cutbox-door.mjs). By AI agents, Wed Nov 11 2026. No macro, syntax, notation, axiom, sorry.
-/
import Derived.Test.YtldebdoojabboaaDoorRows
import GoSem.ClaimSeven
namespace Go.Proofs.YtldebdoojabboaaDoor
namespace Rows

/-- THE TIED CARD OF 'laws.FnExactTripWrite'. -/
def fnExactTripWriteCard : Claim7 := { stood := { row := fnExactTripWriteRow, standIns := [], harness := (true, "04f6abb8c322ff19ab9563b5df3d7653b6a1abcba4594380e8139b598ff70471"), looks := true }, kinds := [], alts := [], laidByText := true, laidKinds := [.data, .data, .data], laidTests := true, laidLooks := .later }
def FnExactTripWriteCardSaid : Prop := Claim7.holds Tryd.pinned (.plain (OpenSpec.ofChange fnExactTripWriteSpec)) fnExactTripWriteCard

/-- THE TIED CARD OF 'laws.FnExactTripRead'. -/
def fnExactTripReadCard : Claim7 := { stood := { row := fnExactTripReadRow, standIns := [], harness := (true, "04f6abb8c322ff19ab9563b5df3d7653b6a1abcba4594380e8139b598ff70471"), looks := true }, kinds := [], alts := [], laidByText := true, laidKinds := [.data, .data, .data, .data, .sentinel, .sentinel, .pinned], laidTests := true, laidLooks := .later }
def FnExactTripReadCardSaid : Prop := Claim7.holds Tryd.pinned (.plain (OpenSpec.ofChange fnExactTripReadSpec)) fnExactTripReadCard

/-- THE SECOND FORM's CARD OF 'laws.FnExactTripWrite'. -/
def fnExactTripWriteUptoCard : Claim7 := { stood := { row := fnExactTripWriteUptoRow, standIns := [], harness := (true, "04f6abb8c322ff19ab9563b5df3d7653b6a1abcba4594380e8139b598ff70471"), looks := true }, kinds := [], alts := [], laidByText := true, laidKinds := [.data, .data, .data], laidTests := true, laidLooks := .later }
def FnExactTripWriteUptoCardSaid : Prop := Claim7.holds Tryd.pinned (.plain (OpenSpec.upto fnExactTripWriteSpec)) fnExactTripWriteUptoCard

/-- THE SECOND FORM's CARD OF 'laws.FnExactTripRead'. -/
def fnExactTripReadUptoCard : Claim7 := { stood := { row := fnExactTripReadUptoRow, standIns := [], harness := (true, "04f6abb8c322ff19ab9563b5df3d7653b6a1abcba4594380e8139b598ff70471"), looks := true }, kinds := [], alts := [], laidByText := true, laidKinds := [.data, .data, .data, .data, .sentinel, .sentinel, .pinned], laidTests := true, laidLooks := .later }
def FnExactTripReadUptoCardSaid : Prop := Claim7.holds Tryd.pinned (.plain (OpenSpec.upto fnExactTripReadSpec)) fnExactTripReadUptoCard
end Rows
end Go.Proofs.YtldebdoojabboaaDoor
