/-
  DERIVED. GIVEN WITH THE SEED: THE CARDS: each row of YtjphjnopdlfplaaGreatDoorRows.lean that lists a variable, with what it lists TIED to the program's text (the seventh form; the later family's looks); each row that meets fmt, with fmt's text TOLD by the authors' own Lean function (tested against real Go, not proved from fmt's source: count such statements apart). THE CARD IS WHAT COUNTS. Prove the row's statement (the work); the ties are given (YtjphjnopdlfplaaGreatDoorTie.lean); close each card by the builder's one call (the guide's Derived/Test/ToyasCard.lean, 'card_holds'). Laid BY PROGRAM, IN A SANDBOX (cutbox-door.mjs). By AI agents, Wed Nov 11 2026. No macro, syntax, notation, axiom, sorry.
-/
import Derived.Test.YtjphjnopdlfplaaGreatDoorRows
import GoSem.ClaimSeven
namespace Go.Proofs.YtjphjnopdlfplaaGreatDoor
namespace Rows

/-- THE TIED CARD OF 'laws.FnExactVmRun'. -/
def fnExactVmRunCard : Claim7 := { stood := { row := fnExactVmRunRow, standIns := [], harness := (true, "4ddd58efdaa9715df594790e17019f815141c622b8d2f7b491945794a24253e8"), looks := false }, kinds := [], alts := [], laidByText := true, laidKinds := [.data, .data, .data], laidTests := true, laidLooks := .later }
def FnExactVmRunCardSaid : Prop := Claim7.holds Tryz.pinned (.plain (OpenSpec.ofChange fnExactVmRunSpec)) fnExactVmRunCard

/-- THE TIED CARD OF 'laws.FnVmTop'. -/
def fnVmTopCard : Claim7 := { stood := { row := fnVmTopRow, standIns := [], harness := (true, "4ddd58efdaa9715df594790e17019f815141c622b8d2f7b491945794a24253e8"), looks := false }, kinds := [], alts := [], laidByText := true, laidKinds := [.data, .data, .data], laidTests := true, laidLooks := .later }
def FnVmTopCardSaid : Prop := Claim7.holds Tryz.pinned (.plain (OpenSpec.ofChange fnVmTopSpec)) fnVmTopCard

/-- THE TIED CARD OF 'laws.FnVmEnds'. -/
def fnVmEndsCard : Claim7 := { stood := { row := fnVmEndsRow, standIns := [], harness := (true, "4ddd58efdaa9715df594790e17019f815141c622b8d2f7b491945794a24253e8"), looks := false }, kinds := [], alts := [], laidByText := true, laidKinds := [.data, .data, .data], laidTests := true, laidLooks := .later }
def FnVmEndsCardSaid : Prop := Claim7.holds Tryz.pinned (.plain (OpenSpec.ofChange fnVmEndsSpec)) fnVmEndsCard

/-- THE TIED CARD OF 'laws.FnVmFuel'. -/
def fnVmFuelCard : Claim7 := { stood := { row := fnVmFuelRow, standIns := [], harness := (true, "4ddd58efdaa9715df594790e17019f815141c622b8d2f7b491945794a24253e8"), looks := false }, kinds := [], alts := [], laidByText := true, laidKinds := [.data, .data, .data], laidTests := true, laidLooks := .later }
def FnVmFuelCardSaid : Prop := Claim7.holds Tryz.pinned (.plain (OpenSpec.ofChange fnVmFuelSpec)) fnVmFuelCard

/-- THE TIED CARD OF 'laws.FnVmBoth'. -/
def fnVmBothCard : Claim7 := { stood := { row := fnVmBothRow, standIns := [], harness := (true, "4ddd58efdaa9715df594790e17019f815141c622b8d2f7b491945794a24253e8"), looks := false }, kinds := [], alts := [], laidByText := true, laidKinds := [.data, .data, .data], laidTests := true, laidLooks := .later }
def FnVmBothCardSaid : Prop := Claim7.holds Tryz.pinned (.plain (OpenSpec.ofChange fnVmBothSpec)) fnVmBothCard

/-- THE SECOND FORM's CARD OF 'laws.FnExactVmRun'. -/
def fnExactVmRunUptoCard : Claim7 := { stood := { row := fnExactVmRunUptoRow, standIns := [], harness := (true, "4ddd58efdaa9715df594790e17019f815141c622b8d2f7b491945794a24253e8"), looks := false }, kinds := [], alts := [], laidByText := true, laidKinds := [.data, .data, .data], laidTests := true, laidLooks := .later }
def FnExactVmRunUptoCardSaid : Prop := Claim7.holds Tryz.pinned (.plain (OpenSpec.upto fnExactVmRunSpec)) fnExactVmRunUptoCard

/-- THE SECOND FORM's CARD OF 'laws.FnVmTop'. -/
def fnVmTopUptoCard : Claim7 := { stood := { row := fnVmTopUptoRow, standIns := [], harness := (true, "4ddd58efdaa9715df594790e17019f815141c622b8d2f7b491945794a24253e8"), looks := false }, kinds := [], alts := [], laidByText := true, laidKinds := [.data, .data, .data], laidTests := true, laidLooks := .later }
def FnVmTopUptoCardSaid : Prop := Claim7.holds Tryz.pinned (.plain (OpenSpec.upto fnVmTopSpec)) fnVmTopUptoCard

/-- THE SECOND FORM's CARD OF 'laws.FnVmEnds'. -/
def fnVmEndsUptoCard : Claim7 := { stood := { row := fnVmEndsUptoRow, standIns := [], harness := (true, "4ddd58efdaa9715df594790e17019f815141c622b8d2f7b491945794a24253e8"), looks := false }, kinds := [], alts := [], laidByText := true, laidKinds := [.data, .data, .data], laidTests := true, laidLooks := .later }
def FnVmEndsUptoCardSaid : Prop := Claim7.holds Tryz.pinned (.plain (OpenSpec.upto fnVmEndsSpec)) fnVmEndsUptoCard

/-- THE SECOND FORM's CARD OF 'laws.FnVmFuel'. -/
def fnVmFuelUptoCard : Claim7 := { stood := { row := fnVmFuelUptoRow, standIns := [], harness := (true, "4ddd58efdaa9715df594790e17019f815141c622b8d2f7b491945794a24253e8"), looks := false }, kinds := [], alts := [], laidByText := true, laidKinds := [.data, .data, .data], laidTests := true, laidLooks := .later }
def FnVmFuelUptoCardSaid : Prop := Claim7.holds Tryz.pinned (.plain (OpenSpec.upto fnVmFuelSpec)) fnVmFuelUptoCard

/-- THE SECOND FORM's CARD OF 'laws.FnVmBoth'. -/
def fnVmBothUptoCard : Claim7 := { stood := { row := fnVmBothUptoRow, standIns := [], harness := (true, "4ddd58efdaa9715df594790e17019f815141c622b8d2f7b491945794a24253e8"), looks := false }, kinds := [], alts := [], laidByText := true, laidKinds := [.data, .data, .data], laidTests := true, laidLooks := .later }
def FnVmBothUptoCardSaid : Prop := Claim7.holds Tryz.pinned (.plain (OpenSpec.upto fnVmBothSpec)) fnVmBothUptoCard
end Rows
end Go.Proofs.YtjphjnopdlfplaaGreatDoor
