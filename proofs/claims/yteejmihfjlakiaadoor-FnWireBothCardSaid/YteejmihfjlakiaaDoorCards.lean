/-
  DERIVED. GIVEN WITH THE SEED: THE CARDS: each row of YteejmihfjlakiaaDoorRows.lean that lists a variable, with what it lists TIED to the program's text (the seventh form; the later family's looks); each row that meets fmt, with fmt's text TOLD by the authors' own Lean function (tested against real Go, not proved from fmt's source: count such statements apart). THE CARD IS WHAT COUNTS. Prove the row's statement (the work); the ties are given (YteejmihfjlakiaaDoorTie.lean); close each card by the builder's one call (the guide's Derived/Test/ToyasCard.lean, 'card_holds'). Laid BY PROGRAM, IN A SANDBOX (cutbox-door.mjs). By AI agents, Wed Nov 11 2026. No macro, syntax, notation, axiom, sorry.
-/
import Derived.Test.YteejmihfjlakiaaDoorRows
import GoSem.ClaimSeven
namespace Go.Proofs.YteejmihfjlakiaaDoor
namespace Rows

/-- THE TIED CARD OF 'laws.FnExactWirePut'. -/
def fnExactWirePutCard : Claim7 := { stood := { row := fnExactWirePutRow, standIns := [], harness := (true, "5629ac0f0eabb96acc5021ce60fc26e5890441d697c01a9ef37be43730e45452"), looks := true }, kinds := [], alts := [], laidByText := true, laidKinds := [.data, .data, .data], laidTests := true, laidLooks := .later }
def FnExactWirePutCardSaid : Prop := Claim7.holds Tryd.pinned (.plain (OpenSpec.ofChange fnExactWirePutSpec)) fnExactWirePutCard

/-- THE TIED CARD OF 'laws.FnExactWireGet'. -/
def fnExactWireGetCard : Claim7 := { stood := { row := fnExactWireGetRow, standIns := [], harness := (true, "5629ac0f0eabb96acc5021ce60fc26e5890441d697c01a9ef37be43730e45452"), looks := true }, kinds := [], alts := [], laidByText := true, laidKinds := [.data, .data, .data, .sentinel, .sentinel, .sentinel], laidTests := true, laidLooks := .later }
def FnExactWireGetCardSaid : Prop := Claim7.holds Tryd.pinned (.plain (OpenSpec.ofChange fnExactWireGetSpec)) fnExactWireGetCard

/-- THE TIED CARD OF 'laws.FnWireText'. -/
def fnWireTextCard : Claim7 := { stood := { row := fnWireTextRow, standIns := [], harness := (true, "5629ac0f0eabb96acc5021ce60fc26e5890441d697c01a9ef37be43730e45452"), looks := true }, kinds := [], alts := [], laidByText := true, laidKinds := [.data, .data, .data, .sentinel, .sentinel, .sentinel], laidTests := true, laidLooks := .later }
def FnWireTextCardSaid : Prop := Claim7.holds Tryd.pinned (.plain (OpenSpec.ofChange fnWireTextSpec)) fnWireTextCard

/-- THE TIED CARD OF 'laws.FnWireBoth'. -/
def fnWireBothCard : Claim7 := { stood := { row := fnWireBothRow, standIns := [], harness := (true, "5629ac0f0eabb96acc5021ce60fc26e5890441d697c01a9ef37be43730e45452"), looks := true }, kinds := [], alts := [], laidByText := true, laidKinds := [.data, .data, .data], laidTests := true, laidLooks := .later }
def FnWireBothCardSaid : Prop := Claim7.holds Tryd.pinned (.plain (OpenSpec.ofChange fnWireBothSpec)) fnWireBothCard

/-- THE SECOND FORM's CARD OF 'laws.FnExactWirePut'. -/
def fnExactWirePutUptoCard : Claim7 := { stood := { row := fnExactWirePutUptoRow, standIns := [], harness := (true, "5629ac0f0eabb96acc5021ce60fc26e5890441d697c01a9ef37be43730e45452"), looks := true }, kinds := [], alts := [], laidByText := true, laidKinds := [.data, .data, .data], laidTests := true, laidLooks := .later }
def FnExactWirePutUptoCardSaid : Prop := Claim7.holds Tryd.pinned (.plain (OpenSpec.upto fnExactWirePutSpec)) fnExactWirePutUptoCard

/-- THE SECOND FORM's CARD OF 'laws.FnExactWireGet'. -/
def fnExactWireGetUptoCard : Claim7 := { stood := { row := fnExactWireGetUptoRow, standIns := [], harness := (true, "5629ac0f0eabb96acc5021ce60fc26e5890441d697c01a9ef37be43730e45452"), looks := true }, kinds := [], alts := [], laidByText := true, laidKinds := [.data, .data, .data, .sentinel, .sentinel, .sentinel], laidTests := true, laidLooks := .later }
def FnExactWireGetUptoCardSaid : Prop := Claim7.holds Tryd.pinned (.plain (OpenSpec.upto fnExactWireGetSpec)) fnExactWireGetUptoCard

/-- THE SECOND FORM's CARD OF 'laws.FnWireText'. -/
def fnWireTextUptoCard : Claim7 := { stood := { row := fnWireTextUptoRow, standIns := [], harness := (true, "5629ac0f0eabb96acc5021ce60fc26e5890441d697c01a9ef37be43730e45452"), looks := true }, kinds := [], alts := [], laidByText := true, laidKinds := [.data, .data, .data, .sentinel, .sentinel, .sentinel], laidTests := true, laidLooks := .later }
def FnWireTextUptoCardSaid : Prop := Claim7.holds Tryd.pinned (.plain (OpenSpec.upto fnWireTextSpec)) fnWireTextUptoCard

/-- THE SECOND FORM's CARD OF 'laws.FnWireBoth'. -/
def fnWireBothUptoCard : Claim7 := { stood := { row := fnWireBothUptoRow, standIns := [], harness := (true, "5629ac0f0eabb96acc5021ce60fc26e5890441d697c01a9ef37be43730e45452"), looks := true }, kinds := [], alts := [], laidByText := true, laidKinds := [.data, .data, .data], laidTests := true, laidLooks := .later }
def FnWireBothUptoCardSaid : Prop := Claim7.holds Tryd.pinned (.plain (OpenSpec.upto fnWireBothSpec)) fnWireBothUptoCard
end Rows
end Go.Proofs.YteejmihfjlakiaaDoor
