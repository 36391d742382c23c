/-
  DERIVED. GIVEN WITH THE SEED: THE CARDS: each row of YtjhgmmcglonokaaGreatDoorRows.lean that lists a variable, with what it lists TIED to the program's text (the seventh form; the later family's looks); each row that meets fmt, with fmt's text TOLD by the authors' own Lean function (tested against real Go, not proved from fmt's source: count such statements apart). THE CARD IS WHAT COUNTS. Prove the row's statement (the work); the ties are given (YtjhgmmcglonokaaGreatDoorTie.lean); close each card by the builder's one call (the guide's Derived/Test/ToyasCard.lean, 'card_holds'). Laid BY PROGRAM, IN A SANDBOX (cutbox-door.mjs). By AI agents, Wed Nov 11 2026. No macro, syntax, notation, axiom, sorry.
-/
import Derived.Test.YtjhgmmcglonokaaGreatDoorRows
import GoSem.ClaimSeven
namespace Go.Proofs.YtjhgmmcglonokaaGreatDoor
namespace Rows

/-- THE TIED CARD OF 'laws.FnExactVmRead'. -/
def fnExactVmReadCard : Claim7 := { stood := { row := fnExactVmReadRow, standIns := [], harness := (true, "5e8a13258c27e7f2562aeb23beaa6fbd698bd271e198195e17a71e890d637983"), looks := true }, kinds := [], alts := [], laidByText := true, laidKinds := [.data, .data, .data, .data, .sentinel, .sentinel, .pinned], laidTests := true, laidLooks := .later }
def FnExactVmReadCardSaid : Prop := Claim7.holds Tryz.pinned (.plain (OpenSpec.ofChange fnExactVmReadSpec)) fnExactVmReadCard

/-- THE TIED CARD OF 'laws.FnVmText'. -/
def fnVmTextCard : Claim7 := { stood := { row := fnVmTextRow, standIns := [], harness := (true, "5e8a13258c27e7f2562aeb23beaa6fbd698bd271e198195e17a71e890d637983"), looks := true }, kinds := [], alts := [], laidByText := true, laidKinds := [.data, .data, .data, .data, .sentinel, .sentinel, .pinned], laidTests := true, laidLooks := .later }
def FnVmTextCardSaid : Prop := Claim7.holds Tryz.pinned (.plain (OpenSpec.ofChange fnVmTextSpec)) fnVmTextCard

/-- THE TIED CARD OF 'laws.FnExactRuleRead'. -/
def fnExactRuleReadCard : Claim7 := { stood := { row := fnExactRuleReadRow, standIns := [], harness := (true, "5e8a13258c27e7f2562aeb23beaa6fbd698bd271e198195e17a71e890d637983"), looks := true }, kinds := [], alts := [], laidByText := true, laidKinds := [.data, .data, .data, .data, .sentinel, .sentinel, .pinned], laidTests := true, laidLooks := .later }
def FnExactRuleReadCardSaid : Prop := Claim7.holds Tryz.pinned (.plain (OpenSpec.ofChange fnExactRuleReadSpec)) fnExactRuleReadCard

/-- THE TIED CARD OF 'laws.FnRuleText'. -/
def fnRuleTextCard : Claim7 := { stood := { row := fnRuleTextRow, standIns := [], harness := (true, "5e8a13258c27e7f2562aeb23beaa6fbd698bd271e198195e17a71e890d637983"), looks := true }, kinds := [], alts := [], laidByText := true, laidKinds := [.data, .data, .data, .data, .sentinel, .sentinel, .pinned], laidTests := true, laidLooks := .later }
def FnRuleTextCardSaid : Prop := Claim7.holds Tryz.pinned (.plain (OpenSpec.ofChange fnRuleTextSpec)) fnRuleTextCard

/-- THE SECOND FORM's CARD OF 'laws.FnExactVmRead'. -/
def fnExactVmReadUptoCard : Claim7 := { stood := { row := fnExactVmReadUptoRow, standIns := [], harness := (true, "5e8a13258c27e7f2562aeb23beaa6fbd698bd271e198195e17a71e890d637983"), looks := true }, kinds := [], alts := [], laidByText := true, laidKinds := [.data, .data, .data, .data, .sentinel, .sentinel, .pinned], laidTests := true, laidLooks := .later }
def FnExactVmReadUptoCardSaid : Prop := Claim7.holds Tryz.pinned (.plain (OpenSpec.upto fnExactVmReadSpec)) fnExactVmReadUptoCard

/-- THE SECOND FORM's CARD OF 'laws.FnVmText'. -/
def fnVmTextUptoCard : Claim7 := { stood := { row := fnVmTextUptoRow, standIns := [], harness := (true, "5e8a13258c27e7f2562aeb23beaa6fbd698bd271e198195e17a71e890d637983"), looks := true }, kinds := [], alts := [], laidByText := true, laidKinds := [.data, .data, .data, .data, .sentinel, .sentinel, .pinned], laidTests := true, laidLooks := .later }
def FnVmTextUptoCardSaid : Prop := Claim7.holds Tryz.pinned (.plain (OpenSpec.upto fnVmTextSpec)) fnVmTextUptoCard

/-- THE SECOND FORM's CARD OF 'laws.FnExactRuleRead'. -/
def fnExactRuleReadUptoCard : Claim7 := { stood := { row := fnExactRuleReadUptoRow, standIns := [], harness := (true, "5e8a13258c27e7f2562aeb23beaa6fbd698bd271e198195e17a71e890d637983"), looks := true }, kinds := [], alts := [], laidByText := true, laidKinds := [.data, .data, .data, .data, .sentinel, .sentinel, .pinned], laidTests := true, laidLooks := .later }
def FnExactRuleReadUptoCardSaid : Prop := Claim7.holds Tryz.pinned (.plain (OpenSpec.upto fnExactRuleReadSpec)) fnExactRuleReadUptoCard

/-- THE SECOND FORM's CARD OF 'laws.FnRuleText'. -/
def fnRuleTextUptoCard : Claim7 := { stood := { row := fnRuleTextUptoRow, standIns := [], harness := (true, "5e8a13258c27e7f2562aeb23beaa6fbd698bd271e198195e17a71e890d637983"), looks := true }, kinds := [], alts := [], laidByText := true, laidKinds := [.data, .data, .data, .data, .sentinel, .sentinel, .pinned], laidTests := true, laidLooks := .later }
def FnRuleTextUptoCardSaid : Prop := Claim7.holds Tryz.pinned (.plain (OpenSpec.upto fnRuleTextSpec)) fnRuleTextUptoCard
end Rows
end Go.Proofs.YtjhgmmcglonokaaGreatDoor
