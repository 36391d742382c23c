/-
  DERIVED. GIVEN WITH THE SEED: THE CARDS: each row of YtemjooejfmkkbaaGreatDoorRows.lean that lists a variable, with what it lists TIED to the program's text (the seventh form; the later family's looks); each row that meets fmt, with fmt's text TOLD by the authors' own Lean function (tested against real Go, not proved from fmt's source: count such statements apart). THE CARD IS WHAT COUNTS. Prove the row's statement (the work); the ties are given (YtemjooejfmkkbaaGreatDoorTie.lean); close each card by the builder's one call (the guide's Derived/Test/ToyasCard.lean, 'card_holds'). Laid BY PROGRAM, IN A SANDBOX (cutbox-door.mjs). By AI agents, Wed Nov 11 2026. No macro, syntax, notation, axiom, sorry.
-/
import Derived.Test.YtemjooejfmkkbaaGreatDoorRows
import GoSem.ClaimSeven
namespace Go.Proofs.YtemjooejfmkkbaaGreatDoor
namespace Rows

/-- THE TIED CARD OF 'laws.FnExactVmRun'. -/
def fnExactVmRunCard : Claim7 := { stood := { row := fnExactVmRunRow, standIns := [], harness := (true, "a68a6e96f70b12b2f489a6b1cff52fedb2ceba9205bc9cdf18a6f335a4f18ac5"), looks := true }, kinds := [], alts := [], laidByText := true, laidKinds := [.data, .data, .data], laidTests := true, laidLooks := .later }
def FnExactVmRunCardSaid : Prop := Claim7.holds Tryz.pinned (.plain (OpenSpec.ofChange fnExactVmRunSpec)) fnExactVmRunCard

/-- THE TIED CARD OF 'laws.FnExactRuleRead'. -/
def fnExactRuleReadCard : Claim7 := { stood := { row := fnExactRuleReadRow, standIns := [], harness := (true, "a68a6e96f70b12b2f489a6b1cff52fedb2ceba9205bc9cdf18a6f335a4f18ac5"), looks := true }, kinds := [], alts := [], laidByText := true, laidKinds := [.data, .data, .data, .data, .sentinel, .sentinel, .pinned], laidTests := true, laidLooks := .later }
def FnExactRuleReadCardSaid : Prop := Claim7.holds Tryz.pinned (.plain (OpenSpec.ofChange fnExactRuleReadSpec)) fnExactRuleReadCard

/-- THE TIED CARD OF 'laws.FnExactVmRead'. -/
def fnExactVmReadCard : Claim7 := { stood := { row := fnExactVmReadRow, standIns := [], harness := (true, "a68a6e96f70b12b2f489a6b1cff52fedb2ceba9205bc9cdf18a6f335a4f18ac5"), looks := true }, kinds := [], alts := [], laidByText := true, laidKinds := [.data, .data, .data, .data, .sentinel, .sentinel, .pinned], laidTests := true, laidLooks := .later }
def FnExactVmReadCardSaid : Prop := Claim7.holds Tryz.pinned (.plain (OpenSpec.ofChange fnExactVmReadSpec)) fnExactVmReadCard

/-- THE TIED CARD OF 'laws.FnRuleText'. -/
def fnRuleTextCard : Claim7 := { stood := { row := fnRuleTextRow, standIns := [], harness := (true, "a68a6e96f70b12b2f489a6b1cff52fedb2ceba9205bc9cdf18a6f335a4f18ac5"), looks := true }, kinds := [], alts := [], laidByText := true, laidKinds := [.data, .data, .data, .data, .sentinel, .sentinel, .pinned], laidTests := true, laidLooks := .later }
def FnRuleTextCardSaid : Prop := Claim7.holds Tryz.pinned (.plain (OpenSpec.ofChange fnRuleTextSpec)) fnRuleTextCard

/-- THE TIED CARD OF 'laws.FnRuleFuel'. -/
def fnRuleFuelCard : Claim7 := { stood := { row := fnRuleFuelRow, standIns := [], harness := (true, "a68a6e96f70b12b2f489a6b1cff52fedb2ceba9205bc9cdf18a6f335a4f18ac5"), looks := true }, kinds := [], alts := [], laidByText := true, laidKinds := [.data, .data, .data], laidTests := true, laidLooks := .later }
def FnRuleFuelCardSaid : Prop := Claim7.holds Tryz.pinned (.plain (OpenSpec.ofChange fnRuleFuelSpec)) fnRuleFuelCard

/-- THE TIED CARD OF 'laws.FnRuleOnly'. -/
def fnRuleOnlyCard : Claim7 := { stood := { row := fnRuleOnlyRow, standIns := [], harness := (true, "a68a6e96f70b12b2f489a6b1cff52fedb2ceba9205bc9cdf18a6f335a4f18ac5"), looks := true }, kinds := [], alts := [], laidByText := true, laidKinds := [.data, .data, .data], laidTests := true, laidLooks := .later }
def FnRuleOnlyCardSaid : Prop := Claim7.holds Tryz.pinned (.plain (OpenSpec.ofChange fnRuleOnlySpec)) fnRuleOnlyCard

/-- THE TIED CARD OF 'laws.FnRuleBox'. -/
def fnRuleBoxCard : Claim7 := { stood := { row := fnRuleBoxRow, standIns := [], harness := (true, "a68a6e96f70b12b2f489a6b1cff52fedb2ceba9205bc9cdf18a6f335a4f18ac5"), looks := true }, kinds := [], alts := [], laidByText := true, laidKinds := [.data, .data, .data], laidTests := true, laidLooks := .later }
def FnRuleBoxCardSaid : Prop := Claim7.holds Tryz.pinned (.plain (OpenSpec.ofChange fnRuleBoxSpec)) fnRuleBoxCard

/-- THE TIED CARD OF 'laws.FnRuleSwap'. -/
def fnRuleSwapCard : Claim7 := { stood := { row := fnRuleSwapRow, standIns := [], harness := (true, "a68a6e96f70b12b2f489a6b1cff52fedb2ceba9205bc9cdf18a6f335a4f18ac5"), looks := true }, kinds := [], alts := [], laidByText := true, laidKinds := [.data, .data, .data], laidTests := true, laidLooks := .later }
def FnRuleSwapCardSaid : Prop := Claim7.holds Tryz.pinned (.plain (OpenSpec.ofChange fnRuleSwapSpec)) fnRuleSwapCard

/-- THE TIED CARD OF 'laws.FnVmTop'. -/
def fnVmTopCard : Claim7 := { stood := { row := fnVmTopRow, standIns := [], harness := (true, "a68a6e96f70b12b2f489a6b1cff52fedb2ceba9205bc9cdf18a6f335a4f18ac5"), looks := true }, kinds := [], alts := [], laidByText := true, laidKinds := [.data, .data, .data], laidTests := true, laidLooks := .later }
def FnVmTopCardSaid : Prop := Claim7.holds Tryz.pinned (.plain (OpenSpec.ofChange fnVmTopSpec)) fnVmTopCard

/-- THE TIED CARD OF 'laws.FnVmEnds'. -/
def fnVmEndsCard : Claim7 := { stood := { row := fnVmEndsRow, standIns := [], harness := (true, "a68a6e96f70b12b2f489a6b1cff52fedb2ceba9205bc9cdf18a6f335a4f18ac5"), looks := true }, kinds := [], alts := [], laidByText := true, laidKinds := [.data, .data, .data], laidTests := true, laidLooks := .later }
def FnVmEndsCardSaid : Prop := Claim7.holds Tryz.pinned (.plain (OpenSpec.ofChange fnVmEndsSpec)) fnVmEndsCard

/-- THE TIED CARD OF 'laws.FnVmFuel'. -/
def fnVmFuelCard : Claim7 := { stood := { row := fnVmFuelRow, standIns := [], harness := (true, "a68a6e96f70b12b2f489a6b1cff52fedb2ceba9205bc9cdf18a6f335a4f18ac5"), looks := true }, kinds := [], alts := [], laidByText := true, laidKinds := [.data, .data, .data], laidTests := true, laidLooks := .later }
def FnVmFuelCardSaid : Prop := Claim7.holds Tryz.pinned (.plain (OpenSpec.ofChange fnVmFuelSpec)) fnVmFuelCard

/-- THE TIED CARD OF 'laws.FnVmBoth'. -/
def fnVmBothCard : Claim7 := { stood := { row := fnVmBothRow, standIns := [], harness := (true, "a68a6e96f70b12b2f489a6b1cff52fedb2ceba9205bc9cdf18a6f335a4f18ac5"), looks := true }, kinds := [], alts := [], laidByText := true, laidKinds := [.data, .data, .data], laidTests := true, laidLooks := .later }
def FnVmBothCardSaid : Prop := Claim7.holds Tryz.pinned (.plain (OpenSpec.ofChange fnVmBothSpec)) fnVmBothCard

/-- THE SECOND FORM's CARD OF 'laws.FnExactVmRun'. -/
def fnExactVmRunUptoCard : Claim7 := { stood := { row := fnExactVmRunUptoRow, standIns := [], harness := (true, "a68a6e96f70b12b2f489a6b1cff52fedb2ceba9205bc9cdf18a6f335a4f18ac5"), looks := true }, kinds := [], alts := [], laidByText := true, laidKinds := [.data, .data, .data], laidTests := true, laidLooks := .later }
def FnExactVmRunUptoCardSaid : Prop := Claim7.holds Tryz.pinned (.plain (OpenSpec.upto fnExactVmRunSpec)) fnExactVmRunUptoCard

/-- THE SECOND FORM's CARD OF 'laws.FnExactRuleRead'. -/
def fnExactRuleReadUptoCard : Claim7 := { stood := { row := fnExactRuleReadUptoRow, standIns := [], harness := (true, "a68a6e96f70b12b2f489a6b1cff52fedb2ceba9205bc9cdf18a6f335a4f18ac5"), looks := true }, kinds := [], alts := [], laidByText := true, laidKinds := [.data, .data, .data, .data, .sentinel, .sentinel, .pinned], laidTests := true, laidLooks := .later }
def FnExactRuleReadUptoCardSaid : Prop := Claim7.holds Tryz.pinned (.plain (OpenSpec.upto fnExactRuleReadSpec)) fnExactRuleReadUptoCard

/-- THE SECOND FORM's CARD OF 'laws.FnExactVmRead'. -/
def fnExactVmReadUptoCard : Claim7 := { stood := { row := fnExactVmReadUptoRow, standIns := [], harness := (true, "a68a6e96f70b12b2f489a6b1cff52fedb2ceba9205bc9cdf18a6f335a4f18ac5"), looks := true }, kinds := [], alts := [], laidByText := true, laidKinds := [.data, .data, .data, .data, .sentinel, .sentinel, .pinned], laidTests := true, laidLooks := .later }
def FnExactVmReadUptoCardSaid : Prop := Claim7.holds Tryz.pinned (.plain (OpenSpec.upto fnExactVmReadSpec)) fnExactVmReadUptoCard

/-- THE SECOND FORM's CARD OF 'laws.FnRuleText'. -/
def fnRuleTextUptoCard : Claim7 := { stood := { row := fnRuleTextUptoRow, standIns := [], harness := (true, "a68a6e96f70b12b2f489a6b1cff52fedb2ceba9205bc9cdf18a6f335a4f18ac5"), looks := true }, kinds := [], alts := [], laidByText := true, laidKinds := [.data, .data, .data, .data, .sentinel, .sentinel, .pinned], laidTests := true, laidLooks := .later }
def FnRuleTextUptoCardSaid : Prop := Claim7.holds Tryz.pinned (.plain (OpenSpec.upto fnRuleTextSpec)) fnRuleTextUptoCard

/-- THE SECOND FORM's CARD OF 'laws.FnRuleFuel'. -/
def fnRuleFuelUptoCard : Claim7 := { stood := { row := fnRuleFuelUptoRow, standIns := [], harness := (true, "a68a6e96f70b12b2f489a6b1cff52fedb2ceba9205bc9cdf18a6f335a4f18ac5"), looks := true }, kinds := [], alts := [], laidByText := true, laidKinds := [.data, .data, .data], laidTests := true, laidLooks := .later }
def FnRuleFuelUptoCardSaid : Prop := Claim7.holds Tryz.pinned (.plain (OpenSpec.upto fnRuleFuelSpec)) fnRuleFuelUptoCard

/-- THE SECOND FORM's CARD OF 'laws.FnRuleOnly'. -/
def fnRuleOnlyUptoCard : Claim7 := { stood := { row := fnRuleOnlyUptoRow, standIns := [], harness := (true, "a68a6e96f70b12b2f489a6b1cff52fedb2ceba9205bc9cdf18a6f335a4f18ac5"), looks := true }, kinds := [], alts := [], laidByText := true, laidKinds := [.data, .data, .data], laidTests := true, laidLooks := .later }
def FnRuleOnlyUptoCardSaid : Prop := Claim7.holds Tryz.pinned (.plain (OpenSpec.upto fnRuleOnlySpec)) fnRuleOnlyUptoCard

/-- THE SECOND FORM's CARD OF 'laws.FnRuleBox'. -/
def fnRuleBoxUptoCard : Claim7 := { stood := { row := fnRuleBoxUptoRow, standIns := [], harness := (true, "a68a6e96f70b12b2f489a6b1cff52fedb2ceba9205bc9cdf18a6f335a4f18ac5"), looks := true }, kinds := [], alts := [], laidByText := true, laidKinds := [.data, .data, .data], laidTests := true, laidLooks := .later }
def FnRuleBoxUptoCardSaid : Prop := Claim7.holds Tryz.pinned (.plain (OpenSpec.upto fnRuleBoxSpec)) fnRuleBoxUptoCard

/-- THE SECOND FORM's CARD OF 'laws.FnRuleSwap'. -/
def fnRuleSwapUptoCard : Claim7 := { stood := { row := fnRuleSwapUptoRow, standIns := [], harness := (true, "a68a6e96f70b12b2f489a6b1cff52fedb2ceba9205bc9cdf18a6f335a4f18ac5"), looks := true }, kinds := [], alts := [], laidByText := true, laidKinds := [.data, .data, .data], laidTests := true, laidLooks := .later }
def FnRuleSwapUptoCardSaid : Prop := Claim7.holds Tryz.pinned (.plain (OpenSpec.upto fnRuleSwapSpec)) fnRuleSwapUptoCard

/-- THE SECOND FORM's CARD OF 'laws.FnVmTop'. -/
def fnVmTopUptoCard : Claim7 := { stood := { row := fnVmTopUptoRow, standIns := [], harness := (true, "a68a6e96f70b12b2f489a6b1cff52fedb2ceba9205bc9cdf18a6f335a4f18ac5"), looks := true }, kinds := [], alts := [], laidByText := true, laidKinds := [.data, .data, .data], laidTests := true, laidLooks := .later }
def FnVmTopUptoCardSaid : Prop := Claim7.holds Tryz.pinned (.plain (OpenSpec.upto fnVmTopSpec)) fnVmTopUptoCard

/-- THE SECOND FORM's CARD OF 'laws.FnVmEnds'. -/
def fnVmEndsUptoCard : Claim7 := { stood := { row := fnVmEndsUptoRow, standIns := [], harness := (true, "a68a6e96f70b12b2f489a6b1cff52fedb2ceba9205bc9cdf18a6f335a4f18ac5"), looks := true }, kinds := [], alts := [], laidByText := true, laidKinds := [.data, .data, .data], laidTests := true, laidLooks := .later }
def FnVmEndsUptoCardSaid : Prop := Claim7.holds Tryz.pinned (.plain (OpenSpec.upto fnVmEndsSpec)) fnVmEndsUptoCard

/-- THE SECOND FORM's CARD OF 'laws.FnVmFuel'. -/
def fnVmFuelUptoCard : Claim7 := { stood := { row := fnVmFuelUptoRow, standIns := [], harness := (true, "a68a6e96f70b12b2f489a6b1cff52fedb2ceba9205bc9cdf18a6f335a4f18ac5"), looks := true }, kinds := [], alts := [], laidByText := true, laidKinds := [.data, .data, .data], laidTests := true, laidLooks := .later }
def FnVmFuelUptoCardSaid : Prop := Claim7.holds Tryz.pinned (.plain (OpenSpec.upto fnVmFuelSpec)) fnVmFuelUptoCard

/-- THE SECOND FORM's CARD OF 'laws.FnVmBoth'. -/
def fnVmBothUptoCard : Claim7 := { stood := { row := fnVmBothUptoRow, standIns := [], harness := (true, "a68a6e96f70b12b2f489a6b1cff52fedb2ceba9205bc9cdf18a6f335a4f18ac5"), looks := true }, kinds := [], alts := [], laidByText := true, laidKinds := [.data, .data, .data], laidTests := true, laidLooks := .later }
def FnVmBothUptoCardSaid : Prop := Claim7.holds Tryz.pinned (.plain (OpenSpec.upto fnVmBothSpec)) fnVmBothUptoCard
end Rows
end Go.Proofs.YtemjooejfmkkbaaGreatDoor
