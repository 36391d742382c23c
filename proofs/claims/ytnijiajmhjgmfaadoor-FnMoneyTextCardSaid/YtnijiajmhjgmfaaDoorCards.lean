/-
  DERIVED. GIVEN WITH THE SEED: THE CARDS: each row of YtnijiajmhjgmfaaDoorRows.lean that lists a variable, with what it lists TIED to the program's text (the seventh form; the later family's looks); each row that meets fmt, with fmt's text TOLD by the authors' own Lean function (tested against real Go, not proved from fmt's source: count such statements apart). THE CARD IS WHAT COUNTS. Prove the row's statement (the work); the ties are given (YtnijiajmhjgmfaaDoorTie.lean); close each card by the builder's one call (the guide's Derived/Test/ToyasCard.lean, 'card_holds'). Laid BY PROGRAM, IN A SANDBOX (cutbox-door.mjs). By AI agents, Wed Nov 11 2026. No macro, syntax, notation, axiom, sorry.
-/
import Derived.Test.YtnijiajmhjgmfaaDoorRows
import GoSem.ClaimSeven
namespace Go.Proofs.YtnijiajmhjgmfaaDoor
namespace Rows

/-- THE TIED CARD OF 'laws.FnExactMoneyWrite'. -/
def fnExactMoneyWriteCard : Claim7 := { stood := { row := fnExactMoneyWriteRow, standIns := [], harness := (true, "3f5dabf0c758df7dbd26923c963ed648f48d37aad1f832e964134fed097a24e4"), looks := true }, kinds := [], alts := [], laidByText := true, laidKinds := [.data, .data, .data], laidTests := true, laidLooks := .later }
def FnExactMoneyWriteCardSaid : Prop := Claim7.holds Tryd.pinned (.plain (OpenSpec.ofChange fnExactMoneyWriteSpec)) fnExactMoneyWriteCard

/-- THE TIED CARD OF 'laws.FnExactMoneyRead'. -/
def fnExactMoneyReadCard : Claim7 := { stood := { row := fnExactMoneyReadRow, standIns := [], harness := (true, "3f5dabf0c758df7dbd26923c963ed648f48d37aad1f832e964134fed097a24e4"), looks := true }, kinds := [], alts := [], laidByText := true, laidKinds := [.data, .data, .data, .sentinel, .sentinel], laidTests := true, laidLooks := .later }
def FnExactMoneyReadCardSaid : Prop := Claim7.holds Tryd.pinned (.plain (OpenSpec.ofChange fnExactMoneyReadSpec)) fnExactMoneyReadCard

/-- THE TIED CARD OF 'laws.FnMoneyText'. -/
def fnMoneyTextCard : Claim7 := { stood := { row := fnMoneyTextRow, standIns := [], harness := (true, "3f5dabf0c758df7dbd26923c963ed648f48d37aad1f832e964134fed097a24e4"), looks := true }, kinds := [], alts := [], laidByText := true, laidKinds := [.data, .data, .data, .sentinel, .sentinel], laidTests := true, laidLooks := .later }
def FnMoneyTextCardSaid : Prop := Claim7.holds Tryd.pinned (.plain (OpenSpec.ofChange fnMoneyTextSpec)) fnMoneyTextCard

/-- THE SECOND FORM's CARD OF 'laws.FnExactMoneyWrite'. -/
def fnExactMoneyWriteUptoCard : Claim7 := { stood := { row := fnExactMoneyWriteUptoRow, standIns := [], harness := (true, "3f5dabf0c758df7dbd26923c963ed648f48d37aad1f832e964134fed097a24e4"), looks := true }, kinds := [], alts := [], laidByText := true, laidKinds := [.data, .data, .data], laidTests := true, laidLooks := .later }
def FnExactMoneyWriteUptoCardSaid : Prop := Claim7.holds Tryd.pinned (.plain (OpenSpec.upto fnExactMoneyWriteSpec)) fnExactMoneyWriteUptoCard

/-- THE SECOND FORM's CARD OF 'laws.FnExactMoneyRead'. -/
def fnExactMoneyReadUptoCard : Claim7 := { stood := { row := fnExactMoneyReadUptoRow, standIns := [], harness := (true, "3f5dabf0c758df7dbd26923c963ed648f48d37aad1f832e964134fed097a24e4"), looks := true }, kinds := [], alts := [], laidByText := true, laidKinds := [.data, .data, .data, .sentinel, .sentinel], laidTests := true, laidLooks := .later }
def FnExactMoneyReadUptoCardSaid : Prop := Claim7.holds Tryd.pinned (.plain (OpenSpec.upto fnExactMoneyReadSpec)) fnExactMoneyReadUptoCard

/-- THE SECOND FORM's CARD OF 'laws.FnMoneyText'. -/
def fnMoneyTextUptoCard : Claim7 := { stood := { row := fnMoneyTextUptoRow, standIns := [], harness := (true, "3f5dabf0c758df7dbd26923c963ed648f48d37aad1f832e964134fed097a24e4"), looks := true }, kinds := [], alts := [], laidByText := true, laidKinds := [.data, .data, .data, .sentinel, .sentinel], laidTests := true, laidLooks := .later }
def FnMoneyTextUptoCardSaid : Prop := Claim7.holds Tryd.pinned (.plain (OpenSpec.upto fnMoneyTextSpec)) fnMoneyTextUptoCard
end Rows
end Go.Proofs.YtnijiajmhjgmfaaDoor
