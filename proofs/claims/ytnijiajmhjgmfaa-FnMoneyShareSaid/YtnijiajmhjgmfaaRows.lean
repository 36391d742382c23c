/-
  No cell of these rows narrows 'for every input' (looked for: loops, veiled, ifaces, maps, wideKeys, modest, calm, conditions, laid).
  DERIVED. THE GIVEN ROWS OF THIS SEAT. 8 by the template 'for every input the law returns true; each argument reads behind the call as it read before'; 0 by the template 'total and deterministic' (their statements: YtnijiajmhjgmfaaTotals.lean).
  GIVEN WITH THE SEED: the statements are not yours to turn. If you find one false, say at which input.
  Laid BY PROGRAM, IN A SANDBOX (cutbox-rows.mjs): the forced cells as the released guide's own fill.sh prints them over the translation 5236b2c87690efdb… (all of the seat's roots in one cut). By AI agents, Wed Nov 11 2026. No macro, syntax, notation, axiom, sorry.
-/
import Derived.Test.YtnijiajmhjgmfaaChecked
import GoSem.Claim
import GoSem.ClaimJoined
import GoSem.ClaimMapViews
import Derived.JoinedTies
import Derived.KernelRfl
namespace Go.Proofs.Ytnijiajmhjgmfaa
/- THE CELL 'sum', in the pinned program and in every row, IS THE sha256 OF THE DUMP (.gsa) THAT YtnijiajmhjgmfaaProg.lean LOADS. Nothing in Lean hashes anything: it is a label: what it is worth is what the hold of that sum in a sandbox is worth. -/
noncomputable def Try.pinned : Pinned := { name := "ytnijiajmhjgmfaa", sum := "5236b2c87690efdb500606a7cc08f96b8fd0aec8261b0a0df03002ad5dc4f8d6", checked := Try.checked }
namespace Rows
def none {H : Type} : Left H := { results := [], args := [] }

/-- 'laws.FnExactMoneyOk': WHATEVER THE INPUT: true; the input reads as it did. -/
def fnExactMoneyOkSpec : ChangeSpec := { name := "fnExactMoneyOk", fn := fun _ => fun
  | [d] => { results := [.lit (.bool true)], args := [d] }
  | _ => none }
def fnExactMoneyOkRow : OpenClaim := { program := "ytnijiajmhjgmfaa", sum := "5236b2c87690efdb500606a7cc08f96b8fd0aec8261b0a0df03002ad5dc4f8d6", func := "loop.example/stopover/laws.FnExactMoneyOk", spec := "fnExactMoneyOk", apart := false }
def FnExactMoneyOkSaid : Prop := fnExactMoneyOkRow.holds Try.pinned (OpenSpec.ofChange fnExactMoneyOkSpec)

/-- ITS FALSE NEIGHBOUR: 'it returns false'. Refute it at one input. -/
def fnExactMoneyOkWrong : ChangeSpec := { name := "fnExactMoneyOk", fn := fun _ => fun
  | [d] => { results := [.lit (.bool false)], args := [d] }
  | _ => none }
def FnExactMoneyOkWrongFalsely : Prop := fnExactMoneyOkRow.holds Try.pinned (OpenSpec.ofChange fnExactMoneyOkWrong)

/-- 'laws.FnExactMoneyAdd': WHATEVER THE INPUT: true; the input reads as it did. -/
def fnExactMoneyAddSpec : ChangeSpec := { name := "fnExactMoneyAdd", fn := fun _ => fun
  | [d1, d2] => { results := [.lit (.bool true)], args := [d1, d2] }
  | _ => none }
def fnExactMoneyAddRow : OpenClaim := { program := "ytnijiajmhjgmfaa", sum := "5236b2c87690efdb500606a7cc08f96b8fd0aec8261b0a0df03002ad5dc4f8d6", func := "loop.example/stopover/laws.FnExactMoneyAdd", spec := "fnExactMoneyAdd", apart := false }
def FnExactMoneyAddSaid : Prop := fnExactMoneyAddRow.holds Try.pinned (OpenSpec.ofChange fnExactMoneyAddSpec)

/-- ITS FALSE NEIGHBOUR: 'it returns false'. Refute it at one input. -/
def fnExactMoneyAddWrong : ChangeSpec := { name := "fnExactMoneyAdd", fn := fun _ => fun
  | [d1, d2] => { results := [.lit (.bool false)], args := [d1, d2] }
  | _ => none }
def FnExactMoneyAddWrongFalsely : Prop := fnExactMoneyAddRow.holds Try.pinned (OpenSpec.ofChange fnExactMoneyAddWrong)

/-- 'laws.FnExactMoneyPart': WHATEVER THE INPUT: true; the input reads as it did. -/
def fnExactMoneyPartSpec : ChangeSpec := { name := "fnExactMoneyPart", fn := fun _ => fun
  | [d1, d2, d3] => { results := [.lit (.bool true)], args := [d1, d2, d3] }
  | _ => none }
def fnExactMoneyPartRow : OpenClaim := { program := "ytnijiajmhjgmfaa", sum := "5236b2c87690efdb500606a7cc08f96b8fd0aec8261b0a0df03002ad5dc4f8d6", func := "loop.example/stopover/laws.FnExactMoneyPart", spec := "fnExactMoneyPart", apart := false }
def FnExactMoneyPartSaid : Prop := fnExactMoneyPartRow.holds Try.pinned (OpenSpec.ofChange fnExactMoneyPartSpec)

/-- ITS FALSE NEIGHBOUR: 'it returns false'. Refute it at one input. -/
def fnExactMoneyPartWrong : ChangeSpec := { name := "fnExactMoneyPart", fn := fun _ => fun
  | [d1, d2, d3] => { results := [.lit (.bool false)], args := [d1, d2, d3] }
  | _ => none }
def FnExactMoneyPartWrongFalsely : Prop := fnExactMoneyPartRow.holds Try.pinned (OpenSpec.ofChange fnExactMoneyPartWrong)

/-- 'laws.FnExactMoneyShare': WHATEVER THE INPUT: true; the input reads as it did. -/
def fnExactMoneyShareSpec : ChangeSpec := { name := "fnExactMoneyShare", fn := fun _ => fun
  | [d1, d2] => { results := [.lit (.bool true)], args := [d1, d2] }
  | _ => none }
def fnExactMoneyShareRow : OpenClaim := { program := "ytnijiajmhjgmfaa", sum := "5236b2c87690efdb500606a7cc08f96b8fd0aec8261b0a0df03002ad5dc4f8d6", func := "loop.example/stopover/laws.FnExactMoneyShare", spec := "fnExactMoneyShare", inPlace := ["internal/reflectlite.ValueOf", "internal/reflectlite.Swapper", "(internal/reflectlite.Value).Len"], unfollowed := true, recurses := true, apart := false }
def FnExactMoneyShareSaid : Prop := fnExactMoneyShareRow.holds Try.pinned (OpenSpec.ofChange fnExactMoneyShareSpec)

/-- ITS FALSE NEIGHBOUR: 'it returns false'. Refute it at one input. -/
def fnExactMoneyShareWrong : ChangeSpec := { name := "fnExactMoneyShare", fn := fun _ => fun
  | [d1, d2] => { results := [.lit (.bool false)], args := [d1, d2] }
  | _ => none }
def FnExactMoneyShareWrongFalsely : Prop := fnExactMoneyShareRow.holds Try.pinned (OpenSpec.ofChange fnExactMoneyShareWrong)

/-- 'laws.FnMoneyAdd': WHATEVER THE INPUT: true; the input reads as it did. -/
def fnMoneyAddSpec : ChangeSpec := { name := "fnMoneyAdd", fn := fun _ => fun
  | [d] => { results := [.lit (.bool true)], args := [d] }
  | _ => none }
def fnMoneyAddRow : OpenClaim := { program := "ytnijiajmhjgmfaa", sum := "5236b2c87690efdb500606a7cc08f96b8fd0aec8261b0a0df03002ad5dc4f8d6", func := "loop.example/stopover/laws.FnMoneyAdd", spec := "fnMoneyAdd", apart := false }
def FnMoneyAddSaid : Prop := fnMoneyAddRow.holds Try.pinned (OpenSpec.ofChange fnMoneyAddSpec)

/-- ITS FALSE NEIGHBOUR: 'it returns false'. Refute it at one input. -/
def fnMoneyAddWrong : ChangeSpec := { name := "fnMoneyAdd", fn := fun _ => fun
  | [d] => { results := [.lit (.bool false)], args := [d] }
  | _ => none }
def FnMoneyAddWrongFalsely : Prop := fnMoneyAddRow.holds Try.pinned (OpenSpec.ofChange fnMoneyAddWrong)

/-- 'laws.FnMoneyPart': WHATEVER THE INPUT: true; the input reads as it did. -/
def fnMoneyPartSpec : ChangeSpec := { name := "fnMoneyPart", fn := fun _ => fun
  | [d] => { results := [.lit (.bool true)], args := [d] }
  | _ => none }
def fnMoneyPartRow : OpenClaim := { program := "ytnijiajmhjgmfaa", sum := "5236b2c87690efdb500606a7cc08f96b8fd0aec8261b0a0df03002ad5dc4f8d6", func := "loop.example/stopover/laws.FnMoneyPart", spec := "fnMoneyPart", apart := false }
def FnMoneyPartSaid : Prop := fnMoneyPartRow.holds Try.pinned (OpenSpec.ofChange fnMoneyPartSpec)

/-- ITS FALSE NEIGHBOUR: 'it returns false'. Refute it at one input. -/
def fnMoneyPartWrong : ChangeSpec := { name := "fnMoneyPart", fn := fun _ => fun
  | [d] => { results := [.lit (.bool false)], args := [d] }
  | _ => none }
def FnMoneyPartWrongFalsely : Prop := fnMoneyPartRow.holds Try.pinned (OpenSpec.ofChange fnMoneyPartWrong)

/-- 'laws.FnMoneyShare': WHATEVER THE INPUT: true; the input reads as it did. -/
def fnMoneyShareSpec : ChangeSpec := { name := "fnMoneyShare", fn := fun _ => fun
  | [d] => { results := [.lit (.bool true)], args := [d] }
  | _ => none }
def fnMoneyShareRow : OpenClaim := { program := "ytnijiajmhjgmfaa", sum := "5236b2c87690efdb500606a7cc08f96b8fd0aec8261b0a0df03002ad5dc4f8d6", func := "loop.example/stopover/laws.FnMoneyShare", spec := "fnMoneyShare", inPlace := ["internal/reflectlite.ValueOf", "internal/reflectlite.Swapper", "(internal/reflectlite.Value).Len"], unfollowed := true, recurses := true, apart := false }
def FnMoneyShareSaid : Prop := fnMoneyShareRow.holds Try.pinned (OpenSpec.ofChange fnMoneyShareSpec)

/-- ITS FALSE NEIGHBOUR: 'it returns false'. Refute it at one input. -/
def fnMoneyShareWrong : ChangeSpec := { name := "fnMoneyShare", fn := fun _ => fun
  | [d] => { results := [.lit (.bool false)], args := [d] }
  | _ => none }
def FnMoneyShareWrongFalsely : Prop := fnMoneyShareRow.holds Try.pinned (OpenSpec.ofChange fnMoneyShareWrong)

/-- 'laws.FnMoneyTurn': WHATEVER THE INPUT: true; the input reads as it did. -/
def fnMoneyTurnSpec : ChangeSpec := { name := "fnMoneyTurn", fn := fun _ => fun
  | [d] => { results := [.lit (.bool true)], args := [d] }
  | _ => none }
def fnMoneyTurnRow : OpenClaim := { program := "ytnijiajmhjgmfaa", sum := "5236b2c87690efdb500606a7cc08f96b8fd0aec8261b0a0df03002ad5dc4f8d6", func := "loop.example/stopover/laws.FnMoneyTurn", spec := "fnMoneyTurn", inPlace := ["internal/reflectlite.ValueOf", "internal/reflectlite.Swapper", "(internal/reflectlite.Value).Len"], unfollowed := true, recurses := true, apart := false }
def FnMoneyTurnSaid : Prop := fnMoneyTurnRow.holds Try.pinned (OpenSpec.ofChange fnMoneyTurnSpec)

/-- ITS FALSE NEIGHBOUR: 'it returns false'. Refute it at one input. -/
def fnMoneyTurnWrong : ChangeSpec := { name := "fnMoneyTurn", fn := fun _ => fun
  | [d] => { results := [.lit (.bool false)], args := [d] }
  | _ => none }
def FnMoneyTurnWrongFalsely : Prop := fnMoneyTurnRow.holds Try.pinned (OpenSpec.ofChange fnMoneyTurnWrong)

/- THE SECOND FORM. 'bulk': how many values and letters a reading holds, each counted each time it is reached (what is shared counts as often as it is met; a slice's spare places count too). A statement '..UptoSaid' is the law's where the arguments, and the package variables that the reading takes, are together of bulk at most 1048576: NARROWER than '..Said'. Prove '..Said' where nothing that the law and all that it calls make is longer than what came in: it says more and counts as full. Else prove '..UptoSaid'. A law counts once. -/
mutual
def uptoBulk {H : Type} : DataW H → Nat
  | .lit (.string bytes) => bytes.length + 1
  | .lit _ => 1
  | .nil => 1
  | .ptr d => uptoBulk d + 1
  | .slice elems spare => uptoBulkAll elems + uptoBulkAll spare + 1
  | .agg parts => uptoBulkAll parts + 1
  | .iface _ d => uptoBulk d + 1
  | .map entries => uptoBulkEntries entries + 1
  | .held _ => 1
def uptoBulkAll {H : Type} : List (DataW H) → Nat
  | [] => 0
  | d :: r => uptoBulk d + uptoBulkAll r
def uptoBulkEntries {H : Type} : List (Lit × DataW H) → Nat
  | [] => 0
  | x :: r => uptoBulkEntry x + uptoBulkEntries r
def uptoBulkEntry {H : Type} : Lit × DataW H → Nat
  | (.string bytes, d) => bytes.length + uptoBulk d + 1
  | (_, d) => uptoBulk d + 1
 end
def uptoSmall : (H : Type) → List (DataW H) → Bool := fun _ ds => decide (uptoBulkAll ds ≤ 1048576)
def OpenSpec.upto (s : _root_.Go.ChangeSpec) : _root_.Go.OpenSpec := { _root_.Go.OpenSpec.ofChange s with cond := some uptoSmall }

/-- 'laws.FnExactMoneyOk', WHERE WHAT IT READS IS OF BULK AT MOST 1048576: true; the input reads as it did. -/
def fnExactMoneyOkUptoRow : OpenClaim := { program := "ytnijiajmhjgmfaa", sum := "5236b2c87690efdb500606a7cc08f96b8fd0aec8261b0a0df03002ad5dc4f8d6", func := "loop.example/stopover/laws.FnExactMoneyOk", spec := "fnExactMoneyOk", apart := false, narrowed := true }
def FnExactMoneyOkUptoSaid : Prop := fnExactMoneyOkUptoRow.holds Try.pinned (OpenSpec.upto fnExactMoneyOkSpec)

/-- 'laws.FnExactMoneyAdd', WHERE WHAT IT READS IS OF BULK AT MOST 1048576: true; the input reads as it did. -/
def fnExactMoneyAddUptoRow : OpenClaim := { program := "ytnijiajmhjgmfaa", sum := "5236b2c87690efdb500606a7cc08f96b8fd0aec8261b0a0df03002ad5dc4f8d6", func := "loop.example/stopover/laws.FnExactMoneyAdd", spec := "fnExactMoneyAdd", apart := false, narrowed := true }
def FnExactMoneyAddUptoSaid : Prop := fnExactMoneyAddUptoRow.holds Try.pinned (OpenSpec.upto fnExactMoneyAddSpec)

/-- 'laws.FnExactMoneyPart', WHERE WHAT IT READS IS OF BULK AT MOST 1048576: true; the input reads as it did. -/
def fnExactMoneyPartUptoRow : OpenClaim := { program := "ytnijiajmhjgmfaa", sum := "5236b2c87690efdb500606a7cc08f96b8fd0aec8261b0a0df03002ad5dc4f8d6", func := "loop.example/stopover/laws.FnExactMoneyPart", spec := "fnExactMoneyPart", apart := false, narrowed := true }
def FnExactMoneyPartUptoSaid : Prop := fnExactMoneyPartUptoRow.holds Try.pinned (OpenSpec.upto fnExactMoneyPartSpec)

/-- 'laws.FnExactMoneyShare', WHERE WHAT IT READS IS OF BULK AT MOST 1048576: true; the input reads as it did. -/
def fnExactMoneyShareUptoRow : OpenClaim := { program := "ytnijiajmhjgmfaa", sum := "5236b2c87690efdb500606a7cc08f96b8fd0aec8261b0a0df03002ad5dc4f8d6", func := "loop.example/stopover/laws.FnExactMoneyShare", spec := "fnExactMoneyShare", inPlace := ["internal/reflectlite.ValueOf", "internal/reflectlite.Swapper", "(internal/reflectlite.Value).Len"], unfollowed := true, recurses := true, apart := false, narrowed := true }
def FnExactMoneyShareUptoSaid : Prop := fnExactMoneyShareUptoRow.holds Try.pinned (OpenSpec.upto fnExactMoneyShareSpec)

/-- 'laws.FnMoneyAdd', WHERE WHAT IT READS IS OF BULK AT MOST 1048576: true; the input reads as it did. -/
def fnMoneyAddUptoRow : OpenClaim := { program := "ytnijiajmhjgmfaa", sum := "5236b2c87690efdb500606a7cc08f96b8fd0aec8261b0a0df03002ad5dc4f8d6", func := "loop.example/stopover/laws.FnMoneyAdd", spec := "fnMoneyAdd", apart := false, narrowed := true }
def FnMoneyAddUptoSaid : Prop := fnMoneyAddUptoRow.holds Try.pinned (OpenSpec.upto fnMoneyAddSpec)

/-- 'laws.FnMoneyPart', WHERE WHAT IT READS IS OF BULK AT MOST 1048576: true; the input reads as it did. -/
def fnMoneyPartUptoRow : OpenClaim := { program := "ytnijiajmhjgmfaa", sum := "5236b2c87690efdb500606a7cc08f96b8fd0aec8261b0a0df03002ad5dc4f8d6", func := "loop.example/stopover/laws.FnMoneyPart", spec := "fnMoneyPart", apart := false, narrowed := true }
def FnMoneyPartUptoSaid : Prop := fnMoneyPartUptoRow.holds Try.pinned (OpenSpec.upto fnMoneyPartSpec)

/-- 'laws.FnMoneyShare', WHERE WHAT IT READS IS OF BULK AT MOST 1048576: true; the input reads as it did. -/
def fnMoneyShareUptoRow : OpenClaim := { program := "ytnijiajmhjgmfaa", sum := "5236b2c87690efdb500606a7cc08f96b8fd0aec8261b0a0df03002ad5dc4f8d6", func := "loop.example/stopover/laws.FnMoneyShare", spec := "fnMoneyShare", inPlace := ["internal/reflectlite.ValueOf", "internal/reflectlite.Swapper", "(internal/reflectlite.Value).Len"], unfollowed := true, recurses := true, apart := false, narrowed := true }
def FnMoneyShareUptoSaid : Prop := fnMoneyShareUptoRow.holds Try.pinned (OpenSpec.upto fnMoneyShareSpec)

/-- 'laws.FnMoneyTurn', WHERE WHAT IT READS IS OF BULK AT MOST 1048576: true; the input reads as it did. -/
def fnMoneyTurnUptoRow : OpenClaim := { program := "ytnijiajmhjgmfaa", sum := "5236b2c87690efdb500606a7cc08f96b8fd0aec8261b0a0df03002ad5dc4f8d6", func := "loop.example/stopover/laws.FnMoneyTurn", spec := "fnMoneyTurn", inPlace := ["internal/reflectlite.ValueOf", "internal/reflectlite.Swapper", "(internal/reflectlite.Value).Len"], unfollowed := true, recurses := true, apart := false, narrowed := true }
def FnMoneyTurnUptoSaid : Prop := fnMoneyTurnUptoRow.holds Try.pinned (OpenSpec.upto fnMoneyTurnSpec)

end Rows
end Go.Proofs.Ytnijiajmhjgmfaa
