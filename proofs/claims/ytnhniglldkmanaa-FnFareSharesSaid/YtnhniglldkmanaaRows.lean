/-
  No cell of these rows narrows 'for every input' (looked for: loops, veiled, ifaces, maps, wideKeys, modest, calm, conditions, laid).
  DERIVED. THE GIVEN ROWS OF THIS SEAT. 2 by the template 'for every input the law returns true; each argument reads behind the call as it read before'; 0 by the template 'total and deterministic' (their statements: YtnhniglldkmanaaTotals.lean).
  GIVEN WITH THE SEED: the statements are not yours to turn. If you find one false, say at which input.
  Laid BY PROGRAM, IN A SANDBOX (cutbox-rows.mjs): the forced cells as the released guide's own fill.sh prints them over the translation 0813dbe53a2f3858… (all of the seat's roots in one cut). By AI agents, Wed Nov 11 2026. No macro, syntax, notation, axiom, sorry.
-/
import Derived.Test.YtnhniglldkmanaaChecked
import GoSem.Claim
import GoSem.ClaimJoined
import GoSem.ClaimMapViews
import Derived.JoinedTies
import Derived.KernelRfl
namespace Go.Proofs.Ytnhniglldkmanaa
/- THE CELL 'sum', in the pinned program and in every row, IS THE sha256 OF THE DUMP (.gsa) THAT YtnhniglldkmanaaProg.lean LOADS. Nothing in Lean hashes anything: it is a label: what it is worth is what the hold of that sum in a sandbox is worth. -/
noncomputable def Try.pinned : Pinned := { name := "ytnhniglldkmanaa", sum := "0813dbe53a2f3858f223aafd5a64c46c11626df23e91ee2af3a893aa25ea70a9", checked := Try.checked }
namespace Rows
def none {H : Type} : Left H := { results := [], args := [] }

/-- 'laws.FnFareShares': WHATEVER THE INPUT: true; the input reads as it did. -/
def fnFareSharesSpec : ChangeSpec := { name := "fnFareShares", fn := fun _ => fun
  | [d] => { results := [.lit (.bool true)], args := [d] }
  | _ => none }
def fnFareSharesRow : OpenClaim := { program := "ytnhniglldkmanaa", sum := "0813dbe53a2f3858f223aafd5a64c46c11626df23e91ee2af3a893aa25ea70a9", func := "loop.example/stopover/laws.FnFareShares", spec := "fnFareShares", inPlace := ["internal/reflectlite.ValueOf", "internal/reflectlite.Swapper", "(internal/reflectlite.Value).Len"], unfollowed := true, recurses := true, apart := false }
def FnFareSharesSaid : Prop := fnFareSharesRow.holds Try.pinned (OpenSpec.ofChange fnFareSharesSpec)

/-- ITS FALSE NEIGHBOUR: 'it returns false'. Refute it at one input. -/
def fnFareSharesWrong : ChangeSpec := { name := "fnFareShares", fn := fun _ => fun
  | [d] => { results := [.lit (.bool false)], args := [d] }
  | _ => none }
def FnFareSharesWrongFalsely : Prop := fnFareSharesRow.holds Try.pinned (OpenSpec.ofChange fnFareSharesWrong)

/-- 'laws.FnExactFareShares': WHATEVER THE INPUT: true; the input reads as it did. -/
def fnExactFareSharesSpec : ChangeSpec := { name := "fnExactFareShares", fn := fun _ => fun
  | [d1, d2] => { results := [.lit (.bool true)], args := [d1, d2] }
  | _ => none }
def fnExactFareSharesRow : OpenClaim := { program := "ytnhniglldkmanaa", sum := "0813dbe53a2f3858f223aafd5a64c46c11626df23e91ee2af3a893aa25ea70a9", func := "loop.example/stopover/laws.FnExactFareShares", spec := "fnExactFareShares", inPlace := ["internal/reflectlite.ValueOf", "internal/reflectlite.Swapper", "(internal/reflectlite.Value).Len"], unfollowed := true, recurses := true, apart := false }
def FnExactFareSharesSaid : Prop := fnExactFareSharesRow.holds Try.pinned (OpenSpec.ofChange fnExactFareSharesSpec)

/-- ITS FALSE NEIGHBOUR: 'it returns false'. Refute it at one input. -/
def fnExactFareSharesWrong : ChangeSpec := { name := "fnExactFareShares", fn := fun _ => fun
  | [d1, d2] => { results := [.lit (.bool false)], args := [d1, d2] }
  | _ => none }
def FnExactFareSharesWrongFalsely : Prop := fnExactFareSharesRow.holds Try.pinned (OpenSpec.ofChange fnExactFareSharesWrong)

/- THE SECOND FORM. 'bulk': how many values and letters a reading holds, each counted each time it is reached (what is shared counts as often as it is met; a slice's spare places count too). A statement '..UptoSaid' is the law's where the arguments, and the package variables that the reading takes, are together of bulk at most 1048576: NARROWER than '..Said'. Prove '..Said' where nothing that the law and all that it calls make is longer than what came in: it says more and counts as full. Else prove '..UptoSaid'. A law counts once. -/
mutual
def uptoBulk {H : Type} : DataW H → Nat
  | .lit (.string bytes) => bytes.length + 1
  | .lit _ => 1
  | .nil => 1
  | .ptr d => uptoBulk d + 1
  | .slice elems spare => uptoBulkAll elems + uptoBulkAll spare + 1
  | .agg parts => uptoBulkAll parts + 1
  | .iface _ d => uptoBulk d + 1
  | .map entries => uptoBulkEntries entries + 1
  | .held _ => 1
def uptoBulkAll {H : Type} : List (DataW H) → Nat
  | [] => 0
  | d :: r => uptoBulk d + uptoBulkAll r
def uptoBulkEntries {H : Type} : List (Lit × DataW H) → Nat
  | [] => 0
  | x :: r => uptoBulkEntry x + uptoBulkEntries r
def uptoBulkEntry {H : Type} : Lit × DataW H → Nat
  | (.string bytes, d) => bytes.length + uptoBulk d + 1
  | (_, d) => uptoBulk d + 1
 end
def uptoSmall : (H : Type) → List (DataW H) → Bool := fun _ ds => decide (uptoBulkAll ds ≤ 1048576)
def OpenSpec.upto (s : _root_.Go.ChangeSpec) : _root_.Go.OpenSpec := { _root_.Go.OpenSpec.ofChange s with cond := some uptoSmall }

/-- 'laws.FnFareShares', WHERE WHAT IT READS IS OF BULK AT MOST 1048576: true; the input reads as it did. -/
def fnFareSharesUptoRow : OpenClaim := { program := "ytnhniglldkmanaa", sum := "0813dbe53a2f3858f223aafd5a64c46c11626df23e91ee2af3a893aa25ea70a9", func := "loop.example/stopover/laws.FnFareShares", spec := "fnFareShares", inPlace := ["internal/reflectlite.ValueOf", "internal/reflectlite.Swapper", "(internal/reflectlite.Value).Len"], unfollowed := true, recurses := true, apart := false, narrowed := true }
def FnFareSharesUptoSaid : Prop := fnFareSharesUptoRow.holds Try.pinned (OpenSpec.upto fnFareSharesSpec)

/-- 'laws.FnExactFareShares', WHERE WHAT IT READS IS OF BULK AT MOST 1048576: true; the input reads as it did. -/
def fnExactFareSharesUptoRow : OpenClaim := { program := "ytnhniglldkmanaa", sum := "0813dbe53a2f3858f223aafd5a64c46c11626df23e91ee2af3a893aa25ea70a9", func := "loop.example/stopover/laws.FnExactFareShares", spec := "fnExactFareShares", inPlace := ["internal/reflectlite.ValueOf", "internal/reflectlite.Swapper", "(internal/reflectlite.Value).Len"], unfollowed := true, recurses := true, apart := false, narrowed := true }
def FnExactFareSharesUptoSaid : Prop := fnExactFareSharesUptoRow.holds Try.pinned (OpenSpec.upto fnExactFareSharesSpec)

end Rows
end Go.Proofs.Ytnhniglldkmanaa
