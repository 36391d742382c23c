/-
  No cell of these rows narrows 'for every input' (looked for: loops, veiled, ifaces, maps, wideKeys, modest, calm, conditions, laid).
  DERIVED. THE GIVEN ROWS OF THIS SEAT. 6 by the template 'for every input the law returns true; each argument reads behind the call as it read before'; 0 by the template 'total and deterministic' (their statements: YtkaegojnhealhaaTotals.lean).
  GIVEN WITH THE SEED: the statements are not yours to turn. If you find one false, say at which input.
  Laid BY PROGRAM, IN A SANDBOX (cutbox-rows.mjs): the forced cells as the released guide's own fill.sh prints them over the translation 12c053ee34a38c31… (all of the seat's roots in one cut). By AI agents, Wed Nov 11 2026. No macro, syntax, notation, axiom, sorry.
-/
import Derived.Test.YtkaegojnhealhaaChecked
import GoSem.Claim
import GoSem.ClaimJoined
import GoSem.ClaimMapViews
import Derived.JoinedTies
import Derived.KernelRfl
namespace Go.Proofs.Ytkaegojnhealhaa
/- THE CELL 'sum', in the pinned program and in every row, IS THE sha256 OF THE DUMP (.gsa) THAT YtkaegojnhealhaaProg.lean LOADS. Nothing in Lean hashes anything: it is a label: what it is worth is what the hold of that sum in a sandbox is worth. -/
noncomputable def Try.pinned : Pinned := { name := "ytkaegojnhealhaa", sum := "12c053ee34a38c31d9861a1b4d516ff1d467cc13eb9ec1931dccad8bf166dca8", checked := Try.checked }
namespace Rows
def none {H : Type} : Left H := { results := [], args := [] }

/-- 'laws.FnExactLegOk': WHATEVER THE INPUT: true; the input reads as it did. -/
def fnExactLegOkSpec : ChangeSpec := { name := "fnExactLegOk", fn := fun _ => fun
  | [d] => { results := [.lit (.bool true)], args := [d] }
  | _ => none }
def fnExactLegOkRow : OpenClaim := { program := "ytkaegojnhealhaa", sum := "12c053ee34a38c31d9861a1b4d516ff1d467cc13eb9ec1931dccad8bf166dca8", func := "loop.example/stopover/laws.FnExactLegOk", spec := "fnExactLegOk", unfollowed := true, recurses := true, apart := false }
def FnExactLegOkSaid : Prop := fnExactLegOkRow.holds Try.pinned (OpenSpec.ofChange fnExactLegOkSpec)

/-- ITS FALSE NEIGHBOUR: 'it returns false'. Refute it at one input. -/
def fnExactLegOkWrong : ChangeSpec := { name := "fnExactLegOk", fn := fun _ => fun
  | [d] => { results := [.lit (.bool false)], args := [d] }
  | _ => none }
def FnExactLegOkWrongFalsely : Prop := fnExactLegOkRow.holds Try.pinned (OpenSpec.ofChange fnExactLegOkWrong)

/-- 'laws.FnExactLegRoom': WHATEVER THE INPUT: true; the input reads as it did. -/
def fnExactLegRoomSpec : ChangeSpec := { name := "fnExactLegRoom", fn := fun _ => fun
  | [d1, d2] => { results := [.lit (.bool true)], args := [d1, d2] }
  | _ => none }
def fnExactLegRoomRow : OpenClaim := { program := "ytkaegojnhealhaa", sum := "12c053ee34a38c31d9861a1b4d516ff1d467cc13eb9ec1931dccad8bf166dca8", func := "loop.example/stopover/laws.FnExactLegRoom", spec := "fnExactLegRoom", unfollowed := true, recurses := true, apart := false }
def FnExactLegRoomSaid : Prop := fnExactLegRoomRow.holds Try.pinned (OpenSpec.ofChange fnExactLegRoomSpec)

/-- ITS FALSE NEIGHBOUR: 'it returns false'. Refute it at one input. -/
def fnExactLegRoomWrong : ChangeSpec := { name := "fnExactLegRoom", fn := fun _ => fun
  | [d1, d2] => { results := [.lit (.bool false)], args := [d1, d2] }
  | _ => none }
def FnExactLegRoomWrongFalsely : Prop := fnExactLegRoomRow.holds Try.pinned (OpenSpec.ofChange fnExactLegRoomWrong)

/-- 'laws.FnExactLegBid': WHATEVER THE INPUT: true; the input reads as it did. -/
def fnExactLegBidSpec : ChangeSpec := { name := "fnExactLegBid", fn := fun _ => fun
  | [d] => { results := [.lit (.bool true)], args := [d] }
  | _ => none }
def fnExactLegBidRow : OpenClaim := { program := "ytkaegojnhealhaa", sum := "12c053ee34a38c31d9861a1b4d516ff1d467cc13eb9ec1931dccad8bf166dca8", func := "loop.example/stopover/laws.FnExactLegBid", spec := "fnExactLegBid", unfollowed := true, recurses := true, apart := false }
def FnExactLegBidSaid : Prop := fnExactLegBidRow.holds Try.pinned (OpenSpec.ofChange fnExactLegBidSpec)

/-- ITS FALSE NEIGHBOUR: 'it returns false'. Refute it at one input. -/
def fnExactLegBidWrong : ChangeSpec := { name := "fnExactLegBid", fn := fun _ => fun
  | [d] => { results := [.lit (.bool false)], args := [d] }
  | _ => none }
def FnExactLegBidWrongFalsely : Prop := fnExactLegBidRow.holds Try.pinned (OpenSpec.ofChange fnExactLegBidWrong)

/-- 'laws.FnExactLegHold': WHATEVER THE INPUT: true; the input reads as it did. -/
def fnExactLegHoldSpec : ChangeSpec := { name := "fnExactLegHold", fn := fun _ => fun
  | [d1, d2, d3] => { results := [.lit (.bool true)], args := [d1, d2, d3] }
  | _ => none }
def fnExactLegHoldRow : OpenClaim := { program := "ytkaegojnhealhaa", sum := "12c053ee34a38c31d9861a1b4d516ff1d467cc13eb9ec1931dccad8bf166dca8", func := "loop.example/stopover/laws.FnExactLegHold", spec := "fnExactLegHold", unfollowed := true, recurses := true, apart := false }
def FnExactLegHoldSaid : Prop := fnExactLegHoldRow.holds Try.pinned (OpenSpec.ofChange fnExactLegHoldSpec)

/-- ITS FALSE NEIGHBOUR: 'it returns false'. Refute it at one input. -/
def fnExactLegHoldWrong : ChangeSpec := { name := "fnExactLegHold", fn := fun _ => fun
  | [d1, d2, d3] => { results := [.lit (.bool false)], args := [d1, d2, d3] }
  | _ => none }
def FnExactLegHoldWrongFalsely : Prop := fnExactLegHoldRow.holds Try.pinned (OpenSpec.ofChange fnExactLegHoldWrong)

/-- 'laws.FnExactLegKeep': WHATEVER THE INPUT: true; the input reads as it did. -/
def fnExactLegKeepSpec : ChangeSpec := { name := "fnExactLegKeep", fn := fun _ => fun
  | [d1, d2] => { results := [.lit (.bool true)], args := [d1, d2] }
  | _ => none }
def fnExactLegKeepRow : OpenClaim := { program := "ytkaegojnhealhaa", sum := "12c053ee34a38c31d9861a1b4d516ff1d467cc13eb9ec1931dccad8bf166dca8", func := "loop.example/stopover/laws.FnExactLegKeep", spec := "fnExactLegKeep", unfollowed := true, recurses := true, apart := false }
def FnExactLegKeepSaid : Prop := fnExactLegKeepRow.holds Try.pinned (OpenSpec.ofChange fnExactLegKeepSpec)

/-- ITS FALSE NEIGHBOUR: 'it returns false'. Refute it at one input. -/
def fnExactLegKeepWrong : ChangeSpec := { name := "fnExactLegKeep", fn := fun _ => fun
  | [d1, d2] => { results := [.lit (.bool false)], args := [d1, d2] }
  | _ => none }
def FnExactLegKeepWrongFalsely : Prop := fnExactLegKeepRow.holds Try.pinned (OpenSpec.ofChange fnExactLegKeepWrong)

/-- 'laws.FnExactLegDrop': WHATEVER THE INPUT: true; the input reads as it did. -/
def fnExactLegDropSpec : ChangeSpec := { name := "fnExactLegDrop", fn := fun _ => fun
  | [d1, d2] => { results := [.lit (.bool true)], args := [d1, d2] }
  | _ => none }
def fnExactLegDropRow : OpenClaim := { program := "ytkaegojnhealhaa", sum := "12c053ee34a38c31d9861a1b4d516ff1d467cc13eb9ec1931dccad8bf166dca8", func := "loop.example/stopover/laws.FnExactLegDrop", spec := "fnExactLegDrop", unfollowed := true, recurses := true, apart := false }
def FnExactLegDropSaid : Prop := fnExactLegDropRow.holds Try.pinned (OpenSpec.ofChange fnExactLegDropSpec)

/-- ITS FALSE NEIGHBOUR: 'it returns false'. Refute it at one input. -/
def fnExactLegDropWrong : ChangeSpec := { name := "fnExactLegDrop", fn := fun _ => fun
  | [d1, d2] => { results := [.lit (.bool false)], args := [d1, d2] }
  | _ => none }
def FnExactLegDropWrongFalsely : Prop := fnExactLegDropRow.holds Try.pinned (OpenSpec.ofChange fnExactLegDropWrong)

/- THE SECOND FORM. 'bulk': how many values and letters a reading holds, each counted each time it is reached (what is shared counts as often as it is met; a slice's spare places count too). A statement '..UptoSaid' is the law's where the arguments, and the package variables that the reading takes, are together of bulk at most 1048576: NARROWER than '..Said'. Prove '..Said' where nothing that the law and all that it calls make is longer than what came in: it says more and counts as full. Else prove '..UptoSaid'. A law counts once. -/
mutual
def uptoBulk {H : Type} : DataW H → Nat
  | .lit (.string bytes) => bytes.length + 1
  | .lit _ => 1
  | .nil => 1
  | .ptr d => uptoBulk d + 1
  | .slice elems spare => uptoBulkAll elems + uptoBulkAll spare + 1
  | .agg parts => uptoBulkAll parts + 1
  | .iface _ d => uptoBulk d + 1
  | .map entries => uptoBulkEntries entries + 1
  | .held _ => 1
def uptoBulkAll {H : Type} : List (DataW H) → Nat
  | [] => 0
  | d :: r => uptoBulk d + uptoBulkAll r
def uptoBulkEntries {H : Type} : List (Lit × DataW H) → Nat
  | [] => 0
  | x :: r => uptoBulkEntry x + uptoBulkEntries r
def uptoBulkEntry {H : Type} : Lit × DataW H → Nat
  | (.string bytes, d) => bytes.length + uptoBulk d + 1
  | (_, d) => uptoBulk d + 1
 end
def uptoSmall : (H : Type) → List (DataW H) → Bool := fun _ ds => decide (uptoBulkAll ds ≤ 1048576)
def OpenSpec.upto (s : _root_.Go.ChangeSpec) : _root_.Go.OpenSpec := { _root_.Go.OpenSpec.ofChange s with cond := some uptoSmall }

/-- 'laws.FnExactLegOk', WHERE WHAT IT READS IS OF BULK AT MOST 1048576: true; the input reads as it did. -/
def fnExactLegOkUptoRow : OpenClaim := { program := "ytkaegojnhealhaa", sum := "12c053ee34a38c31d9861a1b4d516ff1d467cc13eb9ec1931dccad8bf166dca8", func := "loop.example/stopover/laws.FnExactLegOk", spec := "fnExactLegOk", unfollowed := true, recurses := true, apart := false, narrowed := true }
def FnExactLegOkUptoSaid : Prop := fnExactLegOkUptoRow.holds Try.pinned (OpenSpec.upto fnExactLegOkSpec)

/-- 'laws.FnExactLegRoom', WHERE WHAT IT READS IS OF BULK AT MOST 1048576: true; the input reads as it did. -/
def fnExactLegRoomUptoRow : OpenClaim := { program := "ytkaegojnhealhaa", sum := "12c053ee34a38c31d9861a1b4d516ff1d467cc13eb9ec1931dccad8bf166dca8", func := "loop.example/stopover/laws.FnExactLegRoom", spec := "fnExactLegRoom", unfollowed := true, recurses := true, apart := false, narrowed := true }
def FnExactLegRoomUptoSaid : Prop := fnExactLegRoomUptoRow.holds Try.pinned (OpenSpec.upto fnExactLegRoomSpec)

/-- 'laws.FnExactLegBid', WHERE WHAT IT READS IS OF BULK AT MOST 1048576: true; the input reads as it did. -/
def fnExactLegBidUptoRow : OpenClaim := { program := "ytkaegojnhealhaa", sum := "12c053ee34a38c31d9861a1b4d516ff1d467cc13eb9ec1931dccad8bf166dca8", func := "loop.example/stopover/laws.FnExactLegBid", spec := "fnExactLegBid", unfollowed := true, recurses := true, apart := false, narrowed := true }
def FnExactLegBidUptoSaid : Prop := fnExactLegBidUptoRow.holds Try.pinned (OpenSpec.upto fnExactLegBidSpec)

/-- 'laws.FnExactLegHold', WHERE WHAT IT READS IS OF BULK AT MOST 1048576: true; the input reads as it did. -/
def fnExactLegHoldUptoRow : OpenClaim := { program := "ytkaegojnhealhaa", sum := "12c053ee34a38c31d9861a1b4d516ff1d467cc13eb9ec1931dccad8bf166dca8", func := "loop.example/stopover/laws.FnExactLegHold", spec := "fnExactLegHold", unfollowed := true, recurses := true, apart := false, narrowed := true }
def FnExactLegHoldUptoSaid : Prop := fnExactLegHoldUptoRow.holds Try.pinned (OpenSpec.upto fnExactLegHoldSpec)

/-- 'laws.FnExactLegKeep', WHERE WHAT IT READS IS OF BULK AT MOST 1048576: true; the input reads as it did. -/
def fnExactLegKeepUptoRow : OpenClaim := { program := "ytkaegojnhealhaa", sum := "12c053ee34a38c31d9861a1b4d516ff1d467cc13eb9ec1931dccad8bf166dca8", func := "loop.example/stopover/laws.FnExactLegKeep", spec := "fnExactLegKeep", unfollowed := true, recurses := true, apart := false, narrowed := true }
def FnExactLegKeepUptoSaid : Prop := fnExactLegKeepUptoRow.holds Try.pinned (OpenSpec.upto fnExactLegKeepSpec)

/-- 'laws.FnExactLegDrop', WHERE WHAT IT READS IS OF BULK AT MOST 1048576: true; the input reads as it did. -/
def fnExactLegDropUptoRow : OpenClaim := { program := "ytkaegojnhealhaa", sum := "12c053ee34a38c31d9861a1b4d516ff1d467cc13eb9ec1931dccad8bf166dca8", func := "loop.example/stopover/laws.FnExactLegDrop", spec := "fnExactLegDrop", unfollowed := true, recurses := true, apart := false, narrowed := true }
def FnExactLegDropUptoSaid : Prop := fnExactLegDropUptoRow.holds Try.pinned (OpenSpec.upto fnExactLegDropSpec)

end Rows
end Go.Proofs.Ytkaegojnhealhaa
