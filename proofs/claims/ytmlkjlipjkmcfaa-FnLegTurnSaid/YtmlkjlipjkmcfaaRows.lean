/-
  No cell of these rows narrows 'for every input' (looked for: loops, veiled, ifaces, maps, wideKeys, modest, calm, conditions, laid).
  DERIVED. THE GIVEN ROWS OF THIS SEAT. 8 by the template 'for every input the law returns true; each argument reads behind the call as it read before'; 0 by the template 'total and deterministic' (their statements: YtmlkjlipjkmcfaaTotals.lean).
  GIVEN WITH THE SEED: the statements are not yours to turn. If you find one false, say at which input.
  Laid BY PROGRAM, IN A SANDBOX (cutbox-rows.mjs): the forced cells as the released guide's own fill.sh prints them over the translation 906d8e24542752d0… (all of the seat's roots in one cut). By AI agents, Wed Nov 11 2026. No macro, syntax, notation, axiom, sorry.
-/
import Derived.Test.YtmlkjlipjkmcfaaChecked
import GoSem.Claim
import GoSem.ClaimJoined
import GoSem.ClaimMapViews
import Derived.JoinedTies
import Derived.KernelRfl
namespace Go.Proofs.Ytmlkjlipjkmcfaa
/- THE CELL 'sum', in the pinned program and in every row, IS THE sha256 OF THE DUMP (.gsa) THAT YtmlkjlipjkmcfaaProg.lean LOADS. Nothing in Lean hashes anything: it is a label: what it is worth is what the hold of that sum in a sandbox is worth. -/
noncomputable def Try.pinned : Pinned := { name := "ytmlkjlipjkmcfaa", sum := "906d8e24542752d00808a2edd579ff988110a8d8666ba9bff9c6d9a8dc3ad7e3", checked := Try.checked }
namespace Rows
def none {H : Type} : Left H := { results := [], args := [] }

/-- 'laws.FnExactLegHold': WHATEVER THE INPUT: true; the input reads as it did. -/
def fnExactLegHoldSpec : ChangeSpec := { name := "fnExactLegHold", fn := fun _ => fun
  | [d1, d2, d3] => { results := [.lit (.bool true)], args := [d1, d2, d3] }
  | _ => none }
def fnExactLegHoldRow : OpenClaim := { program := "ytmlkjlipjkmcfaa", sum := "906d8e24542752d00808a2edd579ff988110a8d8666ba9bff9c6d9a8dc3ad7e3", func := "loop.example/stopover/laws.FnExactLegHold", spec := "fnExactLegHold", unfollowed := true, recurses := true, apart := false }
def FnExactLegHoldSaid : Prop := fnExactLegHoldRow.holds Try.pinned (OpenSpec.ofChange fnExactLegHoldSpec)

/-- ITS FALSE NEIGHBOUR: 'it returns false'. Refute it at one input. -/
def fnExactLegHoldWrong : ChangeSpec := { name := "fnExactLegHold", fn := fun _ => fun
  | [d1, d2, d3] => { results := [.lit (.bool false)], args := [d1, d2, d3] }
  | _ => none }
def FnExactLegHoldWrongFalsely : Prop := fnExactLegHoldRow.holds Try.pinned (OpenSpec.ofChange fnExactLegHoldWrong)

/-- 'laws.FnLegHold': WHATEVER THE INPUT: true; the input reads as it did. -/
def fnLegHoldSpec : ChangeSpec := { name := "fnLegHold", fn := fun _ => fun
  | [d] => { results := [.lit (.bool true)], args := [d] }
  | _ => none }
def fnLegHoldRow : OpenClaim := { program := "ytmlkjlipjkmcfaa", sum := "906d8e24542752d00808a2edd579ff988110a8d8666ba9bff9c6d9a8dc3ad7e3", func := "loop.example/stopover/laws.FnLegHold", spec := "fnLegHold", unfollowed := true, recurses := true, apart := false }
def FnLegHoldSaid : Prop := fnLegHoldRow.holds Try.pinned (OpenSpec.ofChange fnLegHoldSpec)

/-- ITS FALSE NEIGHBOUR: 'it returns false'. Refute it at one input. -/
def fnLegHoldWrong : ChangeSpec := { name := "fnLegHold", fn := fun _ => fun
  | [d] => { results := [.lit (.bool false)], args := [d] }
  | _ => none }
def FnLegHoldWrongFalsely : Prop := fnLegHoldRow.holds Try.pinned (OpenSpec.ofChange fnLegHoldWrong)

/-- 'laws.FnLegKeep': WHATEVER THE INPUT: true; the input reads as it did. -/
def fnLegKeepSpec : ChangeSpec := { name := "fnLegKeep", fn := fun _ => fun
  | [d] => { results := [.lit (.bool true)], args := [d] }
  | _ => none }
def fnLegKeepRow : OpenClaim := { program := "ytmlkjlipjkmcfaa", sum := "906d8e24542752d00808a2edd579ff988110a8d8666ba9bff9c6d9a8dc3ad7e3", func := "loop.example/stopover/laws.FnLegKeep", spec := "fnLegKeep", unfollowed := true, recurses := true, apart := false }
def FnLegKeepSaid : Prop := fnLegKeepRow.holds Try.pinned (OpenSpec.ofChange fnLegKeepSpec)

/-- ITS FALSE NEIGHBOUR: 'it returns false'. Refute it at one input. -/
def fnLegKeepWrong : ChangeSpec := { name := "fnLegKeep", fn := fun _ => fun
  | [d] => { results := [.lit (.bool false)], args := [d] }
  | _ => none }
def FnLegKeepWrongFalsely : Prop := fnLegKeepRow.holds Try.pinned (OpenSpec.ofChange fnLegKeepWrong)

/-- 'laws.FnLegDrop': WHATEVER THE INPUT: true; the input reads as it did. -/
def fnLegDropSpec : ChangeSpec := { name := "fnLegDrop", fn := fun _ => fun
  | [d] => { results := [.lit (.bool true)], args := [d] }
  | _ => none }
def fnLegDropRow : OpenClaim := { program := "ytmlkjlipjkmcfaa", sum := "906d8e24542752d00808a2edd579ff988110a8d8666ba9bff9c6d9a8dc3ad7e3", func := "loop.example/stopover/laws.FnLegDrop", spec := "fnLegDrop", unfollowed := true, recurses := true, apart := false }
def FnLegDropSaid : Prop := fnLegDropRow.holds Try.pinned (OpenSpec.ofChange fnLegDropSpec)

/-- ITS FALSE NEIGHBOUR: 'it returns false'. Refute it at one input. -/
def fnLegDropWrong : ChangeSpec := { name := "fnLegDrop", fn := fun _ => fun
  | [d] => { results := [.lit (.bool false)], args := [d] }
  | _ => none }
def FnLegDropWrongFalsely : Prop := fnLegDropRow.holds Try.pinned (OpenSpec.ofChange fnLegDropWrong)

/-- 'laws.FnLegRoom': WHATEVER THE INPUT: true; the input reads as it did. -/
def fnLegRoomSpec : ChangeSpec := { name := "fnLegRoom", fn := fun _ => fun
  | [d] => { results := [.lit (.bool true)], args := [d] }
  | _ => none }
def fnLegRoomRow : OpenClaim := { program := "ytmlkjlipjkmcfaa", sum := "906d8e24542752d00808a2edd579ff988110a8d8666ba9bff9c6d9a8dc3ad7e3", func := "loop.example/stopover/laws.FnLegRoom", spec := "fnLegRoom", unfollowed := true, recurses := true, apart := false }
def FnLegRoomSaid : Prop := fnLegRoomRow.holds Try.pinned (OpenSpec.ofChange fnLegRoomSpec)

/-- ITS FALSE NEIGHBOUR: 'it returns false'. Refute it at one input. -/
def fnLegRoomWrong : ChangeSpec := { name := "fnLegRoom", fn := fun _ => fun
  | [d] => { results := [.lit (.bool false)], args := [d] }
  | _ => none }
def FnLegRoomWrongFalsely : Prop := fnLegRoomRow.holds Try.pinned (OpenSpec.ofChange fnLegRoomWrong)

/-- 'laws.FnLegBid': WHATEVER THE INPUT: true; the input reads as it did. -/
def fnLegBidSpec : ChangeSpec := { name := "fnLegBid", fn := fun _ => fun
  | [d] => { results := [.lit (.bool true)], args := [d] }
  | _ => none }
def fnLegBidRow : OpenClaim := { program := "ytmlkjlipjkmcfaa", sum := "906d8e24542752d00808a2edd579ff988110a8d8666ba9bff9c6d9a8dc3ad7e3", func := "loop.example/stopover/laws.FnLegBid", spec := "fnLegBid", unfollowed := true, recurses := true, apart := false }
def FnLegBidSaid : Prop := fnLegBidRow.holds Try.pinned (OpenSpec.ofChange fnLegBidSpec)

/-- ITS FALSE NEIGHBOUR: 'it returns false'. Refute it at one input. -/
def fnLegBidWrong : ChangeSpec := { name := "fnLegBid", fn := fun _ => fun
  | [d] => { results := [.lit (.bool false)], args := [d] }
  | _ => none }
def FnLegBidWrongFalsely : Prop := fnLegBidRow.holds Try.pinned (OpenSpec.ofChange fnLegBidWrong)

/-- 'laws.FnLegWorth': WHATEVER THE INPUT: true; the input reads as it did. -/
def fnLegWorthSpec : ChangeSpec := { name := "fnLegWorth", fn := fun _ => fun
  | [d] => { results := [.lit (.bool true)], args := [d] }
  | _ => none }
def fnLegWorthRow : OpenClaim := { program := "ytmlkjlipjkmcfaa", sum := "906d8e24542752d00808a2edd579ff988110a8d8666ba9bff9c6d9a8dc3ad7e3", func := "loop.example/stopover/laws.FnLegWorth", spec := "fnLegWorth", unfollowed := true, recurses := true, apart := false }
def FnLegWorthSaid : Prop := fnLegWorthRow.holds Try.pinned (OpenSpec.ofChange fnLegWorthSpec)

/-- ITS FALSE NEIGHBOUR: 'it returns false'. Refute it at one input. -/
def fnLegWorthWrong : ChangeSpec := { name := "fnLegWorth", fn := fun _ => fun
  | [d] => { results := [.lit (.bool false)], args := [d] }
  | _ => none }
def FnLegWorthWrongFalsely : Prop := fnLegWorthRow.holds Try.pinned (OpenSpec.ofChange fnLegWorthWrong)

/-- 'laws.FnLegTurn': WHATEVER THE INPUT: true; the input reads as it did. -/
def fnLegTurnSpec : ChangeSpec := { name := "fnLegTurn", fn := fun _ => fun
  | [d1, d2] => { results := [.lit (.bool true)], args := [d1, d2] }
  | _ => none }
def fnLegTurnRow : OpenClaim := { program := "ytmlkjlipjkmcfaa", sum := "906d8e24542752d00808a2edd579ff988110a8d8666ba9bff9c6d9a8dc3ad7e3", func := "loop.example/stopover/laws.FnLegTurn", spec := "fnLegTurn", unfollowed := true, recurses := true, apart := false }
def FnLegTurnSaid : Prop := fnLegTurnRow.holds Try.pinned (OpenSpec.ofChange fnLegTurnSpec)

/-- ITS FALSE NEIGHBOUR: 'it returns false'. Refute it at one input. -/
def fnLegTurnWrong : ChangeSpec := { name := "fnLegTurn", fn := fun _ => fun
  | [d1, d2] => { results := [.lit (.bool false)], args := [d1, d2] }
  | _ => none }
def FnLegTurnWrongFalsely : Prop := fnLegTurnRow.holds Try.pinned (OpenSpec.ofChange fnLegTurnWrong)

/- THE SECOND FORM. 'bulk': how many values and letters a reading holds, each counted each time it is reached (what is shared counts as often as it is met; a slice's spare places count too). A statement '..UptoSaid' is the law's where the arguments, and the package variables that the reading takes, are together of bulk at most 1048576: NARROWER than '..Said'. Prove '..Said' where nothing that the law and all that it calls make is longer than what came in: it says more and counts as full. Else prove '..UptoSaid'. A law counts once. -/
mutual
def uptoBulk {H : Type} : DataW H → Nat
  | .lit (.string bytes) => bytes.length + 1
  | .lit _ => 1
  | .nil => 1
  | .ptr d => uptoBulk d + 1
  | .slice elems spare => uptoBulkAll elems + uptoBulkAll spare + 1
  | .agg parts => uptoBulkAll parts + 1
  | .iface _ d => uptoBulk d + 1
  | .map entries => uptoBulkEntries entries + 1
  | .held _ => 1
def uptoBulkAll {H : Type} : List (DataW H) → Nat
  | [] => 0
  | d :: r => uptoBulk d + uptoBulkAll r
def uptoBulkEntries {H : Type} : List (Lit × DataW H) → Nat
  | [] => 0
  | x :: r => uptoBulkEntry x + uptoBulkEntries r
def uptoBulkEntry {H : Type} : Lit × DataW H → Nat
  | (.string bytes, d) => bytes.length + uptoBulk d + 1
  | (_, d) => uptoBulk d + 1
 end
def uptoSmall : (H : Type) → List (DataW H) → Bool := fun _ ds => decide (uptoBulkAll ds ≤ 1048576)
def OpenSpec.upto (s : _root_.Go.ChangeSpec) : _root_.Go.OpenSpec := { _root_.Go.OpenSpec.ofChange s with cond := some uptoSmall }

/-- 'laws.FnExactLegHold', WHERE WHAT IT READS IS OF BULK AT MOST 1048576: true; the input reads as it did. -/
def fnExactLegHoldUptoRow : OpenClaim := { program := "ytmlkjlipjkmcfaa", sum := "906d8e24542752d00808a2edd579ff988110a8d8666ba9bff9c6d9a8dc3ad7e3", func := "loop.example/stopover/laws.FnExactLegHold", spec := "fnExactLegHold", unfollowed := true, recurses := true, apart := false, narrowed := true }
def FnExactLegHoldUptoSaid : Prop := fnExactLegHoldUptoRow.holds Try.pinned (OpenSpec.upto fnExactLegHoldSpec)

/-- 'laws.FnLegHold', WHERE WHAT IT READS IS OF BULK AT MOST 1048576: true; the input reads as it did. -/
def fnLegHoldUptoRow : OpenClaim := { program := "ytmlkjlipjkmcfaa", sum := "906d8e24542752d00808a2edd579ff988110a8d8666ba9bff9c6d9a8dc3ad7e3", func := "loop.example/stopover/laws.FnLegHold", spec := "fnLegHold", unfollowed := true, recurses := true, apart := false, narrowed := true }
def FnLegHoldUptoSaid : Prop := fnLegHoldUptoRow.holds Try.pinned (OpenSpec.upto fnLegHoldSpec)

/-- 'laws.FnLegKeep', WHERE WHAT IT READS IS OF BULK AT MOST 1048576: true; the input reads as it did. -/
def fnLegKeepUptoRow : OpenClaim := { program := "ytmlkjlipjkmcfaa", sum := "906d8e24542752d00808a2edd579ff988110a8d8666ba9bff9c6d9a8dc3ad7e3", func := "loop.example/stopover/laws.FnLegKeep", spec := "fnLegKeep", unfollowed := true, recurses := true, apart := false, narrowed := true }
def FnLegKeepUptoSaid : Prop := fnLegKeepUptoRow.holds Try.pinned (OpenSpec.upto fnLegKeepSpec)

/-- 'laws.FnLegDrop', WHERE WHAT IT READS IS OF BULK AT MOST 1048576: true; the input reads as it did. -/
def fnLegDropUptoRow : OpenClaim := { program := "ytmlkjlipjkmcfaa", sum := "906d8e24542752d00808a2edd579ff988110a8d8666ba9bff9c6d9a8dc3ad7e3", func := "loop.example/stopover/laws.FnLegDrop", spec := "fnLegDrop", unfollowed := true, recurses := true, apart := false, narrowed := true }
def FnLegDropUptoSaid : Prop := fnLegDropUptoRow.holds Try.pinned (OpenSpec.upto fnLegDropSpec)

/-- 'laws.FnLegRoom', WHERE WHAT IT READS IS OF BULK AT MOST 1048576: true; the input reads as it did. -/
def fnLegRoomUptoRow : OpenClaim := { program := "ytmlkjlipjkmcfaa", sum := "906d8e24542752d00808a2edd579ff988110a8d8666ba9bff9c6d9a8dc3ad7e3", func := "loop.example/stopover/laws.FnLegRoom", spec := "fnLegRoom", unfollowed := true, recurses := true, apart := false, narrowed := true }
def FnLegRoomUptoSaid : Prop := fnLegRoomUptoRow.holds Try.pinned (OpenSpec.upto fnLegRoomSpec)

/-- 'laws.FnLegBid', WHERE WHAT IT READS IS OF BULK AT MOST 1048576: true; the input reads as it did. -/
def fnLegBidUptoRow : OpenClaim := { program := "ytmlkjlipjkmcfaa", sum := "906d8e24542752d00808a2edd579ff988110a8d8666ba9bff9c6d9a8dc3ad7e3", func := "loop.example/stopover/laws.FnLegBid", spec := "fnLegBid", unfollowed := true, recurses := true, apart := false, narrowed := true }
def FnLegBidUptoSaid : Prop := fnLegBidUptoRow.holds Try.pinned (OpenSpec.upto fnLegBidSpec)

/-- 'laws.FnLegWorth', WHERE WHAT IT READS IS OF BULK AT MOST 1048576: true; the input reads as it did. -/
def fnLegWorthUptoRow : OpenClaim := { program := "ytmlkjlipjkmcfaa", sum := "906d8e24542752d00808a2edd579ff988110a8d8666ba9bff9c6d9a8dc3ad7e3", func := "loop.example/stopover/laws.FnLegWorth", spec := "fnLegWorth", unfollowed := true, recurses := true, apart := false, narrowed := true }
def FnLegWorthUptoSaid : Prop := fnLegWorthUptoRow.holds Try.pinned (OpenSpec.upto fnLegWorthSpec)

/-- 'laws.FnLegTurn', WHERE WHAT IT READS IS OF BULK AT MOST 1048576: true; the input reads as it did. -/
def fnLegTurnUptoRow : OpenClaim := { program := "ytmlkjlipjkmcfaa", sum := "906d8e24542752d00808a2edd579ff988110a8d8666ba9bff9c6d9a8dc3ad7e3", func := "loop.example/stopover/laws.FnLegTurn", spec := "fnLegTurn", unfollowed := true, recurses := true, apart := false, narrowed := true }
def FnLegTurnUptoSaid : Prop := fnLegTurnUptoRow.holds Try.pinned (OpenSpec.upto fnLegTurnSpec)

end Rows
end Go.Proofs.Ytmlkjlipjkmcfaa
