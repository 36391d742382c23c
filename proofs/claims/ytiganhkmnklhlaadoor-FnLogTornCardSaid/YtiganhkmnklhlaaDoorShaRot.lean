/-
  Bits that are turned to the right, by the library and by the model; what a word is in numbers.
-/
import Derived.Test.YtiganhkmnklhlaaDoorBase
import Derived.IntWalk
import Derived.Laws.BitsAllLaws
namespace Go.Proofs.YtiganhkmnklhlaaDoor
open Go.RowKit
set_option linter.unusedVariables false

/-- x turned to the right: p is 2 to the bits, q is 2 to the others of 32. -/
def rotr (p q x : Int) : Int := bits .or .u32 (x / p) (x * q % 4294967296)
theorem or_comm32 (a b : Int) : bits .or .u32 a b = bits .or .u32 b a := by
  show IntKind.u32.wrap ((BitVec.ofInt 32 a ||| BitVec.ofInt 32 b).toNat : Int) = IntKind.u32.wrap ((BitVec.ofInt 32 b ||| BitVec.ofInt 32 a).toNat : Int)
  rw [BitVec.or_comm]
theorem bits32_lo (op : BinOp) (a b : Int) (h : op = .or ∨ op = .and ∨ op = .xor) : 0 ≤ bits op .u32 a b ∧ bits op .u32 a b < 4294967296 := by
  rcases h with rfl | rfl | rfl
  · show 0 ≤ IntKind.u32.wrap _ ∧ IntKind.u32.wrap _ < 4294967296
    rw [IntKind.wrap_u32']; omega
  · show 0 ≤ IntKind.u32.wrap _ ∧ IntKind.u32.wrap _ < 4294967296
    rw [IntKind.wrap_u32']; omega
  · show 0 ≤ IntKind.u32.wrap _ ∧ IntKind.u32.wrap _ < 4294967296
    rw [IntKind.wrap_u32']; omega
theorem retU {a b : Int} (h : a = b) : Ending.returned (.int .u32 a) = .returned (.int .u32 b) := by rw [h]

set_option maxHeartbeats 1000000 in
theorem rl2 (x : Int) (w : World) :
    Calls Tryd.prog 88 #[.int .u32 x, .int .i64 (-2)] w fun e w' => e = .returned (.int .u32 (rotr 4 1073741824 x)) ∧ w = w' := by
  have hb : bits BinOp.and IntKind.u64 (IntKind.u64.wrap (-2)) 31 = 30 := by decide
  go_enter Tryd.func88, Tryd.ntmps88
  go_wp2
  go_ret
  exact ⟨retU (or_comm32 _ _), rfl⟩
set_option maxHeartbeats 1000000 in
theorem tn2 (x : Int) (w : World) :
    Calls Tryd.prog 78 #[.int .u32 x, .int .i64 2] w fun e w' => e = .returned (.int .u32 (rotr 4 1073741824 x)) ∧ Drew w w' := by
  go_enter Tryd.func78, Tryd.ntmps78
  go_wp2_with fail
  go_quiet (fail)
  go_wp2
  go_ret
  exact ⟨rfl, _, rfl⟩

set_option maxHeartbeats 1000000 in
theorem rl6 (x : Int) (w : World) :
    Calls Tryd.prog 88 #[.int .u32 x, .int .i64 (-6)] w fun e w' => e = .returned (.int .u32 (rotr 64 67108864 x)) ∧ w = w' := by
  have hb : bits BinOp.and IntKind.u64 (IntKind.u64.wrap (-6)) 31 = 26 := by decide
  go_enter Tryd.func88, Tryd.ntmps88
  go_wp2
  go_ret
  exact ⟨retU (or_comm32 _ _), rfl⟩
set_option maxHeartbeats 1000000 in
theorem tn6 (x : Int) (w : World) :
    Calls Tryd.prog 78 #[.int .u32 x, .int .i64 6] w fun e w' => e = .returned (.int .u32 (rotr 64 67108864 x)) ∧ Drew w w' := by
  go_enter Tryd.func78, Tryd.ntmps78
  go_wp2_with fail
  go_quiet (fail)
  go_wp2
  go_ret
  exact ⟨rfl, _, rfl⟩

set_option maxHeartbeats 1000000 in
theorem rl7 (x : Int) (w : World) :
    Calls Tryd.prog 88 #[.int .u32 x, .int .i64 (-7)] w fun e w' => e = .returned (.int .u32 (rotr 128 33554432 x)) ∧ w = w' := by
  have hb : bits BinOp.and IntKind.u64 (IntKind.u64.wrap (-7)) 31 = 25 := by decide
  go_enter Tryd.func88, Tryd.ntmps88
  go_wp2
  go_ret
  exact ⟨retU (or_comm32 _ _), rfl⟩
set_option maxHeartbeats 1000000 in
theorem tn7 (x : Int) (w : World) :
    Calls Tryd.prog 78 #[.int .u32 x, .int .i64 7] w fun e w' => e = .returned (.int .u32 (rotr 128 33554432 x)) ∧ Drew w w' := by
  go_enter Tryd.func78, Tryd.ntmps78
  go_wp2_with fail
  go_quiet (fail)
  go_wp2
  go_ret
  exact ⟨rfl, _, rfl⟩

set_option maxHeartbeats 1000000 in
theorem rl11 (x : Int) (w : World) :
    Calls Tryd.prog 88 #[.int .u32 x, .int .i64 (-11)] w fun e w' => e = .returned (.int .u32 (rotr 2048 2097152 x)) ∧ w = w' := by
  have hb : bits BinOp.and IntKind.u64 (IntKind.u64.wrap (-11)) 31 = 21 := by decide
  go_enter Tryd.func88, Tryd.ntmps88
  go_wp2
  go_ret
  exact ⟨retU (or_comm32 _ _), rfl⟩
set_option maxHeartbeats 1000000 in
theorem tn11 (x : Int) (w : World) :
    Calls Tryd.prog 78 #[.int .u32 x, .int .i64 11] w fun e w' => e = .returned (.int .u32 (rotr 2048 2097152 x)) ∧ Drew w w' := by
  go_enter Tryd.func78, Tryd.ntmps78
  go_wp2_with fail
  go_quiet (fail)
  go_wp2
  go_ret
  exact ⟨rfl, _, rfl⟩

set_option maxHeartbeats 1000000 in
theorem rl13 (x : Int) (w : World) :
    Calls Tryd.prog 88 #[.int .u32 x, .int .i64 (-13)] w fun e w' => e = .returned (.int .u32 (rotr 8192 524288 x)) ∧ w = w' := by
  have hb : bits BinOp.and IntKind.u64 (IntKind.u64.wrap (-13)) 31 = 19 := by decide
  go_enter Tryd.func88, Tryd.ntmps88
  go_wp2
  go_ret
  exact ⟨retU (or_comm32 _ _), rfl⟩
set_option maxHeartbeats 1000000 in
theorem tn13 (x : Int) (w : World) :
    Calls Tryd.prog 78 #[.int .u32 x, .int .i64 13] w fun e w' => e = .returned (.int .u32 (rotr 8192 524288 x)) ∧ Drew w w' := by
  go_enter Tryd.func78, Tryd.ntmps78
  go_wp2_with fail
  go_quiet (fail)
  go_wp2
  go_ret
  exact ⟨rfl, _, rfl⟩

set_option maxHeartbeats 1000000 in
theorem rl17 (x : Int) (w : World) :
    Calls Tryd.prog 88 #[.int .u32 x, .int .i64 (-17)] w fun e w' => e = .returned (.int .u32 (rotr 131072 32768 x)) ∧ w = w' := by
  have hb : bits BinOp.and IntKind.u64 (IntKind.u64.wrap (-17)) 31 = 15 := by decide
  go_enter Tryd.func88, Tryd.ntmps88
  go_wp2
  go_ret
  exact ⟨retU (or_comm32 _ _), rfl⟩
set_option maxHeartbeats 1000000 in
theorem tn17 (x : Int) (w : World) :
    Calls Tryd.prog 78 #[.int .u32 x, .int .i64 17] w fun e w' => e = .returned (.int .u32 (rotr 131072 32768 x)) ∧ Drew w w' := by
  go_enter Tryd.func78, Tryd.ntmps78
  go_wp2_with fail
  go_quiet (fail)
  go_wp2
  go_ret
  exact ⟨rfl, _, rfl⟩

set_option maxHeartbeats 1000000 in
theorem rl18 (x : Int) (w : World) :
    Calls Tryd.prog 88 #[.int .u32 x, .int .i64 (-18)] w fun e w' => e = .returned (.int .u32 (rotr 262144 16384 x)) ∧ w = w' := by
  have hb : bits BinOp.and IntKind.u64 (IntKind.u64.wrap (-18)) 31 = 14 := by decide
  go_enter Tryd.func88, Tryd.ntmps88
  go_wp2
  go_ret
  exact ⟨retU (or_comm32 _ _), rfl⟩
set_option maxHeartbeats 1000000 in
theorem tn18 (x : Int) (w : World) :
    Calls Tryd.prog 78 #[.int .u32 x, .int .i64 18] w fun e w' => e = .returned (.int .u32 (rotr 262144 16384 x)) ∧ Drew w w' := by
  go_enter Tryd.func78, Tryd.ntmps78
  go_wp2_with fail
  go_quiet (fail)
  go_wp2
  go_ret
  exact ⟨rfl, _, rfl⟩

set_option maxHeartbeats 1000000 in
theorem rl19 (x : Int) (w : World) :
    Calls Tryd.prog 88 #[.int .u32 x, .int .i64 (-19)] w fun e w' => e = .returned (.int .u32 (rotr 524288 8192 x)) ∧ w = w' := by
  have hb : bits BinOp.and IntKind.u64 (IntKind.u64.wrap (-19)) 31 = 13 := by decide
  go_enter Tryd.func88, Tryd.ntmps88
  go_wp2
  go_ret
  exact ⟨retU (or_comm32 _ _), rfl⟩
set_option maxHeartbeats 1000000 in
theorem tn19 (x : Int) (w : World) :
    Calls Tryd.prog 78 #[.int .u32 x, .int .i64 19] w fun e w' => e = .returned (.int .u32 (rotr 524288 8192 x)) ∧ Drew w w' := by
  go_enter Tryd.func78, Tryd.ntmps78
  go_wp2_with fail
  go_quiet (fail)
  go_wp2
  go_ret
  exact ⟨rfl, _, rfl⟩

set_option maxHeartbeats 1000000 in
theorem rl22 (x : Int) (w : World) :
    Calls Tryd.prog 88 #[.int .u32 x, .int .i64 (-22)] w fun e w' => e = .returned (.int .u32 (rotr 4194304 1024 x)) ∧ w = w' := by
  have hb : bits BinOp.and IntKind.u64 (IntKind.u64.wrap (-22)) 31 = 10 := by decide
  go_enter Tryd.func88, Tryd.ntmps88
  go_wp2
  go_ret
  exact ⟨retU (or_comm32 _ _), rfl⟩
set_option maxHeartbeats 1000000 in
theorem tn22 (x : Int) (w : World) :
    Calls Tryd.prog 78 #[.int .u32 x, .int .i64 22] w fun e w' => e = .returned (.int .u32 (rotr 4194304 1024 x)) ∧ Drew w w' := by
  go_enter Tryd.func78, Tryd.ntmps78
  go_wp2_with fail
  go_quiet (fail)
  go_wp2
  go_ret
  exact ⟨rfl, _, rfl⟩

set_option maxHeartbeats 1000000 in
theorem rl25 (x : Int) (w : World) :
    Calls Tryd.prog 88 #[.int .u32 x, .int .i64 (-25)] w fun e w' => e = .returned (.int .u32 (rotr 33554432 128 x)) ∧ w = w' := by
  have hb : bits BinOp.and IntKind.u64 (IntKind.u64.wrap (-25)) 31 = 7 := by decide
  go_enter Tryd.func88, Tryd.ntmps88
  go_wp2
  go_ret
  exact ⟨retU (or_comm32 _ _), rfl⟩
set_option maxHeartbeats 1000000 in
theorem tn25 (x : Int) (w : World) :
    Calls Tryd.prog 78 #[.int .u32 x, .int .i64 25] w fun e w' => e = .returned (.int .u32 (rotr 33554432 128 x)) ∧ Drew w w' := by
  go_enter Tryd.func78, Tryd.ntmps78
  go_wp2_with fail
  go_quiet (fail)
  go_wp2
  go_ret
  exact ⟨rfl, _, rfl⟩
end Go.Proofs.YtiganhkmnklhlaaDoor
