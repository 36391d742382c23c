/-
  What MoneyOk returns, of the program and of its model, at every int: plain integers in, plain integers out, nothing is written.
-/
import Derived.Test.YtembapomapcdfaaGreatDoorBase
namespace Go.Proofs.YtembapomapcdfaaGreatDoor
open Go.RowKit
set_option linter.unusedVariables false

def okB (n : Int) : Bool := decide (-1000000000000 ≤ n) && decide (n ≤ 1000000000000)
theorem okB_yes {n : Int} (h : okB n = true) : -1000000000000 ≤ n ∧ n ≤ 1000000000000 := by simpa [okB] using h
theorem okB_mk {n : Int} (h : -1000000000000 ≤ n ∧ n ≤ 1000000000000) : okB n = true := by simp [okB]; omega
theorem okB_no {n : Int} (h : n < -1000000000000 ∨ 1000000000000 < n) : okB n = false := by simp [okB]; omega

set_option maxHeartbeats 400000 in
theorem specMoneyOk (n : Int) (w : World) :
    Calls Tryz.prog 67 #[.int .i64 n] w fun e w' => e = .returned (.bool (okB n)) ∧ w = w' := by
  by_cases h1 : n < -1000000000000
  · go_enter Tryz.func67, Tryz.ntmps67
    go_wp2
    go_ret
    exact ⟨retB (by rw [okB_no (.inl h1)]; try simp), rfl⟩
  · go_enter Tryz.func67, Tryz.ntmps67
    go_wp2
    go_ret
    exact ⟨retB (by simp [okB]; try omega), rfl⟩

set_option maxHeartbeats 400000 in
theorem implMoneyOk (n : Int) (w : World) :
    Calls Tryz.prog 136 #[.int .i64 n] w fun e w' => e = .returned (.bool (okB n)) ∧ w = w' := by
  by_cases h1 : n < -1000000000000
  · go_enter Tryz.func136, Tryz.ntmps136
    go_wp2
    go_ret
    exact ⟨retB (by rw [okB_no (.inl h1)]; try simp), rfl⟩
  · go_enter Tryz.func136, Tryz.ntmps136
    go_wp2
    go_ret
    exact ⟨retB (by simp [okB]; try omega), rfl⟩

end Go.Proofs.YtembapomapcdfaaGreatDoor
