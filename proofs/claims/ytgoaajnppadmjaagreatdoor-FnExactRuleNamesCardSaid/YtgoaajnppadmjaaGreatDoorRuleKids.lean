/-
  How many kids an op has: the model's answer.
-/
import Derived.Test.YtgoaajnppadmjaaGreatDoorRuleBase
namespace Go.Proofs.YtgoaajnppadmjaaGreatDoor
open Go.RowKit
set_option linter.unusedVariables false
set_option linter.unusedSimpArgs false

set_option maxHeartbeats 1000000 in
theorem specKids (o : Int) (w : World) :
    Calls Tryz.prog 138 #[.int .i64 o] w fun e w' => e = .returned (.int .i64 (kidsN o)) ∧ w = w' := by
  by_cases h1 : o = 1
  · subst h1; go_enter Tryz.func138, Tryz.ntmps138
    go_wp2
    go_ret
    exact ⟨rfl, rfl⟩
  by_cases h2 : o = 2
  · subst h2; go_enter Tryz.func138, Tryz.ntmps138
    go_wp2
    go_ret
    exact ⟨rfl, rfl⟩
  by_cases h3 : o = 10
  · subst h3; go_enter Tryz.func138, Tryz.ntmps138
    go_wp2
    go_ret
    exact ⟨rfl, rfl⟩
  by_cases h4 : o = 6
  · subst h4; go_enter Tryz.func138, Tryz.ntmps138
    go_wp2
    go_ret
    exact ⟨rfl, rfl⟩
  by_cases h5 : o = 9
  · subst h5; go_enter Tryz.func138, Tryz.ntmps138
    go_wp2
    go_ret
    exact ⟨rfl, rfl⟩
  have e1 : (o == 1) = false := by simpa using h1
  have e2 : (o == 2) = false := by simpa using h2
  have e3 : (o == 10) = false := by simpa using h3
  have e4 : (o == 6) = false := by simpa using h4
  have e5 : (o == 9) = false := by simpa using h5
  by_cases h6 : 3 ≤ o ∧ o ≤ 8
  · have hr : kidsN o = 2 := by unfold kidsN; rw [if_neg (by omega), if_neg h3, if_neg h4, if_neg h5, if_pos h6]
    rw [hr]
    have : o = 3 ∨ o = 4 ∨ o = 5 ∨ o = 7 ∨ o = 8 := by omega
    clear hr h1 h2 h3 h4 h5 h6
    rcases this with rfl | rfl | rfl | rfl | rfl
    all_goals
      go_enter Tryz.func138, Tryz.ntmps138
      go_wp2
      go_ret
      exact ⟨rfl, rfl⟩
  · have hr : kidsN o = -1 := by unfold kidsN; rw [if_neg (by omega), if_neg h3, if_neg h4, if_neg h5, if_neg h6]
    rw [hr]
    have f3 : (o == 3) = false := by simp; omega
    have f4 : (o == 4) = false := by simp; omega
    have f5 : (o == 5) = false := by simp; omega
    have f7 : (o == 7) = false := by simp; omega
    have f8 : (o == 8) = false := by simp; omega
    clear hr h1 h2 h3 h4 h5 h6
    go_enter Tryz.func138, Tryz.ntmps138
    go_wp2
    go_ret
    exact ⟨rfl, rfl⟩
theorem specKidsQ (o : Int) (w : World) (v : Int) (h : kidsN o = v) :
    Calls Tryz.prog 138 #[.int .i64 o] w fun e w' => e = .returned (.int .i64 v) ∧ w' = w := by
  subst h; exact (specKids o w).mono fun e w' h => ⟨h.1, h.2.symm⟩
end Go.Proofs.YtgoaajnppadmjaaGreatDoor
