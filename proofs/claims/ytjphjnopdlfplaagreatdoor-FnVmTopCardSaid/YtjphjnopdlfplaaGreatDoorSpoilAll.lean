/-
  Any rule is spoilt.
-/
import Derived.Test.YtjphjnopdlfplaaGreatDoorSpoilZ
import Derived.Test.YtjphjnopdlfplaaGreatDoorSpoilP
import Derived.Deep.DeepMust
import Derived.Deep.RegionWith
import Derived.Deep.RegionLaw
import Derived.Deep.AppendLies
namespace Go.Proofs.YtjphjnopdlfplaaGreatDoor
open Go.RowKit
set_option linter.unusedVariables false
set_option linter.unusedSimpArgs false

theorem spoilAll : ∀ (k : Nat) (t : Tr), wT t ≤ k → SpoilAt t := by
  intro k
  induction k with
  | zero => intro t h; cases t; rw [wT] at h; omega
  | succ k ih =>
    intro t hk
    obtain ⟨o, n, s, ks, ms⟩ := t
    rw [wT] at hk
    have hK : ∀ t ∈ ks, SpoilAt t := fun t ht => ih t (by have := wL_mem ht; omega)
    rcases Nat.eq_zero_or_pos ks.length with h0 | h0
    · exact spoilZ o n s ks ms hK h0
    · exact spoilP o n s ks ms hK h0
end Go.Proofs.YtjphjnopdlfplaaGreatDoor
