/-
  What the shares of an amount are, together and each.
-/
import Derived.Test.YtnhniglldkmanaaLawTurnB
import Derived.Test.YtnhniglldkmanaaShareMath2
namespace Go.Proofs.Ytnhniglldkmanaa
open Go.RowKit
set_option linter.unusedVariables false

theorem share_law {T : Int} {z : Nat → Int} {n : Nat} {R : Nat → Nat} (hok : SOk T z n) (h : InOrder n (shR (absT T) z (sumF z n)) R) :
    sumF (shareV T z n R) n = T ∧ ∀ i, i < n → -(sumF z n) < T * z i - shareV T z n R i * sumF z n ∧ T * z i - shareV T z n R i * sumF z n < sumF z n ∧ (z i = 0 → shareV T z n R i = 0) := by
  have hn : 0 < n := by
    rcases Nat.eq_zero_or_pos n with h | h
    · have := hok.2.2; rw [h] at this; simp [sumF] at this
    · exact h
  have hs := sum_out (A := absT T) hok.2.2 rfl hn h
  have ho := off_bd (A := absT T) hok.2.2 rfl hn h
  rcases Int.lt_or_le T 0 with hT | hT
  · have ha : absT T = -T := by unfold absT; rw [if_pos hT]
    have e : ∀ i, shareV T z n R i = -1 * outAt (shQ (absT T) z (sumF z n)) R (restF (absT T) z (sumF z n) n).toNat i := fun i => by
      unfold shareV cutV; rw [if_pos hT]; omega
    refine ⟨?_, fun i hi => ?_⟩
    · rw [sumF_congr n (fun i _ => e i), sumF_mul, hs, ha]; omega
    · obtain ⟨h1, h2, h3⟩ := ho i
      rw [e i]
      generalize outAt (shQ (absT T) z (sumF z n)) R (restF (absT T) z (sumF z n) n).toNat i = x at *
      rw [ha] at h1 h2
      have e1 : -T * z i = -(T * z i) := Int.neg_mul _ _
      have e2 : -1 * x * sumF z n = -(x * sumF z n) := by rw [Int.neg_one_mul, Int.neg_mul]
      rw [e2]
      refine ⟨by omega, by omega, fun h0 => by rw [h3 h0]; rfl⟩
  · have ha : absT T = T := by unfold absT; rw [if_neg (by omega)]
    have e : shareV T z n R = outAt (shQ (absT T) z (sumF z n)) R (restF (absT T) z (sumF z n) n).toNat := by
      funext i; unfold shareV cutV; rw [if_neg (by omega)]
    rw [e]
    refine ⟨by rw [hs, ha], fun i hi => ?_⟩
    obtain ⟨h1, h2, h3⟩ := ho i
    rw [ha] at h1 h2 h3 ⊢
    exact ⟨h1, h2, h3⟩

end Go.Proofs.Ytnhniglldkmanaa
