/-
  What the law on MoneyPart asks of a part, in plain words.
-/
import Derived.Test.YtjbnelbfpglkfaaMoneyPart
namespace Go.Proofs.Ytjbnelbfpglkfaa
open Go.RowKit
set_option linter.unusedVariables false
set_option linter.unusedSimpArgs false

theorem near_facts (t d : Int) (h0 : 0 ≤ t) (d1 : 1 ≤ d) : -d ≤ 2 * (t - nearV t d * d) ∧ 2 * (t - nearV t d * d) ≤ d ∧ ((2 * (t - nearV t d * d) = d ∨ 2 * (t - nearV t d * d) = -d) → nearV t d % 2 = 0) := by
  have e := Int.emod_add_mul_ediv t d
  have r0 : 0 ≤ t % d := Int.emod_nonneg _ (by omega)
  have r1 : t % d < d := Int.emod_lt_of_pos _ (by omega)
  have e2 : (t / d + 1) * d = t / d * d + d := by rw [Int.add_mul, Int.one_mul]
  rw [Int.mul_comm] at e
  unfold nearV
  generalize t % d = r at *
  generalize t / d = q at *
  split
  · rw [e2]
    generalize q * d = m at *
    refine ⟨by omega, by omega, fun h => by omega⟩
  · generalize q * d = m at *
    refine ⟨by omega, by omega, fun h => by omega⟩
theorem near_self (a d : Int) (h0 : 0 ≤ a) (d1 : 1 ≤ d) : nearV (a * d) d = a := by
  have e1 : a * d % d = 0 := Int.mul_emod_left a d
  have e2 : a * d / d = a := Int.mul_ediv_cancel a (by omega)
  unfold nearV
  rw [e1, e2, if_neg (by omega)]
theorem near_zero (d : Int) (d1 : 1 ≤ d) : nearV 0 d = 0 := by
  have := near_self 0 d (Int.le_refl _) d1
  rwa [Int.zero_mul] at this
structure PartF (a n d x : Int) : Prop where
  a1 : -1000000000000 ≤ a ∧ a ≤ 1000000000000
  n1 : 0 ≤ n ∧ n ≤ 1000000
  d1 : 1 ≤ d ∧ d ≤ 1000000
  x1 : -1000000000000 ≤ x ∧ x ≤ 1000000000000
  lo : -d ≤ 2 * (a * n - x * d)
  hi : 2 * (a * n - x * d) ≤ d
  ev : (2 * (a * n - x * d) = d ∨ 2 * (a * n - x * d) = -d) → x % 2 = 0
  ok2 : partOk (-a) n d = true
  v2 : partV (-a) n d = -x
  ok3 : partOk a d d = true
  v3 : partV a d d = a
theorem okB_neg {a : Int} (h : okB a = true) : okB (-a) = true := by
  obtain ⟨h1, h2⟩ := okB_yes h
  simp [okB]; omega
theorem part_facts {a n d : Int} (h : partOk a n d = true) : PartF a n d (partR a n d) := by
  have h' := h
  simp only [partOk, Bool.and_eq_true, decide_eq_true_eq] at h'
  obtain ⟨⟨⟨⟨⟨ha, n0⟩, n1⟩, d0⟩, d1⟩, hx⟩ := h'
  obtain ⟨a0, a1⟩ := okB_yes ha
  obtain ⟨x0, x1⟩ := okB_yes hx
  have hneg : partR (-a) n d = -partR a n d := by
    unfold partR
    rcases Int.lt_trichotomy a 0 with q | q | q
    · rw [if_neg (by omega), if_pos q]; omega
    · subst q; simp [near_zero d d0]
    · rw [if_pos (by omega), if_neg (by omega)]; simp
  have hself : partR a d d = a := by
    unfold partR
    split
    · rw [near_self (-a) d (by omega) d0]; omega
    · rw [near_self a d (by omega) d0]
  have ok2 : partOk (-a) n d = true := by
    simp only [partOk, Bool.and_eq_true, decide_eq_true_eq]
    exact ⟨⟨⟨⟨⟨okB_neg ha, n0⟩, n1⟩, d0⟩, d1⟩, by rw [hneg]; exact okB_neg hx⟩
  have ok3 : partOk a d d = true := by
    simp only [partOk, Bool.and_eq_true, decide_eq_true_eq]
    exact ⟨⟨⟨⟨⟨ha, by omega⟩, d1⟩, d0⟩, d1⟩, by rw [hself]; exact ha⟩
  have hn : -d ≤ 2 * (a * n - partR a n d * d) ∧ 2 * (a * n - partR a n d * d) ≤ d ∧ ((2 * (a * n - partR a n d * d) = d ∨ 2 * (a * n - partR a n d * d) = -d) → partR a n d % 2 = 0) := by
    rcases Int.lt_or_le a 0 with q | q
    · have f := near_facts (-a * n) d (Int.mul_nonneg (by omega) n0) d0
      have e1 : partR a n d = -nearV (-a * n) d := by rw [partR, if_pos q]
      have e2 : -nearV (-a * n) d * d = -(nearV (-a * n) d * d) := Int.neg_mul _ _
      have e3 : -a * n = -(a * n) := Int.neg_mul _ _
      rw [e1, e2]
      rw [e3] at f ⊢
      generalize nearV (-(a * n)) d * d = m at *
      generalize nearV (-(a * n)) d = v at *
      generalize a * n = y at *
      exact ⟨by omega, by omega, fun h => by have := f.2.2 (by omega); omega⟩
    · have f := near_facts (a * n) d (Int.mul_nonneg q n0) d0
      have e1 : partR a n d = nearV (a * n) d := by rw [partR, if_neg (by omega)]
      rw [e1]
      exact f
  exact ⟨⟨a0, a1⟩, ⟨n0, n1⟩, ⟨d0, d1⟩, ⟨x0, x1⟩, hn.1, hn.2.1, hn.2.2, ok2, by simp [partV, ok2, hneg], ok3, by simp [partV, ok3, hself]⟩
end Go.Proofs.Ytjbnelbfpglkfaa
