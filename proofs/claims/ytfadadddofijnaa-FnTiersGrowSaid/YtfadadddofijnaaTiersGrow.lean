/-
  What one more costs by tiers: plain sums.
-/
import Derived.Test.YtfadadddofijnaaTiers
namespace Go.Proofs.Ytfadadddofijnaa
open Go.RowKit
set_option linter.unusedVariables false

def lastP (f p : Nat → Int) (n : Int) : Nat → Int
  | 0 => 0
  | k + 1 => if f k ≤ n then p k else lastP f p n k
theorem lastP_bd {f p : Nat → Int} {len : Nat} {n : Int} (h : MOk f p len) : ∀ k, k ≤ len → 0 ≤ lastP f p n k ∧ lastP f p n k ≤ 1000000
  | 0, _ => by simp [lastP]
  | k + 1, hk => by
    have ih := lastP_bd (n := n) h k (by omega)
    obtain ⟨g1, g2, g3, g4⟩ := h.2.2.2 k (by omega)
    simp only [lastP]
    split <;> omega
def dif (f p : Nat → Int) (len : Nat) (n : Int) (k : Nat) : Int := if k < len ∧ f k ≤ n then 0 else lastP f p n k
theorem more_one {a f p : Int} : (a + 1 - f) * p = (a - f) * p + p := by
  have : a + 1 - f = (a - f) + 1 := by omega
  rw [this, Int.add_mul, Int.one_mul]
theorem tSum_dif {f p : Nat → Int} {len : Nat} {n : Int} (h : MOk f p len) (h0 : 0 ≤ n) : ∀ k, k ≤ len → tSum f p len (n + 1) k = tSum f p len n k + dif f p len n k
  | 0, _ => by
    have : dif f p len n 0 = 0 := by unfold dif; rw [if_pos ⟨h.1, by have := h.2.2.1; omega⟩]
    rw [this]; simp [tSum]
  | k + 1, hk => by
    have ih := tSum_dif h h0 k (by omega)
    have hlt : k < len := by omega
    simp only [tSum]
    rw [ih]
    have asc : k + 1 < len → f k < f (k + 1) := fun h2 => by have := (h.2.2.2 (k + 1) h2).2.2.2 (by omega); simpa using this
    rcases Int.lt_or_le n (f k) with hf | hf
    · have e1 : dif f p len n k = lastP f p n k := by unfold dif; rw [if_neg (by omega)]
      have e2 : dif f p len n (k + 1) = lastP f p n k := by
        unfold dif
        rw [if_neg (by intro h2; have := asc h2.1; omega)]
        simp only [lastP]; rw [if_neg (by omega)]
      have b1 := (tEnd_bd (p := p) h h0 k).2
      have b2 := (tEnd_bd (p := p) h (show 0 ≤ n + 1 by omega) k).2
      have t1 : tTerm f p len n k = 0 := by unfold tTerm; rw [if_neg (by omega)]
      have t2 : tTerm f p len (n + 1) k = 0 := by unfold tTerm; rw [if_neg (by omega)]
      omega
    · have e1 : dif f p len n k = 0 := by unfold dif; rw [if_pos ⟨hlt, hf⟩]
      by_cases h2 : k + 1 < len ∧ f (k + 1) ≤ n
      · have e2 : dif f p len n (k + 1) = 0 := by unfold dif; rw [if_pos h2]
        have a1 : tEnd f len n k = f (k + 1) := by unfold tEnd; split <;> omega
        have a2 : tEnd f len (n + 1) k = f (k + 1) := by unfold tEnd; rw [if_pos ⟨h2.1, by omega⟩]
        unfold tTerm
        rw [a1, a2]; omega
      · have e2 : dif f p len n (k + 1) = p k := by
          unfold dif
          rw [if_neg h2]
          simp only [lastP]; rw [if_pos hf]
        have a1 : tEnd f len n k = n := by unfold tEnd; rw [if_neg (by omega)]
        have a2 : tEnd f len (n + 1) k = n + 1 := by unfold tEnd; rw [if_neg (by omega)]
        have t2 : tTerm f p len (n + 1) k = (n - f k) * p k + p k := by unfold tTerm; rw [a2, if_pos (by omega), more_one]
        have t1 : tTerm f p len n k = (n - f k) * p k := by
          unfold tTerm
          rw [a1]
          split
          · rfl
          · have : n - f k = 0 := by omega
            rw [this, Int.zero_mul]
        rw [t1, t2, e1, e2]; omega
theorem grows {f p : Nat → Int} {len : Nat} {n x y : Int} (hx : TIs f p len n x true) (hy : TIs f p len (n + 1) y true) : y = x + lastP f p n len := by
  rcases hx with ⟨-, ⟨h1, h2, h3⟩, h4⟩ | ⟨h, -⟩
  · rcases hy with ⟨-, ⟨k1, k2, k3⟩, k4⟩ | ⟨h, -⟩
    · have := tSum_dif h2 h1.1 len (Nat.le_refl _)
      have e : dif f p len n len = lastP f p n len := by unfold dif; rw [if_neg (by omega)]
      rw [k4, h4, this, e]
    · cases h
  · cases h
theorem TIs.yes {f p : Nat → Int} {len : Nat} {n x : Int} (h : TIs f p len n x true) : MOk f p len ∧ 0 ≤ n ∧ n ≤ 1000000000000 ∧ 0 ≤ x ∧ x ≤ 1000000000000 := by
  rcases h with ⟨-, ⟨h1, h2, h3⟩, h4⟩ | ⟨h, -⟩
  · have := tSum_bd h2 h1.1 h1.2 len (Nat.le_refl _)
    exact ⟨h2, h1.1, h1.2, by omega, by omega⟩
  · cases h
end Go.Proofs.Ytfadadddofijnaa
