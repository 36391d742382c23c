/-
  Shares together are the amount, and each is near its part: plain facts.
-/
import Derived.Test.YtnhniglldkmanaaShareMath
namespace Go.Proofs.Ytnhniglldkmanaa
set_option linter.unusedVariables false

def ind (b : Bool) : Int := if b then 1 else 0
theorem sum_one (r : Nat) : ∀ n : Nat, sumF (fun i => ind (r == i)) n = if r < n then 1 else 0
  | 0 => by simp [sumF]
  | n + 1 => by
    simp only [sumF]
    rw [sum_one r n]
    have e : ind (r == n) = if r = n then 1 else 0 := by unfold ind; by_cases h : r = n <;> simp [h]
    rw [e]
    split <;> split <;> split <;> omega
theorem sum_got {n : Nat} {l : Nat → Int} {R : Nat → Nat} (h : InOrder n l R) : ∀ c : Nat, c ≤ n → sumF (fun i => ind (got R c i)) n = c
  | 0, _ => by
    have : ∀ k : Nat, sumF (fun i => ind (got R 0 i)) k = 0 := fun k => by
      induction k with
      | zero => rfl
      | succ k ih => simp only [sumF, ih]; simp [got, ind]
    rw [this]; rfl
  | c + 1, hc => by
    have e : ∀ i, i < n → ind (got R (c + 1) i) = ind (got R c i) + ind (R c == i) := fun i _ => by
      by_cases hi : R c = i
      · subst hi
        rw [not_got h (by omega)]
        simp [got, ind]
      · have : (R c == i) = false := by simp [hi]
        simp only [got, this, Bool.or_false]
        simp [ind]
    rw [sumF_congr n e, sumF_add, sum_got h c (by omega), sum_one, if_pos (h.lt c (by omega))]
    omega
theorem sum_out {A s : Int} {z : Nat → Int} {n : Nat} {R : Nat → Nat} (hs : 0 < s) (hz : s = sumF z n) (hn : 0 < n) (h : InOrder n (shR A z s) R) : sumF (outAt (shQ A z s) R (restF A z s n).toNat) n = A := by
  obtain ⟨r0, r1⟩ := rest_bd (A := A) hs hz
  have r2 := r1 hn
  have e : sumF (outAt (shQ A z s) R (restF A z s n).toNat) n = sumF (shQ A z s) n + sumF (fun i => ind (got R (restF A z s n).toNat i)) n := by
    rw [← sumF_add]; rfl
  rw [e, sum_got h _ (by omega)]
  have : ((restF A z s n).toNat : Int) = restF A z s n := by omega
  rw [this]; unfold restF; omega
theorem sumF_le {f g : Nat → Int} : ∀ n : Nat, (∀ i, i < n → f i ≤ g i) → sumF f n ≤ sumF g n
  | 0, _ => Int.le_refl _
  | n + 1, h => by
    have := sumF_le n (fun i hi => h i (by omega))
    have := h n (by omega)
    simp only [sumF]; omega
/-- Who gets a cent has something left over. -/
theorem got_pos {A s : Int} {z : Nat → Int} {n : Nat} {R : Nat → Nat} (hs : 0 < s) (hz : s = sumF z n) (hn : 0 < n) (h : InOrder n (shR A z s) R) {i : Nat} (hg : got R (restF A z s n).toNat i = true) : 0 < shR A z s i := by
  obtain ⟨r0, r1⟩ := rest_bd (A := A) hs hz
  have r2 := r1 hn
  obtain ⟨t, ht, rfl⟩ := got_iff.1 hg
  have hnn : ∀ j, 0 ≤ shR A z s j := fun j => Int.emod_nonneg _ (by omega)
  rcases Int.lt_or_le 0 (shR A z s (R t)) with hp | hp
  · exact hp
  · exfalso
    have h0 : shR A z s (R t) = 0 := by have := hnn (R t); omega
    have hle : ∀ j, j < n → shR A z s j ≤ (s - 1) * ind (got R t j) := fun j hj => by
      cases hgj : got R t j with
      | true =>
        have := Int.emod_lt_of_pos (A * z j) hs
        simp only [ind, if_true, Int.mul_one]
        unfold shR; omega
      | false =>
        simp only [ind, Bool.false_eq_true, if_false, Int.mul_zero]
        obtain ⟨u, hu, rfl⟩ := h.onto j hj
        have hut : t ≤ u := by
          rcases Nat.lt_or_ge u t with h2 | h2
          · have := (got_iff (R := R) (c := t) (i := R u)).2 ⟨u, h2, rfl⟩; rw [hgj] at this; cases this
          · exact h2
        rcases Nat.eq_or_lt_of_le hut with e | e
        · rw [← e, h0]; omega
        · have := h.asc t u e hu; omega
    have e1 := sumF_le n hle
    rw [sumF_mul, sum_got h t (by omega)] at e1
    have e2 : sumF (fun i => A * z i) n = A * s := by rw [sumF_mul, ← hz]
    have e3 : sumF (fun i => A * z i) n = s * sumF (shQ A z s) n + sumF (shR A z s) n := by
      rw [← sumF_mul, ← sumF_add]
      exact sumF_congr n fun i _ => (Int.mul_ediv_add_emod (A * z i) s).symm
    have e4 : s * restF A z s n = sumF (shR A z s) n := by
      unfold restF
      rw [Int.mul_sub, Int.mul_comm s A]; omega
    have hlt : (t : Int) < restF A z s n := by omega
    have e5 : (s - 1) * (t : Int) ≤ s * t := Int.mul_le_mul_of_nonneg_right (by omega) (by omega)
    have e6 : s * (t : Int) < s * restF A z s n := Int.mul_lt_mul_of_pos_left hlt hs
    omega
/-- How far a share is off. -/
theorem off_bd {A s : Int} {z : Nat → Int} {n : Nat} {R : Nat → Nat} (hs : 0 < s) (hz : s = sumF z n) (hn : 0 < n) (h : InOrder n (shR A z s) R) (i : Nat) :
    -s < A * z i - outAt (shQ A z s) R (restF A z s n).toNat i * s ∧ A * z i - outAt (shQ A z s) R (restF A z s n).toNat i * s < s ∧ (z i = 0 → outAt (shQ A z s) R (restF A z s n).toNat i = 0) := by
  have e := Int.mul_ediv_add_emod (A * z i) s
  have m0 : 0 ≤ A * z i % s := Int.emod_nonneg _ (by omega)
  have m1 : A * z i % s < s := Int.emod_lt_of_pos _ hs
  cases hg : got R (restF A z s n).toNat i with
  | true =>
    have hp := got_pos hs hz hn h hg
    have hq : outAt (shQ A z s) R (restF A z s n).toNat i = A * z i / s + 1 := by unfold outAt shQ; rw [hg]; rfl
    have hp' : 0 < A * z i % s := hp
    have e2 : (A * z i / s + 1) * s = s * (A * z i / s) + s := by rw [Int.add_mul, Int.one_mul, Int.mul_comm]
    rw [hq, e2]
    refine ⟨by omega, by omega, fun h0 => ?_⟩
    rw [h0] at hp'; simp at hp'
  | false =>
    have hq : outAt (shQ A z s) R (restF A z s n).toNat i = A * z i / s := by unfold outAt shQ; rw [hg]; simp
    have e2 : (A * z i / s) * s = s * (A * z i / s) := Int.mul_comm _ _
    rw [hq, e2]
    refine ⟨by omega, by omega, fun h0 => ?_⟩
    rw [h0]; simp
end Go.Proofs.Ytnhniglldkmanaa
