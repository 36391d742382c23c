/-
  Plain facts on decimals: what number they spell, and where the first colon stands behind them; no program is walked here.
-/
import Derived.Test.YtiganhkmnklhlaaDoorNum
import Derived.Test.YtiganhkmnklhlaaDoorDec
import Derived.Lib.AtoiTie
import Derived.Lib.AtoiAllCases
import Derived.Lib.IndexMore
namespace Go.Proofs.YtiganhkmnklhlaaDoor
open Go.RowKit
set_option linter.unusedVariables false

theorem digitVal_dig {d : Nat} (h : d < 10) : Lib.digitVal (UInt8.ofNat (48 + d)) = some d := by
  have : ∀ d, d < 10 → Lib.digitVal (UInt8.ofNat (48 + d)) = some d := by decide
  exact this d h
theorem decFrom_one {a d : Nat} (h : d < 10) : Lib.decFrom a (Lib.decDigits d) = some (a * 10 + d) := by
  rw [Lib.decDigits_one h]
  simp only [Lib.decFrom, digitVal_dig h]
theorem decFrom_digits (k : Nat) : ∀ n, n ≤ k → Lib.decFrom 0 (Lib.decDigits n) = some n := by
  induction k with
  | zero =>
    intro n h
    obtain rfl : n = 0 := by omega
    rw [decFrom_one (by omega)]
  | succ k ih =>
    intro n h
    by_cases h10 : n < 10
    · rw [decFrom_one h10]; congr 1; omega
    · rw [Lib.decDigits.eq_1 n, dif_neg h10, decFromApp, ih (n / 10) (by omega)]
      have := digitVal_dig (d := n % 10) (by omega)
      simp only [Option.bind_some, Lib.decFrom, this]
      congr 1; omega
theorem dec_pos (n : Nat) : 1 ≤ (Lib.decDigits n).length := by rw [Lib.decDigits_length]; exact Lib.nDigits_pos n
theorem dec_ne (n : Nat) : Lib.decDigits n ≠ [] := by
  intro h
  have hl := dec_pos n
  rw [h] at hl; simp at hl
theorem dec_fig (k : Nat) : ∀ n, n ≤ k → ∀ b ∈ Lib.decDigits n, 48 ≤ b.toNat ∧ b.toNat ≤ 57 := by
  have one : ∀ d, d < 10 → 48 ≤ (UInt8.ofNat (48 + d)).toNat ∧ (UInt8.ofNat (48 + d)).toNat ≤ 57 := by decide
  induction k with
  | zero =>
    intro n h b hb
    rw [Lib.decDigits_one (by omega)] at hb
    simp only [List.mem_singleton] at hb
    subst hb; exact one n (by omega)
  | succ k ih =>
    intro n h b hb
    by_cases h10 : n < 10
    · rw [Lib.decDigits_one h10] at hb
      simp only [List.mem_singleton] at hb
      subst hb; exact one n h10
    · rw [Lib.decDigits.eq_1 n, dif_neg h10] at hb
      simp only [List.mem_append, List.mem_singleton] at hb
      rcases hb with hb | hb
      · exact ih (n / 10) (by omega) b hb
      · subst hb; exact one (n % 10) (by omega)
theorem dec_head {k : Nat} : ∀ u, u ≤ k → 1 ≤ u → (Lib.decDigits u).head? ≠ some 48 := by
  induction k with
  | zero => intro u a b; omega
  | succ k ih =>
    intro u a b
    by_cases h : u < 10
    · rw [Lib.decDigits_one h]
      have : ∀ u, u < 10 → 1 ≤ u → ([UInt8.ofNat (48 + u)] : List UInt8).head? ≠ some 48 := by decide
      exact this u h b
    · rw [Lib.decDigits.eq_1 u, dif_neg h]
      have hne := dec_ne (u / 10)
      have := ih (u / 10) (by omega) (by omega)
      generalize Lib.decDigits (u / 10) = D at *
      cases D with
      | nil => exact absurd rfl hne
      | cons c r => simpa using this
theorem num_digits (u : Nat) (hu : u ≤ 10000000000) : numV (Lib.decDigits u) = u := by
  have hl := dec_len' 10 u (by omega)
  have h1 := dec_pos u
  have hok : numOk (Lib.decDigits u) = true := by
    unfold numOk
    by_cases h10 : u < 10
    · rw [Lib.decDigits_one h10]; simp
    · have h3 : ((Lib.decDigits u).head? == some 48) = false := by
        cases h : (Lib.decDigits u).head? == some 48 with
        | false => rfl
        | true => exact absurd (by simpa using h) (dec_head u (Nat.le_refl _) (by omega))
      rw [h3]; simp; omega
  rw [numV, hok, decFrom_digits u u (Nat.le_refl _)]; rfl
theorem atoi_digits (u : Nat) (hu : u ≤ 10000000000) : Lib.atoiAll (Lib.decDigits u) = .ok (u : Int) := by
  have hl := dec_len' 10 u (by omega)
  rw [Lib.atoiAll_short _ (by omega)]
  have hnum := decFrom_digits u u (Nat.le_refl _)
  have hne := dec_ne u
  have hfig := dec_fig _ u (Nat.le_refl _)
  generalize Lib.decDigits u = D at *
  cases D with
  | nil => exact absurd rfl hne
  | cons c r =>
    have hc := hfig c (by simp)
    have e1 : (c == 45) = false := by
      cases hh : c == 45 with
      | false => rfl
      | true => rw [beq_iff_eq] at hh; subst hh; simp at hc
    have e2 : (c == 43) = false := by
      cases hh : c == 43 with
      | false => rfl
      | true => rw [beq_iff_eq] at hh; subst hh; simp at hc
    simp only [Lib.atoi, Lib.decNat, e1, e2, List.isEmpty_cons, hnum]
    simp only [Bool.false_eq_true, if_false, Option.map_some, Lib.NumEnd.ofOption]

/-- Figures without noughts ahead are the decimals of what they spell. -/
theorem decFrom_back : ∀ (l : List UInt8) (a : Nat) (m : Nat), 1 ≤ a → Lib.decFrom a l = some m → Lib.decDigits a ++ l = Lib.decDigits m
  | [], a, m, h, e => by simp only [Lib.decFrom] at e; cases e; simp
  | b :: l, a, m, h, e => by
    simp only [Lib.decFrom] at e
    cases hd : Lib.digitVal b with
    | none => rw [hd] at e; cases e
    | some d =>
      rw [hd] at e
      have e' : Lib.decFrom (a * 10 + d) l = some m := e
      have hd' : d < 10 ∧ b = UInt8.ofNat (48 + d) := by
        unfold Lib.digitVal at hd
        split at hd
        · rename_i hb
          cases hd
          refine ⟨by omega, UInt8.toNat_inj.1 ?_⟩
          rw [UInt8.toNat_ofNat']; omega
        · cases hd
      have := decFrom_back l (a * 10 + d) m (by omega) e'
      rw [← this, Lib.decDigits.eq_1 (a * 10 + d), dif_neg (by omega)]
      have e1 : (a * 10 + d) / 10 = a := by omega
      have e2 : (a * 10 + d) % 10 = d := by omega
      rw [e1, e2, hd'.2]
      simp
theorem num_back {l : List UInt8} {n : Int} (h : numV l = n) (h0 : 0 ≤ n) : l = Lib.decDigits n.toNat := by
  unfold numV at h
  cases ho : numOk l with
  | false => rw [ho] at h; simp at h; omega
  | true =>
    rw [ho] at h
    simp only [if_true] at h
    cases hd : Lib.decFrom 0 l with
    | none => rw [hd] at h; simp at h; omega
    | some m =>
      rw [hd] at h
      simp only at h
      subst h
      rw [Int.toNat_natCast]
      unfold numOk at ho
      cases l with
      | nil => simp at ho
      | cons c r =>
        have hd0 := hd
        simp only [Lib.decFrom] at hd
        cases hv : Lib.digitVal c with
        | none => rw [hv] at hd; cases hd
        | some d =>
          rw [hv] at hd
          have hd1 : Lib.decFrom (0 * 10 + d) r = some m := hd
          have hc : d < 10 ∧ c = UInt8.ofNat (48 + d) := by
            unfold Lib.digitVal at hv
            split at hv
            · rename_i hb
              cases hv
              refine ⟨by omega, UInt8.toNat_inj.1 ?_⟩
              rw [UInt8.toNat_ofNat']; omega
            · cases hv
          cases r with
          | nil =>
            simp only [Lib.decFrom] at hd1
            cases hd1
            rw [Lib.decDigits_one (by omega), hc.2]; congr 2; omega
          | cons c2 r2 =>
            have hd2 : 1 ≤ d := by
              rcases Nat.eq_zero_or_pos d with h | h
              · subst h
                rw [hc.2] at ho
                simp at ho
              · exact h
            have := decFrom_back (c2 :: r2) (0 * 10 + d) m (by omega) hd1
            rw [← this, Lib.decDigits_one (by omega), hc.2]
            simp

theorem index_colon : ∀ (D r : List UInt8), (58 : UInt8) ∉ D → Lib.index (D ++ 58 :: r) [58] = D.length
  | [], r, h => by simp [Lib.index]
  | b :: D, r, h => by
    have hb : (58 == b) = false := by
      cases hh : (58 : UInt8) == b with
      | false => rfl
      | true => rw [beq_iff_eq] at hh; exact absurd (by simp [hh]) h
    have ih := index_colon D r (fun hm => h (by simp [hm]))
    simp only [List.cons_append, Lib.index, ih, List.isPrefixOf, hb, Bool.false_and, Bool.false_eq_true, if_false]
    have : ((D.length : Int) == -1) = false := by simp
    rw [this]; simp
theorem cut_colon (D r : List UInt8) (h : (58 : UInt8) ∉ D) : Lib.cut (D ++ 58 :: r) [58] = (D, r, true) := by
  unfold Lib.cut
  rw [index_colon D r h, if_pos (by omega)]
  simp
theorem dec_no_colon (n : Nat) : (58 : UInt8) ∉ Lib.decDigits n := by
  intro h
  have := dec_fig n n (Nat.le_refl _) _ h
  simp at this
end Go.Proofs.YtiganhkmnklhlaaDoor
