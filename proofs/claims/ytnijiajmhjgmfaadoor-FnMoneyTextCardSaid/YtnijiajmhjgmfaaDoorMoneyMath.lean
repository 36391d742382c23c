/-
  Plain facts on what an amount is written as: its bytes, and the number that its figures spell; no program is walked here.
-/
import Derived.Test.YtnijiajmhjgmfaaDoorMoneyText
import Derived.Lib.Atoi
import Derived.Lib.AtoiTie
import Derived.Lib.AtoiAllCases
namespace Go.Proofs.YtnijiajmhjgmfaaDoor
open Go.RowKit
set_option linter.unusedVariables false

theorem decFrom_append : ∀ (l l' : List UInt8) (a : Nat), Lib.decFrom a (l ++ l') = (Lib.decFrom a l).bind fun m => Lib.decFrom m l'
  | [], l', a => by simp [Lib.decFrom]
  | b :: l, l', a => by
    simp only [List.cons_append, Lib.decFrom]
    cases Lib.digitVal b with
    | none => rfl
    | some d => exact decFrom_append l l' _
theorem digitVal_dig {d : Nat} (h : d < 10) : Lib.digitVal (UInt8.ofNat (48 + d)) = some d := by
  have : ∀ d, d < 10 → Lib.digitVal (UInt8.ofNat (48 + d)) = some d := by decide
  exact this d h
theorem decFrom_one {a d : Nat} (h : d < 10) : Lib.decFrom a (Lib.decDigits d) = some (a * 10 + d) := by
  rw [Lib.decDigits_one h]
  simp only [Lib.decFrom, digitVal_dig h]
theorem decFrom_digits (k : Nat) : ∀ n, n ≤ k → Lib.decFrom 0 (Lib.decDigits n) = some n := by
  induction k with
  | zero =>
    intro n h
    obtain rfl : n = 0 := by omega
    rw [decFrom_one (by omega)]
  | succ k ih =>
    intro n h
    by_cases h10 : n < 10
    · rw [decFrom_one h10]; congr 1; omega
    · rw [Lib.decDigits.eq_1 n, dif_neg h10, decFrom_append, ih (n / 10) (by omega)]
      have := digitVal_dig (d := n % 10) (by omega)
      simp only [Option.bind_some, Lib.decFrom, this]
      congr 1; omega
theorem money_num (u : Nat) : Lib.decFrom 0 (Lib.decDigits (u / 100) ++ (Lib.decDigits (u / 10 % 10) ++ Lib.decDigits (u % 10))) = some u := by
  rw [decFrom_append, decFrom_digits _ _ (Nat.le_refl _)]
  simp only [Option.bind_some]
  rw [decFrom_append, decFrom_one (by omega)]
  simp only [Option.bind_some]
  rw [decFrom_one (by omega)]
  congr 1; omega

theorem dec_ne (n : Nat) : Lib.decDigits n ≠ [] := by
  intro h
  have := decFrom_digits n n (Nat.le_refl _)
  have hl : 1 ≤ (Lib.decDigits n).length := by rw [Lib.decDigits_length]; exact Lib.nDigits_pos n
  rw [h] at hl; simp at hl
/-- Every byte of a numeral is a figure. -/
theorem dec_fig (k : Nat) : ∀ n, n ≤ k → ∀ b ∈ Lib.decDigits n, 48 ≤ b.toNat ∧ b.toNat ≤ 57 := by
  have one : ∀ d, d < 10 → 48 ≤ (UInt8.ofNat (48 + d)).toNat ∧ (UInt8.ofNat (48 + d)).toNat ≤ 57 := by decide
  induction k with
  | zero =>
    intro n h b hb
    rw [Lib.decDigits_one (by omega)] at hb
    simp only [List.mem_singleton] at hb
    subst hb; exact one n (by omega)
  | succ k ih =>
    intro n h b hb
    by_cases h10 : n < 10
    · rw [Lib.decDigits_one h10] at hb
      simp only [List.mem_singleton] at hb
      subst hb; exact one n h10
    · rw [Lib.decDigits.eq_1 n, dif_neg h10] at hb
      simp only [List.mem_append, List.mem_singleton] at hb
      rcases hb with hb | hb
      · exact ih (n / 10) (by omega) b hb
      · subst hb; exact one (n % 10) (by omega)

def sgn (n : Int) : List UInt8 := if n < 0 then [45] else []
theorem moneyStr_eq (n : Int) : moneyStr n = sgn n ++ Lib.decDigits (n.natAbs / 100) ++ ([46] ++ (Lib.decDigits (n.natAbs / 10 % 10) ++ Lib.decDigits (n.natAbs % 10))) := by
  unfold moneyStr centsStr sgn
  split <;> simp
def mlen (n : Int) : Nat := (sgn n).length + (Lib.decDigits (n.natAbs / 100)).length
theorem one_len {d : Nat} (h : d < 10) : (Lib.decDigits d).length = 1 := by rw [Lib.decDigits_one h]; rfl
theorem moneyStr_len (n : Int) : (moneyStr n).length = mlen n + 3 := by
  rw [moneyStr_eq]
  simp only [List.length_append, List.length_cons, List.length_nil, one_len (show n.natAbs / 10 % 10 < 10 by omega), one_len (show n.natAbs % 10 < 10 by omega), mlen]
theorem mlen_bd (n : Int) (h : n.natAbs ≤ 1000000000000) : 1 ≤ mlen n ∧ mlen n ≤ 12 := by
  have h1 : 1 ≤ (Lib.decDigits (n.natAbs / 100)).length := by rw [Lib.decDigits_length]; exact Lib.nDigits_pos _
  have h2 := dec_len' 10 (n.natAbs / 100) (by omega)
  have h3 : (sgn n).length ≤ 1 := by unfold sgn; split <;> simp
  unfold mlen; omega
theorem money_take (n : Int) : (moneyStr n).take (mlen n) = sgn n ++ Lib.decDigits (n.natAbs / 100) := by
  rw [moneyStr_eq, List.take_append_of_le_length (by simp [mlen]), List.take_of_length_le (by simp [mlen])]
theorem money_drop (n : Int) : (moneyStr n).drop (mlen n + 1) = Lib.decDigits (n.natAbs / 10 % 10) ++ Lib.decDigits (n.natAbs % 10) := by
  rw [moneyStr_eq, show mlen n + 1 = (sgn n ++ Lib.decDigits (n.natAbs / 100)).length + 1 from by simp [mlen], List.drop_append, List.drop_of_length_le (by omega), Nat.add_sub_cancel_left]
  rfl

theorem atoi_money (n : Int) (h : n.natAbs ≤ 1000000000000) : Lib.atoiAll ((moneyStr n).take (mlen n) ++ (moneyStr n).drop (mlen n + 1)) = .ok n := by
  have hb := mlen_bd n h
  have hl := moneyStr_len n
  rw [Lib.atoiAll_short _ (by rw [List.length_append, List.length_take, List.length_drop]; omega), money_take, money_drop]
  have hnum := money_num n.natAbs
  have hne := dec_ne (n.natAbs / 100)
  have hfig := dec_fig _ (n.natAbs / 100) (Nat.le_refl _)
  generalize Lib.decDigits (n.natAbs / 100) = D at *
  cases D with
  | nil => exact absurd rfl hne
  | cons c r =>
    have hc := hfig c (by simp)
    unfold sgn
    by_cases hn : n < 0
    · rw [if_pos hn]
      simp only [List.cons_append, List.nil_append] at hnum ⊢
      simp only [Lib.atoi, Lib.decNat, beq_self_eq_true, if_true, List.isEmpty_cons, hnum]
      simp only [Bool.false_eq_true, if_false, Option.map_some, Lib.NumEnd.ofOption]
      congr 1; omega
    · rw [if_neg hn]
      have e1 : (c == 45) = false := by
        cases hh : c == 45 with
        | false => rfl
        | true => rw [beq_iff_eq] at hh; subst hh; simp at hc
      have e2 : (c == 43) = false := by
        cases hh : c == 43 with
        | false => rfl
        | true => rw [beq_iff_eq] at hh; subst hh; simp at hc
      simp only [List.cons_append, List.nil_append] at hnum ⊢
      simp only [Lib.atoi, Lib.decNat, e1, e2, List.isEmpty_cons, hnum]
      simp only [Bool.false_eq_true, if_false, Option.map_some, Lib.NumEnd.ofOption]
      congr 1; omega

theorem money_inj {n m : Int} (hn : n.natAbs ≤ 1000000000000) (hm : m.natAbs ≤ 1000000000000) (h : moneyStr n = moneyStr m) : n = m := by
  have e : mlen n = mlen m := by have := moneyStr_len n; have := moneyStr_len m; rw [h] at *; omega
  have a := atoi_money n hn
  have b := atoi_money m hm
  rw [h, e, b] at a
  cases a; rfl
end Go.Proofs.YtnijiajmhjgmfaaDoor
