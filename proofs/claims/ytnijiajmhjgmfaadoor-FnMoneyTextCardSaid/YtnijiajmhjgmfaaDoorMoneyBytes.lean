/-
  Plain facts on the bytes of an amount's text: its point, its two last figures, its sign and its whole part.
-/
import Derived.Test.YtnijiajmhjgmfaaDoorMoneyRead2
namespace Go.Proofs.YtnijiajmhjgmfaaDoor
open Go.RowKit
set_option linter.unusedVariables false

theorem headL (n : Int) : (sgn n ++ Lib.decDigits (n.natAbs / 100)).length = mlen n := by simp [mlen]
theorem tail_eq (n : Int) : Lib.decDigits (n.natAbs / 10 % 10) ++ Lib.decDigits (n.natAbs % 10) = [UInt8.ofNat (48 + n.natAbs / 10 % 10), UInt8.ofNat (48 + n.natAbs % 10)] := by
  rw [Lib.decDigits_one (by omega), Lib.decDigits_one (by omega)]; rfl
theorem money_at (n : Int) (k : Nat) : (moneyStr n)[mlen n + k]? = ([46, UInt8.ofNat (48 + n.natAbs / 10 % 10), UInt8.ofNat (48 + n.natAbs % 10)] : List UInt8)[k]? := by
  rw [moneyStr_eq, List.getElem?_append_right (by rw [headL]; omega), headL, Nat.add_sub_cancel_left, tail_eq]; rfl
theorem mS_get (n : Int) (i : Nat) (h : i < (mS n).size) (c : UInt8) (hc : (moneyStr n)[i]? = some c) : (mS n)[i] = c := by
  have : (mS n)[i] = (moneyStr n)[i]'(by simpa [mS, ByteArray.size] using h) := rfl
  rw [this]
  exact (List.getElem?_eq_some_iff.1 hc).2
theorem toNat_dig (d : Nat) (h : d < 10) : (UInt8.ofNat (48 + d)).toNat = 48 + d := by
  have : ∀ d, d < 10 → (UInt8.ofNat (48 + d)).toNat = 48 + d := by decide
  exact this d h
theorem mS_dot (n : Int) (h : (mS n).size - 3 < (mS n).size) : ((mS n)[(mS n).size - 3]).toNat = 46 := by
  rw [mS_get n _ h 46 (by rw [mS_size]; exact money_at n 0)]; rfl
theorem mS_ten (n : Int) (h : (mS n).size - 3 + 1 < (mS n).size) : ((mS n)[(mS n).size - 3 + 1]).toNat = 48 + n.natAbs / 10 % 10 := by
  rw [mS_get n _ h (UInt8.ofNat (48 + n.natAbs / 10 % 10)) (by rw [mS_size]; exact money_at n 1), toNat_dig _ (by omega)]
theorem mS_one (n : Int) (h : (mS n).size - 3 + 2 < (mS n).size) : ((mS n)[(mS n).size - 3 + 2]).toNat = 48 + n.natAbs % 10 := by
  rw [mS_get n _ h (UInt8.ofNat (48 + n.natAbs % 10)) (by rw [mS_size]; exact money_at n 2), toNat_dig _ (by omega)]
/-- What stands ahead of the point. -/
theorem mS_front (n : Int) : ((mS n).extract 0 ((mS n).size - 3)).data.toList = sgn n ++ Lib.decDigits (n.natAbs / 100) := by
  rw [Lib.extract_data, mS_size]
  have : mlen n + 3 - 3 - 0 = mlen n := by omega
  rw [this, List.drop_zero]
  exact money_take n
theorem front_head (b : ByteArray) (h : 0 < b.size) (c : UInt8) (r : List UInt8) (e : b.data.toList = c :: r) : b[0] = c := by
  have : b[0] = b.data.toList[0]'(by simpa using h) := rfl
  rw [this]; simp only [e]; rfl
theorem num_digits (u : Nat) (hu : u ≤ 10000000000) : numV (Lib.decDigits u) = u := by
  have hl := dec_len' 10 u (by omega)
  have h1 : 1 ≤ (Lib.decDigits u).length := by rw [Lib.decDigits_length]; exact Lib.nDigits_pos _
  have hok : numOk (Lib.decDigits u) = true := by
    unfold numOk
    by_cases h10 : u < 10
    · rw [Lib.decDigits_one h10]; simp
    · have hh : (Lib.decDigits u).head? ≠ some 48 := by
        have key : ∀ k u, u ≤ k → 1 ≤ u → (Lib.decDigits u).head? ≠ some 48 := by
          intro k
          induction k with
          | zero => intro u a b; omega
          | succ k ih =>
            intro u a b
            by_cases h : u < 10
            · rw [Lib.decDigits_one h]
              have : ∀ u, u < 10 → 1 ≤ u → ([UInt8.ofNat (48 + u)] : List UInt8).head? ≠ some 48 := by decide
              exact this u h b
            · rw [Lib.decDigits.eq_1 u, dif_neg h]
              have hne := dec_ne (u / 10)
              have := ih (u / 10) (by omega) (by omega)
              generalize Lib.decDigits (u / 10) = D at *
              cases D with
              | nil => exact absurd rfl hne
              | cons c r => simpa using this
        exact key u u (Nat.le_refl _) (by omega)
      have h3 : ((Lib.decDigits u).head? == some 48) = false := by
        cases h : (Lib.decDigits u).head? == some 48 with
        | false => rfl
        | true => exact absurd (by simpa using h) hh
      rw [h3]; simp; omega
  rw [numV, hok, decFrom_digits u u (Nat.le_refl _)]; rfl
end Go.Proofs.YtnijiajmhjgmfaaDoor
