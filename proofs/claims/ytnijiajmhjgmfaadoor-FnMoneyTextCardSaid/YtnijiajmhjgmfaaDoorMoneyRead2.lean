/-
  What the model's MoneyRead returns at every text that is not too long.
-/
import Derived.Test.YtnijiajmhjgmfaaDoorMoneyRead
import Derived.Test.YtnijiajmhjgmfaaDoorNum
namespace Go.Proofs.YtnijiajmhjgmfaaDoor
open Go.RowKit
set_option linter.unusedVariables false

theorem readNo {s : ByteArray} (h : ∀ n, okB n = true → s ≠ mS n) : ReadIs s 0 false := Or.inr ⟨rfl, rfl, h⟩
theorem write_no {s t : ByteArray} {x : Int} (hs : 1 ≤ s.size) (h : ∀ n, okB n = true → s ≠ mS n) (ht : t = writeStr x) : (t.toList == s.toList) = false := by
  apply str_ne
  intro e
  subst e
  cases ho : okB x with
  | true => exact h x ho (ht.trans (write_ok ho))
  | false =>
    rw [writeStr, ho] at ht
    have := sz0
    simp only [Bool.false_eq_true, if_false] at ht
    rw [ht] at hs; omega

theorem bdN {a b : World} {q : Nat} (h : Below (a.drewN q).heap.size (a.drewN q) b) : Below a.heap.size a b := (belowN (Below.refl _ _) q).trans h
theorem ext_le (s : ByteArray) (a b : Nat) (h : s.size ≤ 1048600) : (s.extract a b).size ≤ 1048600 := by rw [ByteArray.size_extract]; omega
theorem le_max {s : ByteArray} (h : s.size ≤ 1048600) : s.size ≤ maxLen := by unfold maxLen; omega

set_option maxHeartbeats 2000000 in
theorem specReadNo (s : ByteArray) (w : World) (hs : s.size ≤ 1048600) (hno : ∀ n, okB n = true → s ≠ mS n) :
    Calls Tryd.prog 8 #[.string s] w (ReadPost s w) := by
  have Hno := Lib.hid hno
  clear hno
  rcases Nat.lt_or_ge s.size 4 with h3 | h3
  · go_enter Tryd.func8, Tryd.ntmps8
    go_wp2
    go_ret2
    exact ⟨_, _, rfl, readNo Hno.out, Below.refl _ _⟩
  · have hs1 : 1 ≤ s.size := by omega
    have i0 : s.size - 3 < s.size := by omega
    have i1 : s.size - 3 + 1 < s.size := by omega
    have i2 : s.size - 3 + 2 < s.size := by omega
    cases c2 : ((s[s.size - 3].toNat : Int) == 46) with
    | false =>
      have c2'' : ((s[s.size - 3].toNat : Int) != 46) = true := by simpa using c2
      go_enter Tryd.func8, Tryd.ntmps8
      go_wp2
      go_ret2
      exact ⟨_, _, rfl, readNo Hno.out, Below.refl _ _⟩
    | true =>
      have c2'' : ((s[s.size - 3].toNat : Int) != 46) = false := by simpa using c2
      rcases Int.lt_or_le (s[s.size - 3 + 1].toNat : Int) 48 with c3 | c3
      · go_enter Tryd.func8, Tryd.ntmps8
        go_wp2
        go_ret2
        exact ⟨_, _, rfl, readNo Hno.out, Below.refl _ _⟩
      rcases Int.lt_or_le 57 (s[s.size - 3 + 1].toNat : Int) with c4 | c4
      · go_enter Tryd.func8, Tryd.ntmps8
        go_wp2
        go_ret2
        exact ⟨_, _, rfl, readNo Hno.out, Below.refl _ _⟩
      rcases Int.lt_or_le (s[s.size - 3 + 2].toNat : Int) 48 with c5 | c5
      · go_enter Tryd.func8, Tryd.ntmps8
        go_wp2
        go_ret2
        exact ⟨_, _, rfl, readNo Hno.out, Below.refl _ _⟩
      rcases Int.lt_or_le 57 (s[s.size - 3 + 2].toNat : Int) with c6 | c6
      · go_enter Tryd.func8, Tryd.ntmps8
        go_wp2
        go_ret2
        exact ⟨_, _, rfl, readNo Hno.out, Below.refl _ _⟩
      · go_enter Tryd.func8, Tryd.ntmps8
        go_wp2_with fail
        all_goals
          refine (numAt _ _ (le_max (by first | exact ext_le _ _ _ hs | exact ext_le _ _ _ (ext_le _ _ _ hs)))).mono ?_
          rintro e w' ⟨n, rfl, hn, n1, n2, rfl⟩
          clear hn
          rcases Int.lt_or_le n 0 with k1 | k1
          · go_wp2
            go_ret2
            exact ⟨_, _, rfl, readNo Hno.out, Below.refl _ _⟩
          rcases Int.lt_or_le 10000000000 n with k2 | k2
          · go_wp2
            go_ret2
            exact ⟨_, _, rfl, readNo Hno.out, Below.refl _ _⟩
          go_wp2_with fail
          go_quiet (fail)
          go_wp2_with fail
          refine (specWrite _ _).mono ?_
          rintro e w2 ⟨s3, rfl, hs3, he3, hb⟩
          have hne := write_no hs1 Hno.out he3.out
          clear he3
          go_wp2
          go_ret2
          exact ⟨_, _, rfl, readNo Hno.out, bdN hb⟩
end Go.Proofs.YtnijiajmhjgmfaaDoor
