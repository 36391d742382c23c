/-
  A text so many times: some text that is not longer than so many times the text.
-/
import Derived.Test.YtiganhkmnklhlaaDoorBase
namespace Go.Proofs.YtiganhkmnklhlaaDoor
open Go.RowKit
set_option linter.unusedVariables false

def ManyPost (M : Nat) (w : World) (e : Ending) (w' : World) : Prop := ∃ t : ByteArray, t.size ≤ M ∧ e = .returned (.string t) ∧ w = w'

theorem many_le {s n : Nat} (h : 1 ≤ n) : s ≤ s * n := Nat.le_mul_of_pos_right s h
theorem many_even {o s n M : Nat} (h : o + s * n ≤ M) : o + (s + s) * (n / 2) ≤ M := by
  have : (s + s) * (n / 2) ≤ s * n := by
    rw [← Nat.two_mul, Nat.mul_comm 2 s, Nat.mul_assoc]
    exact Nat.mul_le_mul_left s (by omega)
  omega
theorem many_odd {o s n M : Nat} (h : o + s * n ≤ M) (hn : n % 2 = 1) : o + s + (s + s) * (n / 2) ≤ M := by
  have : s + (s + s) * (n / 2) = s * n := by
    rw [← Nat.two_mul, Nat.mul_comm 2 s, Nat.mul_assoc]
    conv => lhs; lhs; rw [← Nat.mul_one s]
    rw [← Nat.mul_add]
    congr 1; omega
  omega

set_option maxHeartbeats 1000000 in
theorem manyS (s : ByteArray) (n : Nat) (M : Nat) (w : World) (h : s.size * n ≤ M) (hM : M ≤ 1000000) (hs : s.size ≤ 1000000) (hn : n ≤ 1000000) :
    Calls Tryd.prog 31 #[.string s, .int .i64 n] w (ManyPost M w) := by
  have Hm := Lib.hid h
  clear h
  go_enter Tryd.func31, Tryd.ntmps31
  go_wp2_with fail
  go_loop [5, 0, 1] (fun o v c => ∃ (k : Nat) (x y : ByteArray), c = .int .i64 k ∧ o = .string x ∧ v = .string y ∧ k ≤ 1000000 ∧ y.size ≤ 2000000 ∧ x.size ≤ M ∧ Hid (x.size + y.size * k ≤ M)) (fun _ _ c => (intOf c).toNat)
  case atStart => exact ⟨n, ⟨#[]⟩, s, rfl, rfl, rfl, hn, by omega, by show 0 ≤ M; omega, by have := Hm.out; show _ ≤ _; have e : (⟨#[]⟩ : ByteArray).size = 0 := rfl; rw [e]; omega⟩
  case round =>
    obtain ⟨k, x, y, rfl, rfl, rfl, hk, hy, hx, hm⟩ := hrel
    rcases Nat.lt_or_ge 0 k with hlt | hge
    · have hy2 : y.size ≤ M := by have := hm.out; have := many_le (s := y.size) (n := k) hlt; omega
      rcases Nat.mod_two_eq_zero_or_one k with he | he
      · have e1 : ((k : Int) % 2 == 1) = false := by simp; omega
        have He := Lib.hid he
        clear he
        go_wp2
        go_round
        case rel => exact ⟨k / 2, x, y ++ y, by go_num, rfl, rfl, by omega, by rw [ByteArray.size_append]; omega, hx, by show _ ≤ _; rw [ByteArray.size_append]; exact many_even hm.out⟩
        case measure => simp [intOf]; omega
      · have e1 : ((k : Int) % 2 == 1) = true := by simp; omega
        have He := Lib.hid he
        clear he
        go_wp2
        go_round
        case rel => exact ⟨k / 2, x ++ y, y ++ y, by go_num, rfl, rfl, by omega, by rw [ByteArray.size_append]; omega, by have := many_odd hm.out He.out; rw [ByteArray.size_append]; omega, by show _ ≤ _; rw [ByteArray.size_append, ByteArray.size_append]; exact many_odd hm.out He.out⟩
        case measure => simp [intOf]; omega
    · obtain rfl : k = 0 := by omega
      go_wp2
      go_ret
      exact ⟨x, hx, rfl, rfl⟩
end Go.Proofs.YtiganhkmnklhlaaDoor
