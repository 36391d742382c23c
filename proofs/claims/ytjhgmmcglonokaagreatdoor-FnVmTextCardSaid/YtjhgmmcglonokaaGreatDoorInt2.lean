/-
  A number with a stroke ahead or without, as the model reads it.
-/
import Derived.Test.YtjhgmmcglonokaaGreatDoorNum
import Derived.Test.YtjhgmmcglonokaaGreatDoorReadMath
namespace Go.Proofs.YtjhgmmcglonokaaGreatDoor
open Go.RowKit
set_option linter.unusedVariables false
set_option linter.unusedSimpArgs false

def intV (l : List UInt8) : Int := match l with
  | [] => numV []
  | c :: r => if c = 45 then -(numV r) else numV (c :: r)
def IntPost2 (s : ByteArray) (w : World) (e : Ending) (w' : World) : Prop := ∃ (n : Int) (b : Bool), e = .returned (.tuple #[.int .i64 n, .bool b]) ∧ Hid (n = intV s.data.toList) ∧ -1000000000000 < n ∧ n < 1000000000000 ∧ w = w'
theorem list_cons {s : ByteArray} (h : 0 < s.size) : s.data.toList = s[0] :: (s.extract 1 s.size).data.toList := by
  rw [Lib.extract_data, List.take_of_length_le (by simp)]
  have := List.drop_eq_getElem_cons (l := s.data.toList) (i := 0) (by simpa using h)
  rw [List.drop_zero] at this
  exact this
set_option maxHeartbeats 1000000 in
theorem intC (s : ByteArray) (w : World) (hs : s.size ≤ maxLen) :
    Calls Tryz.prog 68 #[.string s] w (IntPost2 s w) := by
  have hz := hs
  unfold maxLen at hz
  rcases Nat.eq_zero_or_pos s.size with h0 | h0
  · have g0 : decide ((0 : Int) < (s.size : Int)) = false := decide_eq_false (by omega)
    have g0n : decide (0 < s.size) = false := decide_eq_false (by omega)
    have hl : s.data.toList = [] := List.eq_nil_of_length_eq_zero (by simpa using h0)
    have K := Lib.hid (numAt s w hs)
    have HL := Lib.hid hl
    clear h0 hl
    go_enter Tryz.func68, Tryz.ntmps68
    go_wp2_with fail
    refine K.out.mono ?_
    rintro e w1 ⟨n, rfl, hn, h1, h2, rfl⟩
    have HN := Lib.hid hn
    clear hn
    go_wp2
    go_ret2
    exact ⟨_, _, rfl, Lib.hid (by rw [HN.out.out, HL.out]; rfl), by omega, by omega, rfl⟩
  · have g0 : decide ((0 : Int) < (s.size : Int)) = true := by simp; omega
    have g0n : decide (0 < s.size) = true := by simp; omega
    have i1 : (0 : Int) < (s.size : Int) := by omega
    have HC := Lib.hid (list_cons h0)
    by_cases hc : s[0] = 45
    · have z0 : ((s[0].toNat : Int) == 45) = true := by rw [hc]; rfl
      have z0n : (s[0].toNat == 45) = true := by rw [hc]; rfl
      have j1 : (1 : Int) ≤ (s.size : Int) := by omega
      have K := Lib.hid (numAt (s.extract 1 s.size) w (by rw [ByteArray.size_extract]; unfold maxLen; omega))
      have HI : Hid (intV s.data.toList = -(numV (s.extract 1 s.size).data.toList)) := by
        show _ = _
        rw [HC.out, hc]; rfl
      clear hc
      go_enter Tryz.func68, Tryz.ntmps68
      go_wp2_with fail
      refine K.out.mono ?_
      rintro e w1 ⟨n, rfl, hn, h1, h2, rfl⟩
      have e0 : IntKind.i64.wrap (-n) = -n := IntWalk.i64_in _ (by omega)
      have HN := Lib.hid hn
      clear hn
      go_wp2
      go_ret2
      exact ⟨_, _, rfl, Lib.hid (by rw [HI.out, HN.out.out]), by omega, by omega, rfl⟩
    · have z0 : ((s[0].toNat : Int) == 45) = false := by simp; intro e; exact hc (UInt8.toNat_inj.1 (by show _ = 45; omega))
      have z0n : (s[0].toNat == 45) = false := by simp; intro e; exact hc (UInt8.toNat_inj.1 (by show _ = 45; omega))
      have K := Lib.hid (numAt s w hs)
      have HI : Hid (intV s.data.toList = numV s.data.toList) := by
        show _ = _
        rw [HC.out]
        show (if s[0] = 45 then _ else _) = _
        rw [if_neg hc]
      clear hc
      go_enter Tryz.func68, Tryz.ntmps68
      go_wp2_with fail
      refine K.out.mono ?_
      rintro e w1 ⟨n, rfl, hn, h1, h2, rfl⟩
      have HN := Lib.hid hn
      clear hn
      go_wp2
      go_ret2
      exact ⟨_, _, rfl, Lib.hid (by rw [HI.out, HN.out.out]), by omega, by omega, rfl⟩
end Go.Proofs.YtjhgmmcglonokaaGreatDoor
