/-
  The number that the model reads off figures: at most twelve, without noughts ahead; -1 of any other text.
-/
import Derived.Test.YtjhgmmcglonokaaGreatDoorJ1
import Derived.Lib.Atoi
import Derived.Lib.Strings
namespace Go.Proofs.YtjhgmmcglonokaaGreatDoor
open Go.RowKit
set_option linter.unusedVariables false

theorem decFromApp : ∀ (l l' : List UInt8) (a : Nat), Lib.decFrom a (l ++ l') = (Lib.decFrom a l).bind fun m => Lib.decFrom m l'
  | [], l', a => by simp [Lib.decFrom]
  | b :: l, l', a => by
    simp only [List.cons_append, Lib.decFrom]
    cases Lib.digitVal b with
    | none => rfl
    | some d => exact decFromApp l l' _

def numOk (l : List UInt8) : Bool := decide (1 ≤ l.length) && decide (l.length ≤ 12) && !(decide (1 < l.length) && l.head? == some 48)
def numV (l : List UInt8) : Int := if numOk l then (match Lib.decFrom 0 l with | some m => (m : Int) | none => -1) else -1

theorem takeSnoc (s : ByteArray) (k : Nat) (h : k < s.size) : s.data.toList.take (k + 1) = s.data.toList.take k ++ [s[k]] := by
  rw [List.take_succ_eq_append_getElem (by simpa using h)]; rfl
theorem listLen (s : ByteArray) : s.data.toList.length = s.size := by simp
theorem head_at (s : ByteArray) (h : 0 < s.size) : s.data.toList.head? = some s[0] := by
  rw [List.head?_eq_getElem?, List.getElem?_eq_getElem (by simpa using h)]; rfl

theorem num_bad_len {s : ByteArray} (h : s.size < 1 ∨ 12 < s.size) : numV s.data.toList = -1 := by
  have : numOk s.data.toList = false := by
    unfold numOk; rw [listLen]
    rcases h with h | h
    · simp [show ¬ 1 ≤ s.size by omega]
    · simp [show ¬ s.size ≤ 12 by omega]
  rw [numV, this]; rfl
theorem num_bad_nought {s : ByteArray} (h : 1 < s.size) (h0 : (s[0]'(by omega)).toNat = 48) : numV s.data.toList = -1 := by
  have hb : s[0]'(by omega) = 48 := UInt8.toNat_inj.1 (by simpa using h0)
  have : numOk s.data.toList = false := by
    unfold numOk; rw [listLen, head_at s (by omega), hb]
    simp [h]
  rw [numV, this]; rfl
theorem num_ok {s : ByteArray} (h1 : 1 ≤ s.size) (h2 : s.size ≤ 12) (h0 : s.size ≤ 1 ∨ (s[0]'(by omega)).toNat ≠ 48) : numOk s.data.toList = true := by
  unfold numOk; rw [listLen, head_at s (by omega)]
  rcases h0 with h | h
  · simp [h1, h2, show ¬ 1 < s.size by omega]
  · have : ¬ s[0]'(by omega) = 48 := fun e => h (by rw [e]; rfl)
    simp [h1, h2, this]
theorem dec_none (s : ByteArray) (k : Nat) (h : k < s.size) {m : Nat} (ht : Lib.decFrom 0 (s.data.toList.take k) = some m) (hb : (s[k].toNat : Int) < 48 ∨ 57 < (s[k].toNat : Int)) : Lib.decFrom 0 s.data.toList = none := by
  have e : s.data.toList = s.data.toList.take k ++ (s[k] :: s.data.toList.drop (k + 1)) := by
    conv => lhs; rw [← List.take_append_drop k s.data.toList]
    congr 1
    rw [List.drop_eq_getElem_cons (by simpa using h)]; rfl
  rw [e, decFromApp, ht]
  have : Lib.digitVal s[k] = none := by unfold Lib.digitVal; rw [if_neg (by omega)]
  simp only [Option.bind_some, Lib.decFrom, this]
theorem dec_some (s : ByteArray) (k : Nat) (h : k < s.size) {m : Nat} (ht : Lib.decFrom 0 (s.data.toList.take k) = some m) (h1 : 48 ≤ (s[k].toNat : Int)) (h2 : (s[k].toNat : Int) ≤ 57) : Lib.decFrom 0 (s.data.toList.take (k + 1)) = some (m * 10 + (s[k].toNat - 48)) := by
  have : Lib.digitVal s[k] = some (s[k].toNat - 48) := by unfold Lib.digitVal; rw [if_pos (by omega)]
  rw [takeSnoc s k h, decFromApp, ht]
  simp only [Option.bind_some, Lib.decFrom, this]
theorem num_none {s : ByteArray} (h : Lib.decFrom 0 s.data.toList = none) : numV s.data.toList = -1 := by
  unfold numV; split
  · rw [h]
  · rfl
theorem num_some {s : ByteArray} {m : Nat} (ho : numOk s.data.toList = true) (h : Lib.decFrom 0 (s.data.toList.take s.size) = some m) : numV s.data.toList = m := by
  rw [List.take_of_length_le (by rw [listLen]; exact Nat.le_refl _)] at h
  rw [numV, ho, h]; rfl
def pow10 (k : Nat) : Int := ((10 ^ k : Nat) : Int)
theorem pow10_le {k : Nat} (h : k ≤ 12) : pow10 k ≤ 1000000000000 := by
  unfold pow10
  have : (10 ^ k : Nat) ≤ 10 ^ 12 := Nat.pow_le_pow_right (by omega) h
  omega
theorem pow10_succ (k : Nat) : pow10 (k + 1) = pow10 k * 10 := by unfold pow10; rw [Nat.pow_succ]; omega

theorem num_cast {m b : Nat} (h : 48 ≤ b) : Value.int .i64 ((m : Int) * 10 + ((b : Int) - 48)) = .int .i64 ((m * 10 + (b - 48) : Nat) : Int) := by
  congr 1; omega

def NumIs (s : ByteArray) (w : World) (e : Ending) (w' : World) : Prop := ∃ n : Int, e = .returned (.int .i64 n) ∧ Hid (n = numV s.data.toList) ∧ -1 ≤ n ∧ n < 1000000000000 ∧ w = w'

set_option maxHeartbeats 1000000 in
theorem numAt (s : ByteArray) (w : World) (hs : s.size ≤ maxLen) :
    Calls Tryz.prog 69 #[.string s] w (NumIs s w) := by
  unfold maxLen at hs
  by_cases h1 : s.size < 1 ∨ 12 < s.size
  · have hv := num_bad_len h1
    have Hv := Lib.hid hv
    have hf : (decide (1 ≤ (s.size : Int)) && decide ((s.size : Int) ≤ 12)) = false := by simp; omega
    have Hf := Lib.hid hf
    clear hv h1 hf
    go_enter Tryz.func69, Tryz.ntmps69
    go_wp2_with fail
    refine (specInB _ _ _ _ false Hf.out).mono ?_
    rintro e w' ⟨rfl, rfl⟩
    go_wp2
    go_ret
    exact ⟨_, rfl, Hv.out.symm, by omega, by omega, rfl⟩
  · have ht : (decide (1 ≤ (s.size : Int)) && decide ((s.size : Int) ≤ 12)) = true := by simp; omega
    have Ht := Lib.hid ht
    obtain ⟨a1, a2⟩ : 1 ≤ s.size ∧ s.size ≤ 12 := by omega
    clear h1 ht
    have hp : 0 < s.size := by omega
    by_cases hz : 1 < s.size ∧ (s[0]'hp).toNat = 48
    · obtain ⟨z1, z2⟩ := hz
      have Hv := Lib.hid (num_bad_nought z1 z2)
      have z3 : (((s[0]'hp).toNat : Int) == 48) = true := by simp; omega
      clear z2
      go_enter Tryz.func69, Tryz.ntmps69
      go_wp2_with fail
      refine (specInB _ _ _ _ true Ht.out).mono ?_
      rintro e w' ⟨rfl, rfl⟩
      go_wp2
      go_ret
      exact ⟨_, rfl, Hv.out.symm, by omega, by omega, rfl⟩
    · have Ho := Lib.hid (num_ok a1 a2 (by omega))
      by_cases g : 1 < s.size
      · have z3 : (((s[0]'hp).toNat : Int) == 48) = false := by simp; omega
        clear hz
        go_enter Tryz.func69, Tryz.ntmps69
        go_wp2_with fail
        refine (specInB _ _ _ _ true Ht.out).mono ?_
        rintro e w' ⟨rfl, rfl⟩
        go_wp2
        go_loop [3, 4] (fun n i => ∃ k : Nat, k ≤ s.size ∧ i = .int .i64 k ∧ ∃ m : Nat, n = .int .i64 m ∧ Hid (Lib.decFrom 0 (s.data.toList.take k) = some m) ∧ (m : Int) < pow10 k) (fun _ i => s.size - (intOf i).toNat)
        case atStart => exact ⟨0, Nat.zero_le _, rfl, 0, rfl, rfl, by decide⟩
        case round =>
          obtain ⟨k, hk, rfl, m, rfl, hm, hlt10⟩ := hrel
          have hp10 := pow10_le (k := k) (by omega)
          have hs10 := Lib.hid (pow10_succ k)
          by_cases hlt : k < s.size
          · by_cases c1 : (s[k].toNat : Int) < 48
            · have Hr := Lib.hid (num_none (dec_none s k hlt hm.out (.inl c1)))
              go_wp2
              go_ret
              exact ⟨_, rfl, Hr.out.symm, by omega, by omega, rfl⟩
            by_cases c2 : 57 < (s[k].toNat : Int)
            · have Hr := Lib.hid (num_none (dec_none s k hlt hm.out (.inr c2)))
              go_wp2
              go_ret
              exact ⟨_, rfl, Hr.out.symm, by omega, by omega, rfl⟩
            · have Hr := Lib.hid (dec_some s k hlt hm.out (by omega) (by omega))
              go_wp2
              go_round
              case rel => exact ⟨k + 1, by omega, by go_num, m * 10 + (s[k].toNat - 48), num_cast (by omega), Hr.out, by have := hs10.out; omega⟩
              case measure => simp [intOf]; omega
          · obtain rfl : k = s.size := by omega
            have Hr := Lib.hid (num_some Ho.out hm.out)
            go_wp2
            go_ret
            exact ⟨_, rfl, Hr.out.symm, by omega, by omega, rfl⟩
      · clear hz
        go_enter Tryz.func69, Tryz.ntmps69
        go_wp2_with fail
        refine (specInB _ _ _ _ true Ht.out).mono ?_
        rintro e w' ⟨rfl, rfl⟩
        go_wp2
        go_loop [3, 4] (fun n i => ∃ k : Nat, k ≤ s.size ∧ i = .int .i64 k ∧ ∃ m : Nat, n = .int .i64 m ∧ Hid (Lib.decFrom 0 (s.data.toList.take k) = some m) ∧ (m : Int) < pow10 k) (fun _ i => s.size - (intOf i).toNat)
        case atStart => exact ⟨0, Nat.zero_le _, rfl, 0, rfl, rfl, by decide⟩
        case round =>
          obtain ⟨k, hk, rfl, m, rfl, hm, hlt10⟩ := hrel
          have hp10 := pow10_le (k := k) (by omega)
          have hs10 := Lib.hid (pow10_succ k)
          by_cases hlt : k < s.size
          · by_cases c1 : (s[k].toNat : Int) < 48
            · have Hr := Lib.hid (num_none (dec_none s k hlt hm.out (.inl c1)))
              go_wp2
              go_ret
              exact ⟨_, rfl, Hr.out.symm, by omega, by omega, rfl⟩
            by_cases c2 : 57 < (s[k].toNat : Int)
            · have Hr := Lib.hid (num_none (dec_none s k hlt hm.out (.inr c2)))
              go_wp2
              go_ret
              exact ⟨_, rfl, Hr.out.symm, by omega, by omega, rfl⟩
            · have Hr := Lib.hid (dec_some s k hlt hm.out (by omega) (by omega))
              go_wp2
              go_round
              case rel => exact ⟨k + 1, by omega, by go_num, m * 10 + (s[k].toNat - 48), num_cast (by omega), Hr.out, by have := hs10.out; omega⟩
              case measure => simp [intOf]; omega
          · obtain rfl : k = s.size := by omega
            have Hr := Lib.hid (num_some Ho.out hm.out)
            go_wp2
            go_ret
            exact ⟨_, rfl, Hr.out.symm, by omega, by omega, rfl⟩
end Go.Proofs.YtjhgmmcglonokaaGreatDoor
