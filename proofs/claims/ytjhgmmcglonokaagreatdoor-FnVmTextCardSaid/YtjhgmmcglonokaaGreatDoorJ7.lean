/-
  What the library's Itoa returns at a number that is not below nought, and what stays in the world.
  A text that is a mark.
-/
import Derived.Test.YtjhgmmcglonokaaGreatDoorDecN
import Derived.Test.YtjhgmmcglonokaaGreatDoorJ4
import Derived.Test.YtjhgmmcglonokaaGreatDoorJ6
import Derived.Lib.SmallJoins
namespace Go.Proofs.YtjhgmmcglonokaaGreatDoor
open Go.RowKit
set_option linter.unusedVariables false

theorem below_grow (w : World) (k : Nat) (os : Array Obj) : Below w.heap.size w (Sort.grow (w.drewN k) os) :=
  ⟨rfl, rfl, rfl, by simp [Sort.grow, World.drewN], fun i hi => by
    show (w.heap ++ os)[i]? = _
    rw [Array.getElem?_append_left hi]⟩
theorem laid_stays {w w' : World} (h : Laid w) (hb : Below w.heap.size w w') : Laid w' := Joins.tab_stays gTab h hb (Nat.le_refl _)
end Go.Proofs.YtjhgmmcglonokaaGreatDoor

namespace Go.Proofs.YtjhgmmcglonokaaGreatDoor
open Go.RowKit
set_option linter.unusedVariables false

def mkS (k : Nat) : ByteArray := ⟨(109 :: Lib.decDigits k).toArray⟩
def headD (n : Nat) : List UInt8 := if n = 0 then [] else Lib.decDigits n
theorem headD_step {n : Nat} (h : 0 < n) : headD n = headD (n / 10) ++ [UInt8.ofNat (48 + n % 10)] := by
  unfold headD
  rw [if_neg (by omega), Lib.decDigits.eq_1 n]
  by_cases h10 : n < 10
  · rw [dif_pos h10, if_pos (by omega)]; congr 2; omega
  · rw [dif_neg h10, if_neg (by omega)]
theorem mk_next {n k : Nat} {s : ByteArray} (h : 0 < n) (hs : headD n ++ s.data.toList = Lib.decDigits k) : headD (n / 10) ++ ((⟨#[48 + UInt8.ofNat (n % 10)]⟩ : ByteArray) ++ s).data.toList = Lib.decDigits k := by
  rw [headD_step h, List.append_assoc] at hs
  rw [← hs]
  simp
theorem size_list (s : ByteArray) : s.data.toList.length = s.size := by simp

set_option maxHeartbeats 1000000 in
theorem markTextS (k : Nat) (w : World) (h1 : 1 ≤ k) (h2 : k ≤ 1000000000000) :
    Calls Tryz.prog 38 #[.int .i64 k] w fun e w' => e = .returned (.string (mkS k)) ∧ Below w.heap.size w w' := by
  have Hl := Lib.hid (dec_len k (by omega))
  have k0 : (0 : Int) < k := by omega
  go_enter Tryz.func38, Tryz.ntmps38
  go_wp2_with fail
  go_loopw [3, 0] (fun o i wr => ∃ (n : Nat) (s : ByteArray), i = .int .i64 n ∧ n ≤ k ∧ o = .string s ∧ s.size ≤ 20 ∧ Hid (headD n ++ s.data.toList = Lib.decDigits k) ∧ Below w.heap.size w wr) (fun _ i _ => (intOf i).toNat)
  case atStart => exact ⟨k, ⟨#[]⟩, rfl, Nat.le_refl _, rfl, by decide, by simp [Hid, headD]; omega, Below.refl _ _⟩
  case round =>
    obtain ⟨n, s, rfl, hn, rfl, hsz, hs, hb⟩ := hrel
    rcases Nat.eq_zero_or_pos n with c | c
    · subst c
      go_wp2
      go_ret
      refine ⟨retS ?_, hb⟩
      have := hs.out
      simp only [headD, if_true, List.nil_append] at this
      apply ByteArray.ext
      apply Array.ext'
      simp [mkS, ← this]
    · have cv := conv1
      have cb := isByte_u8
      have cs := byteStr_u8
      have c0 : (0 : Int) < n := by omega
      have q1 : IntKind.i64.wrap ((n : Int) / 10) = (n : Int) / 10 := IntWalk.i64_in _ (by omega)
      have q0 : (n : Int).tmod 10 = (n : Int) % 10 := rfl
      have q2 : IntKind.i64.wrap (48 + (n : Int) % 10) = 48 + (n : Int) % 10 := IntWalk.i64_in _ (by omega)
      have q3 : IntKind.u8.wrap (48 + (n : Int) % 10) = 48 + (n : Int) % 10 := IntWalk.u8_in _ (by omega)
      have hm := mk_next c hs.out
      have Hm := Lib.hid hm
      have hz2 : ((⟨#[48 + UInt8.ofNat (n % 10)]⟩ : ByteArray) ++ s).size ≤ 20 := by
        have := congrArg List.length hm
        have h3 := Hl.out
        rw [List.length_append, size_list] at this
        omega
      have Hz2 := Lib.hid hz2
      clear hm hz2
      go_wp2
      go_roundw
      case rel => exact ⟨n / 10, _, by go_num, by omega, rfl, Hz2.out, Hm.out, hb.alloc hb.size _⟩
      case measure => simp [intOf]; omega

end Go.Proofs.YtjhgmmcglonokaaGreatDoor
