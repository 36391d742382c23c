/-
  What the library's Itoa returns at a number that is not below nought, and what stays in the world.
  A text that is a mark.
-/
import Derived.Test.YtjphjnopdlfplaaGreatDoorDecN
import Derived.Test.YtjphjnopdlfplaaGreatDoorDoor3
import Derived.Test.YtjphjnopdlfplaaGreatDoorJ5
import Derived.Lib.SmallJoins
namespace Go.Proofs.YtjphjnopdlfplaaGreatDoor
open Go.RowKit
set_option linter.unusedVariables false

theorem below_grow (w : World) (k : Nat) (os : Array Obj) : Below w.heap.size w (Sort.grow (w.drewN k) os) :=
  ⟨rfl, rfl, rfl, by simp [Sort.grow, World.drewN], fun i hi => by
    show (w.heap ++ os)[i]? = _
    rw [Array.getElem?_append_left hi]⟩
theorem laid_stays {w w' : World} (h : Laid w) (hb : Below w.heap.size w w') : Laid w' := Joins.tab_stays gTab h hb (Nat.le_refl _)
def ItoaPost (x : Int) (w : World) (e : Ending) (w' : World) : Prop := ∃ s : ByteArray, e = .returned (.string s) ∧ s.size ≤ 20 ∧ Hid (s = ⟨(Lib.decDigits x.toNat).toArray⟩) ∧ Below w.heap.size w w' ∧ Laid w'
theorem itoaS (x : Int) (w : World) (hL : Laid w) (h0 : 0 ≤ x) (h1 : x ≤ 9223372036854775807) :
    Calls Tryz.prog 77 #[.int .i64 x] w (ItoaPost x w) :=
  (Tryz.strconv_Itoa x (by omega) h1 w hL).mono fun e w' h => by
    obtain ⟨rfl, k, os, rfl⟩ := h
    have e1 : Lib.itoa x = Lib.decDigits x.toNat := by rw [Lib.itoa, if_neg (by omega)]
    refine ⟨_, rfl, ?_, by rw [e1]; rfl, below_grow w k os, laid_stays hL (below_grow w k os)⟩
    rw [e1]
    have := dec_len x.toNat (by omega)
    simpa [ByteArray.size] using this
end Go.Proofs.YtjphjnopdlfplaaGreatDoor

namespace Go.Proofs.YtjphjnopdlfplaaGreatDoor
open Go.RowKit
set_option linter.unusedVariables false

def mkS (k : Nat) : ByteArray := ⟨(109 :: Lib.decDigits k).toArray⟩
def headD (n : Nat) : List UInt8 := if n = 0 then [] else Lib.decDigits n
theorem headD_step {n : Nat} (h : 0 < n) : headD n = headD (n / 10) ++ [UInt8.ofNat (48 + n % 10)] := by
  unfold headD
  rw [if_neg (by omega), Lib.decDigits.eq_1 n]
  by_cases h10 : n < 10
  · rw [dif_pos h10, if_pos (by omega)]; congr 2; omega
  · rw [dif_neg h10, if_neg (by omega)]
theorem mk_next {n k : Nat} {s : ByteArray} (h : 0 < n) (hs : headD n ++ s.data.toList = Lib.decDigits k) : headD (n / 10) ++ ((⟨#[48 + UInt8.ofNat (n % 10)]⟩ : ByteArray) ++ s).data.toList = Lib.decDigits k := by
  rw [headD_step h, List.append_assoc] at hs
  rw [← hs]
  simp
theorem size_list (s : ByteArray) : s.data.toList.length = s.size := by simp

end Go.Proofs.YtjphjnopdlfplaaGreatDoor
