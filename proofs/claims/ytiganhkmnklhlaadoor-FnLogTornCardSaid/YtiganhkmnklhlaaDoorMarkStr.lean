/-
  Lists of texts that are marked, and held against their marks.
-/
import Derived.Test.YtiganhkmnklhlaaDoorDec
import Derived.Test.YtiganhkmnklhlaaDoorStrs
namespace Go.Proofs.YtiganhkmnklhlaaDoor
open Go.RowKit
set_option linter.unusedVariables false

def mkS (k : Nat) : ByteArray := ⟨(109 :: Lib.decDigits k).toArray⟩
def headD (n : Nat) : List UInt8 := if n = 0 then [] else Lib.decDigits n
theorem headD_step {n : Nat} (h : 0 < n) : headD n = headD (n / 10) ++ [UInt8.ofNat (48 + n % 10)] := by
  unfold headD
  rw [if_neg (by omega), Lib.decDigits.eq_1 n]
  by_cases h10 : n < 10
  · rw [dif_pos h10, if_pos (by omega)]; congr 2; omega
  · rw [dif_neg h10, if_neg (by omega)]
theorem mk_next {n k : Nat} {s : ByteArray} (h : 0 < n) (hs : headD n ++ s.data.toList = Lib.decDigits k) : headD (n / 10) ++ ((⟨#[48 + UInt8.ofNat (n % 10)]⟩ : ByteArray) ++ s).data.toList = Lib.decDigits k := by
  rw [headD_step h, List.append_assoc] at hs
  rw [← hs]
  simp
theorem size_list (s : ByteArray) : s.data.toList.length = s.size := by simp

/-- A list of texts of its own: its cells can be written. -/
def StrsW (B : Nat) (w : World) (a : Option Addr) (len : Nat) : Prop :=
  len = 0 ∨ ∃ g, a = some ⟨g, 0, none⟩ ∧ B ≤ g ∧ g < w.heap.size ∧ ∀ i, i < len → (∃ u, w.cell? ⟨g, i, none⟩ = some (.string u)) ∧ w.frozen? ⟨g, i, none⟩ = false
def Marked (w : World) (g len k0 : Nat) : Prop := ∀ i, i < len → w.cell? ⟨g, i, none⟩ = some (.string (mkS (k0 + i)))
def MarkSt (B : Nat) (a : Option Addr) (len k0 : Nat) (w : World) (e : Ending) (w' : World) : Prop :=
  e = .returned (.int .i64 ((k0 : Int) + len)) ∧ (len = 0 ∧ w' = w ∨ ∃ g, a = some ⟨g, 0, none⟩ ∧ B ≤ g ∧ g < w.heap.size ∧ w.grownBy w' (some g) ∧ Marked w' g len k0)
theorem below_grown {w w' : World} (h : Below w.heap.size w w') (row : Option Nat) : w.grownBy w' row := ⟨h.os, h.tape, h.output, h.size, fun k hk _ => h.block k hk⟩

end Go.Proofs.YtiganhkmnklhlaaDoor
