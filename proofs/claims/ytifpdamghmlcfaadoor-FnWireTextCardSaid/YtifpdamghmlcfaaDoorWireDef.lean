/-
  Words as bytes, in plain words: one word, and words one behind the other; no program is walked here.
-/
import Derived.Test.YtifpdamghmlcfaaDoorDec
import Derived.Test.YtifpdamghmlcfaaDoorStrs
namespace Go.Proofs.YtifpdamghmlcfaaDoor
open Go.RowKit
set_option linter.unusedVariables false

def wire1 (s : ByteArray) : List UInt8 := Lib.decDigits s.size ++ [58] ++ s.data.toList ++ [44]
def wireL : List ByteArray → List UInt8
  | [] => []
  | s :: r => wire1 s ++ wireL r
theorem wireL_snoc (l : List ByteArray) (s : ByteArray) : wireL (l ++ [s]) = wireL l ++ wire1 s := by
  induction l with
  | nil => simp [wireL]
  | cons x r ih => simp only [List.cons_append, wireL, ih, List.append_assoc]
theorem wire1_len (s : ByteArray) (h : s.size ≤ 9223372036854775807) : (wire1 s).length ≤ s.size + 22 := by
  have := dec_len s.size h
  have e : s.data.toList.length = s.size := by simp
  simp only [wire1, List.length_append, List.length_cons, List.length_nil, e]; omega
theorem wireL_take_le (l : List ByteArray) (k : Nat) : (wireL (l.take k)).length ≤ (wireL l).length := by
  induction l generalizing k with
  | nil => simp [wireL]
  | cons x r ih =>
    cases k with
    | zero => simp [wireL]
    | succ k => simp only [List.take_succ_cons, wireL, List.length_append]; have := ih k; omega
theorem wireL_len (l : List ByteArray) (h : total l ≤ 1048576) : (wireL l).length ≤ total l + 22 * l.length := by
  induction l with
  | nil => simp [wireL]
  | cons x r ih =>
    simp only [total] at h
    have := ih (by omega)
    have := wire1_len x (by omega)
    simp only [wireL, total, List.length_append, List.length_cons]; omega
end Go.Proofs.YtifpdamghmlcfaaDoor
