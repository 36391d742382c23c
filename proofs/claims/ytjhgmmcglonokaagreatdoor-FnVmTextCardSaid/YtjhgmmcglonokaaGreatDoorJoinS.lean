/-
  Texts, one behind the other with a byte between.
-/
import Derived.Test.YtjhgmmcglonokaaGreatDoorJ1
import Derived.Lib.Join
namespace Go.Proofs.YtjhgmmcglonokaaGreatDoor
open Go.RowKit
set_option linter.unusedVariables false
set_option linter.unusedSimpArgs false

def joinS (sep : UInt8) (ss : List ByteArray) : List UInt8 := Lib.join (ss.map (·.data.toList)) [sep]
theorem join_app (x : List UInt8) (r : List (List UInt8)) (y sep : List UInt8) : Lib.join ((x :: r) ++ [y]) sep = Lib.join (x :: r) sep ++ (sep ++ y) := by
  rw [List.cons_append, Lib.join_cons, Lib.join_cons, Lib.joinTail, Lib.joinTail]
  simp
theorem joinS_one (sep : UInt8) (x : ByteArray) : joinS sep [x] = x.data.toList := by simp [joinS, Lib.join_one]
theorem joinS_snoc (sep : UInt8) (l : List ByteArray) (x : ByteArray) (h : l ≠ []) : joinS sep (l ++ [x]) = joinS sep l ++ sep :: x.data.toList := by
  cases l with
  | nil => exact absurd rfl h
  | cons y r =>
    unfold joinS
    rw [List.map_append, List.map_cons, List.map_cons, List.map_nil, join_app]; rfl
theorem lensS_le (m : Nat) : ∀ (l : List ByteArray), (∀ x ∈ l, x.size ≤ m) → Lib.lens (l.map (·.data.toList)) ≤ m * l.length
  | [], h => by simp [Lib.lens]
  | x :: r, h => by
    have ih := lensS_le m r (fun y hy => h y (by simp [hy]))
    have hx := h x (by simp)
    simp only [Lib.lens, List.map_cons, List.sum_cons, List.length_cons] at ih ⊢
    have : x.data.toList.length = x.size := by simp
    rw [Nat.mul_succ]
    omega
theorem joinS_len (sep : UInt8) (m : Nat) (l : List ByteArray) (h : ∀ x ∈ l, x.size ≤ m) : (joinS sep l).length ≤ (m + 1) * l.length := by
  cases l with
  | nil => simp [joinS, Lib.join_nil]
  | cons x r =>
    have := lensS_le m (x :: r) h
    unfold joinS
    rw [List.map_cons] at this ⊢
    rw [Lib.join_length]
    simp only [List.length_cons, List.length_nil, List.length_map] at this ⊢
    have e1 : (m + 1) * (r.length + 1) = m * (r.length + 1) + (r.length + 1) := Nat.succ_mul _ _
    omega
end Go.Proofs.YtjhgmmcglonokaaGreatDoor
