/-
  When a trip has its form, and what its text is: in plain words; no program is walked here.
-/
import Derived.Test.YtlfmhhdlandcjaaDoorDecN
import Derived.Test.YtlfmhhdlandcjaaDoorNameB
import Derived.Test.YtlfmhhdlandcjaaDoorStrs
import Derived.Lib.Join
namespace Go.Proofs.YtlfmhhdlandcjaaDoor
open Go.RowKit
set_option linter.unusedVariables false

/-- A name's size is small. -/
theorem nameB_size {s : ByteArray} (h : nameB s.data.toList = true) : s.size ≤ 8 := by
  simp only [nameB, Bool.and_eq_true, decide_eq_true_eq] at h
  have : s.data.toList.length = s.size := by simp
  omega
def legAt (ss : List ByteArray) (i : Nat) : ByteArray := ss.getD i ByteArray.empty
/-- The first k legs are names, none twice. -/
def LegsTo (ss : List ByteArray) (k : Nat) : Prop := ∀ i, i < k → nameB (legAt ss i).data.toList = true ∧ ∀ j, j < i → legAt ss j ≠ legAt ss i
def FormOk (ss : List ByteArray) (f : ByteArray) (n : Int) : Prop := 1 ≤ ss.length ∧ ss.length ≤ 3 ∧ LegsTo ss ss.length ∧ nameB f.data.toList = true ∧ 1 ≤ n ∧ n ≤ 4
theorem legs_next {ss : List ByteArray} {k : Nat} (h : LegsTo ss k) (h1 : nameB (legAt ss k).data.toList = true) (h2 : ∀ j, j < k → legAt ss j ≠ legAt ss k) : LegsTo ss (k + 1) := by
  intro i hi
  rcases Nat.lt_or_ge i k with c | c
  · exact h i c
  · obtain rfl : i = k := by omega
    exact ⟨h1, h2⟩
def joinL (ss : List ByteArray) : List UInt8 := Lib.join (ss.map (·.data.toList)) [45]
theorem join_app (x : List UInt8) (r : List (List UInt8)) (y sep : List UInt8) : Lib.join ((x :: r) ++ [y]) sep = Lib.join (x :: r) sep ++ (sep ++ y) := by
  rw [List.cons_append, Lib.join_cons, Lib.join_cons, Lib.joinTail, Lib.joinTail]
  simp
theorem joinL_one (x : ByteArray) : joinL [x] = x.data.toList := by simp [joinL, Lib.join_one]
theorem joinL_snoc (l : List ByteArray) (x : ByteArray) (h : l ≠ []) : joinL (l ++ [x]) = joinL l ++ 45 :: x.data.toList := by
  cases l with
  | nil => exact absurd rfl h
  | cons y r =>
    unfold joinL
    rw [List.map_append, List.map_cons, List.map_cons, List.map_nil, join_app]; rfl
theorem take_next (ss : List ByteArray) (k : Nat) (h : k < ss.length) : ss.take (k + 1) = ss.take k ++ [legAt ss k] := takeStr ss k h
theorem lens_le : ∀ (l : List ByteArray), (∀ x ∈ l, x.size ≤ 8) → Lib.lens (l.map (·.data.toList)) ≤ 8 * l.length
  | [], h => by simp [Lib.lens]
  | x :: r, h => by
    have ih := lens_le r (fun y hy => h y (by simp [hy]))
    have hx := h x (by simp)
    simp only [Lib.lens, List.map_cons, List.sum_cons, List.length_cons] at ih ⊢
    have : x.data.toList.length = x.size := by simp
    omega
theorem joinL_len (l : List ByteArray) (h : ∀ x ∈ l, x.size ≤ 8) : (joinL l).length ≤ 9 * l.length := by
  cases l with
  | nil => simp [joinL, Lib.join_nil]
  | cons x r =>
    have := lens_le (x :: r) h
    unfold joinL
    rw [List.map_cons] at this ⊢
    rw [Lib.join_length]
    simp only [List.length_cons, List.length_nil, List.length_map] at this ⊢
    omega
def tripT (ss : List ByteArray) (f : ByteArray) (n : Int) : List UInt8 := joinL ss ++ 47 :: (f.data.toList ++ 47 :: Lib.decDigits n.toNat)
/-- What TripWrite says. -/
def TripIs (ss : List ByteArray) (f : ByteArray) (n : Int) (o : ByteArray) : Prop := (FormOk ss f n ∧ o = ⟨(tripT ss f n).toArray⟩) ∨ (¬ FormOk ss f n ∧ o = ⟨#[]⟩)
theorem trip_one {ss : List ByteArray} {f o p : ByteArray} {n : Int} (h : TripIs ss f n o) (k : TripIs ss f n p) : o = p := by
  rcases h with ⟨h1, rfl⟩ | ⟨h1, rfl⟩
  · rcases k with ⟨k1, rfl⟩ | ⟨k1, rfl⟩
    · rfl
    · exact absurd h1 k1
  · rcases k with ⟨k1, rfl⟩ | ⟨k1, rfl⟩
    · exact absurd k1 h1
    · rfl
end Go.Proofs.YtlfmhhdlandcjaaDoor
