/-
  When a trip has its form: in plain words; no program is walked here.
-/
import Derived.Test.YtjlfbcplocjemaaNameB
import Derived.Test.YtjlfbcplocjemaaStrs
namespace Go.Proofs.Ytjlfbcplocjemaa
open Go.RowKit
set_option linter.unusedVariables false

/-- A name's size is small. -/
theorem nameB_size {s : ByteArray} (h : nameB s.data.toList = true) : s.size ≤ 8 := by
  simp only [nameB, Bool.and_eq_true, decide_eq_true_eq] at h
  have : s.data.toList.length = s.size := by simp
  omega
def legAt (ss : List ByteArray) (i : Nat) : ByteArray := ss.getD i ByteArray.empty
/-- The first k legs are names, none twice. -/
def LegsTo (ss : List ByteArray) (k : Nat) : Prop := ∀ i, i < k → nameB (legAt ss i).data.toList = true ∧ ∀ j, j < i → legAt ss j ≠ legAt ss i
def FormOk (ss : List ByteArray) (f : ByteArray) (n : Int) : Prop := 1 ≤ ss.length ∧ ss.length ≤ 3 ∧ LegsTo ss ss.length ∧ nameB f.data.toList = true ∧ 1 ≤ n ∧ n ≤ 4
theorem legs_next {ss : List ByteArray} {k : Nat} (h : LegsTo ss k) (h1 : nameB (legAt ss k).data.toList = true) (h2 : ∀ j, j < k → legAt ss j ≠ legAt ss k) : LegsTo ss (k + 1) := by
  intro i hi
  rcases Nat.lt_or_ge i k with c | c
  · exact h i c
  · obtain rfl : i = k := by omega
    exact ⟨h1, h2⟩
end Go.Proofs.Ytjlfbcplocjemaa
