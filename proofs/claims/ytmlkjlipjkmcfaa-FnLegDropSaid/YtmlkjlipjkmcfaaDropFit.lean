/-
  What is let go, or kept, once more: nothing is there any more.
-/
import Derived.Test.YtmlkjlipjkmcfaaOkMath
import Derived.Test.YtmlkjlipjkmcfaaLegDropI
import Derived.Test.YtmlkjlipjkmcfaaSpoilMath
import Derived.Test.YtmlkjlipjkmcfaaWsLeg
namespace Go.Proofs.Ytmlkjlipjkmcfaa
open Go.RowKit
set_option linter.unusedVariables false
set_option linter.unusedSimpArgs false

theorem posT_all {t : Nat → Int} {x : Int} : ∀ n, ¬ posT t x n < n → ∀ i, i < n → t i ≠ x
  | 0, _, i, hi => absurd hi (Nat.not_lt_zero _)
  | n + 1, h, i, hi => by
    simp only [posT] at h
    by_cases h1 : posT t x n < n
    · rw [if_pos h1] at h; omega
    · rw [if_neg h1] at h
      by_cases h2 : t n = x
      · rw [if_pos h2] at h; omega
      · rcases Nat.lt_or_ge i n with q | q
        · exact posT_all n h1 i q
        · obtain rfl : i = n := by omega
          exact h2
theorem del_gone {d : LegD} (h : HoldsOk d) {k : Nat} {x : Int} (hk : k < d.nH) (hx : d.t k = x) : ∀ i, i < d.nH - 1 → d.t (sk k i) ≠ x := by
  intro i hi
  unfold sk
  split
  · have := asc_of h (i := i) (j := k) (by assumption) hk; omega
  · have := asc_of h (i := k) (j := i + 1) (by omega) (by omega); omega
theorem drop_gone {d : LegD} (h : HoldsOk d) (x : Int) : ∀ i, i < (dropD d x).nH → (dropD d x).t i ≠ x := by
  unfold dropD
  split
  · rename_i hk
    exact del_gone h hk (posT_has _ hk)
  · rename_i hk
    exact posT_all _ hk
theorem keep_gone {d : LegD} (h : HoldsOk d) (x : Int) : ∀ i, i < (keepD d x).nH → (keepD d x).t i ≠ x := by
  unfold keepD
  split
  · rename_i hk
    exact del_gone h hk (posT_has _ hk)
  · rename_i hk
    exact posT_all _ hk
theorem drop_none {g : LegD} {x : Int} (h : ∀ i, i < g.nH → g.t i ≠ x) : dropD g x = g := by
  unfold dropD
  rw [if_neg (by rw [posT_no _ h]; omega)]
theorem keep_none {g : LegD} {x : Int} (h : ∀ i, i < g.nH → g.t i ≠ x) : keepD g x = g := by
  unfold keepD
  rw [if_neg (by rw [posT_no _ h]; omega)]
theorem drop_S (d : LegD) (x : Int) : (dropD d x).S = d.S ∧ (dropD d x).nS = d.nS ∧ d.nH - 1 ≤ (dropD d x).nH := by
  unfold dropD
  split
  · exact ⟨rfl, rfl, Nat.le_refl _⟩
  · exact ⟨rfl, rfl, Nat.sub_le _ _⟩
theorem post_one {d g a b : LegD} (h : (OkLeg d → a = g) ∧ (¬ OkLeg d → a = zeroD)) (k : (OkLeg d → b = g) ∧ (¬ OkLeg d → b = zeroD)) : a = b := by
  by_cases q : OkLeg d
  · rw [h.1 q, k.1 q]
  · rw [h.2 q, k.2 q]
theorem zero_fits : Fits zeroD := by refine ⟨?_, ?_, ?_, ?_, ?_, ?_, ?_⟩ <;> decide
theorem post_fits {d g a : LegD} (hg : OkLeg d → OkLeg g) (h : (OkLeg d → a = g) ∧ (¬ OkLeg d → a = zeroD)) : Fits a := by
  by_cases q : OkLeg d
  · rw [h.1 q]; exact okLeg_fits (hg q)
  · rw [h.2 q]; exact zero_fits
/-- A leg that was handed back, in whatever memory. -/
def Ls (g : LegD) (W : World) (v : Value) : Prop := ∃ q, v = LegV g q ∧ LegIn W g q
theorem Ls.kept {g : LegD} {W W' : World} {v : Value} (h : Ls g W v) (hb : Below W.heap.size W W') : Ls g W' v := by
  obtain ⟨q, e, hi⟩ := h
  exact ⟨q, e, hi.kept hb⟩
end Go.Proofs.Ytmlkjlipjkmcfaa
