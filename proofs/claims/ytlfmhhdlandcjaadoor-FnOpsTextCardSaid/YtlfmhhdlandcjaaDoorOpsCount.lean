/-
  How many noughts stand in drawn ops' text: too few for a share of thirteen figures. No program is walked here.
-/
import Derived.Test.YtlfmhhdlandcjaaDoorOpsPieces
namespace Go.Proofs.YtlfmhhdlandcjaaDoor
open Go.RowKit
set_option linter.unusedVariables false
set_option linter.unusedSimpArgs false

/-- How many noughts there are. -/
def n0 (l : List UInt8) : Nat := l.count 48
theorem n0_app (a b : List UInt8) : n0 (a ++ b) = n0 a + n0 b := List.count_append
theorem n0_cons (c : UInt8) (l : List UInt8) : n0 (c :: l) = n0 l + (if c = 48 then 1 else 0) := by
  rw [n0, n0, List.count_cons]; congr 1; simp [beq_iff_eq]
theorem n0_len (l : List UInt8) : n0 l ≤ l.length := List.count_le_length
theorem n0_none {l : List UInt8} (h : (48 : UInt8) ∉ l) : n0 l = 0 := List.count_eq_zero.2 h
theorem n0_digs {u : Nat} (h : u < 1000) : n0 (Lib.decDigits u) ≤ 2 := by
  have hl := digs_len 2 u (by omega)
  rcases Nat.eq_zero_or_pos u with rfl | h1
  · rw [Lib.decDigits_one (by omega)]; decide
  · have hh := digs_head u (Nat.le_refl _) h1
    generalize Lib.decDigits u = D at *
    cases D with
    | nil => simp [n0]
    | cons c r =>
      have hc : c ≠ 48 := by simpa using hh
      rw [n0_cons, if_neg hc]
      have := n0_len r
      simp only [List.length_cons] at hl
      omega
theorem n0_small {u : Nat} (h1 : 1 ≤ u) (h : u < 10) : n0 (Lib.decDigits u) = 0 := by
  rw [Lib.decDigits_one h]
  have : ∀ u, u < 10 → 1 ≤ u → n0 [UInt8.ofNat (48 + u)] = 0 := by decide
  exact this u h h1
theorem n0_one {u : Nat} (h : u < 10) : n0 (Lib.decDigits u) ≤ 1 := by
  rw [Lib.decDigits_one h]; exact n0_len _
theorem n0_ten {n : Nat} (h : 1 ≤ n) : n0 (Lib.decDigits (n * 10)) = n0 (Lib.decDigits n) + 1 := by
  rw [Lib.decDigits.eq_1 (n * 10), dif_neg (by omega), n0_app]
  have e1 : n * 10 / 10 = n := by omega
  have e2 : n * 10 % 10 = 0 := by omega
  rw [e1, e2]; rfl
theorem n0_big : n0 (Lib.decDigits 1000000000000) = 12 := by
  have e : (1000000000000 : Nat) = 1 * 10 * 10 * 10 * 10 * 10 * 10 * 10 * 10 * 10 * 10 * 10 * 10 := by decide
  rw [e, n0_ten (by decide), n0_ten (by decide), n0_ten (by decide), n0_ten (by decide), n0_ten (by decide), n0_ten (by decide), n0_ten (by decide), n0_ten (by decide), n0_ten (by decide), n0_ten (by decide), n0_ten (by decide), n0_ten (by decide), n0_small (by decide) (by decide)]
/-- Ops as the laws draw them. -/
def DrawnOp (d : OpD) : Prop := d.leg.size ≤ 8 ∧ (0 ≤ d.cls ∧ d.cls ≤ 2) ∧ (-1 ≤ d.st ∧ d.st ≤ 5) ∧ (-1 ≤ d.sh ∧ d.sh ≤ 500)
theorem n0_opB {d : OpD} (h : OpGood d) (hd : DrawnOp d) : n0 (opB d).data.toList ≤ 3 := by
  obtain ⟨h1, h2, h3, h4, h5⟩ := h
  obtain ⟨-, d2, d3, d4⟩ := hd
  rw [opB_list, n0_app, n0_cons, n0_app, n0_cons, n0_app, n0_cons, if_neg (by decide), n0_none (name_no' h1 (by decide))]
  have a1 : n0 (Lib.itoa d.cls) ≤ 1 := by rw [Lib.itoa, if_neg (by omega)]; exact n0_one (by omega)
  have a2 : n0 (Lib.itoa d.st) = 0 := by
    rw [Lib.itoa]
    split
    · rw [n0_cons, if_neg (by decide), n0_small (by omega) (by omega)]
    · rw [n0_small (by omega) (by omega)]
  have a3 : n0 (Lib.itoa d.sh) ≤ 2 := by rw [Lib.itoa, if_neg (by omega)]; exact n0_digs (by omega)
  omega
theorem n0_opsB {ds : Nat → OpD} : ∀ n, (∀ i, i < n → OpGood (ds i) ∧ DrawnOp (ds i)) → n0 (opsB ds n).data.toList ≤ 3 * n
  | 0, _ => Nat.le_refl _
  | 1, h => n0_opB (h 0 (by omega)).1 (h 0 (by omega)).2
  | n + 2, h => by
    have a := n0_opsB (n + 1) (fun i hi => h i (by omega))
    have b := n0_opB (h (n + 1) (by omega)).1 (h (n + 1) (by omega)).2
    rw [opsB]
    have e : (opsB ds (n + 1) ++ ⟨#[44]⟩ ++ opB (ds (n + 1))).data.toList = (opsB ds (n + 1)).data.toList ++ (44 :: (opB (ds (n + 1))).data.toList) := by simp
    rw [e, n0_app, n0_cons, if_neg (by decide)]
    omega
theorem n0_ge {ds : Nat → OpD} : ∀ n i, i < n → n0 (opB (ds i)).data.toList ≤ n0 (opsB ds n).data.toList
  | 0, i, h => by omega
  | 1, i, h => by
    obtain rfl : i = 0 := by omega
    exact Nat.le_refl _
  | n + 2, i, h => by
    have e : (opsB ds (n + 2)).data.toList = (opsB ds (n + 1)).data.toList ++ (44 :: (opB (ds (n + 1))).data.toList) := by rw [opsB]; simp
    rw [e, n0_app, n0_cons, if_neg (by decide)]
    rcases Nat.lt_or_ge i (n + 1) with q | q
    · have := n0_ge (ds := ds) (n + 1) i q; omega
    · obtain rfl : i = n + 1 := by omega
      omega
/-- A text with few noughts that the program reads is read by the model, too. -/
theorem isM_few {s : ByteArray} (h : n0 s.data.toList ≤ 11) (ht : IsOpsT s) : IsOpsM s := by
  obtain ⟨n, ds, hg, e⟩ := ht
  refine ⟨n, ds, hg, e, fun i hi => ?_⟩
  have h5 := (hg.2 i hi).1.2.2.2.2
  rcases Int.lt_or_le (ds i).sh 1000000000000 with q | q
  · exact q
  · have e1 : (ds i).sh = 1000000000000 := by omega
    have a := n0_ge (ds := ds) n i hi
    rw [e] at a
    have b : 12 ≤ n0 (opB (ds i)).data.toList := by
      rw [opB_list, n0_app, n0_cons, n0_app, n0_cons, n0_app, n0_cons, e1]
      have : Lib.itoa 1000000000000 = Lib.decDigits 1000000000000 := by rw [Lib.itoa, if_neg (by decide)]; rfl
      rw [this, n0_big]
      omega
    omega
end Go.Proofs.YtlfmhhdlandcjaaDoor
