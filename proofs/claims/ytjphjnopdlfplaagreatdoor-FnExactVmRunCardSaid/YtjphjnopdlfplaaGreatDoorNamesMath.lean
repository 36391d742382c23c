/-
  Names of a rule: put in order one by one, or sorted and left once; the same list.
-/
import Derived.Test.YtjphjnopdlfplaaGreatDoorRuleMath
import Derived.Lib.SlicesCompact
namespace Go.Proofs.YtjphjnopdlfplaaGreatDoor
open Go.RowKit
set_option linter.unusedVariables false
set_option linter.unusedSimpArgs false

/-- A word put into words in order, once. -/
def putU : List (List UInt8) → List UInt8 → List (List UInt8)
  | [], s => [s]
  | x :: r, s => if x < s then x :: putU r s else if x = s then x :: r else s :: x :: r
def Asc (l : List (List UInt8)) : Prop := l.Pairwise (· < ·)
theorem lt_trans' {a b c : List UInt8} (h : a < b) (k : b < c) : a < c := List.lt_trans h k
theorem lt_irr (a : List UInt8) : ¬ a < a := List.lt_irrefl a
theorem lt_or {a b : List UInt8} (h : ¬ a < b) (k : a ≠ b) : b < a := by
  have h1 : b ≤ a := List.not_lt.1 h
  rcases Classical.em (b < a) with c | c
  · exact c
  · exact absurd (List.le_antisymm (List.not_lt.1 c) h1) k
theorem lt_of_le_ne {a b : List UInt8} (h : a ≤ b) (k : a ≠ b) : a < b := lt_or (List.not_lt.2 h) (fun e => k e.symm)
theorem putU_mem {l : List (List UInt8)} {s x : List UInt8} : x ∈ putU l s ↔ x ∈ l ∨ x = s := by
  induction l with
  | nil => simp [putU]
  | cons y r ih =>
    rw [putU]
    split
    · rw [List.mem_cons, ih, List.mem_cons]
      exact or_assoc.symm
    · split
      · rename_i h
        subst h
        constructor
        · exact Or.inl
        · rintro (h | h)
          · exact h
          · rw [h]; exact List.mem_cons_self
      · rw [List.mem_cons]
        exact or_comm
theorem putU_asc {l : List (List UInt8)} {s : List UInt8} (h : Asc l) : Asc (putU l s) := by
  induction l with
  | nil => simp [putU, Asc]
  | cons y r ih =>
    have h0 := List.pairwise_cons.1 h
    rw [putU]
    split
    · rename_i c
      refine List.pairwise_cons.2 ⟨fun x hx => ?_, ih h0.2⟩
      rcases putU_mem.1 hx with k | k
      · exact h0.1 x k
      · rw [k]; exact c
    · split
      · exact h
      · rename_i c d
        refine List.pairwise_cons.2 ⟨fun x hx => ?_, h⟩
        have c' := lt_or c d
        rcases List.mem_cons.1 hx with k | k
        · rw [k]; exact c'
        · exact lt_trans' c' (h0.1 x k)
def putsU (l ns : List (List UInt8)) : List (List UInt8) := ns.foldl putU l
theorem putsU_mem : ∀ (ns l : List (List UInt8)) (x : List UInt8), x ∈ putsU l ns ↔ x ∈ l ∨ x ∈ ns
  | [], l, x => by simp [putsU]
  | n :: r, l, x => by
    have := putsU_mem r (putU l n) x
    unfold putsU at this ⊢
    rw [List.foldl_cons, this, putU_mem, List.mem_cons, or_assoc]
theorem putsU_asc : ∀ (ns l : List (List UInt8)), Asc l → Asc (putsU l ns)
  | [], l, h => h
  | n :: r, l, h => putsU_asc r (putU l n) (putU_asc h)
theorem putU_len (l : List (List UInt8)) (s : List UInt8) : (putU l s).length ≤ l.length + 1 := by
  induction l with
  | nil => simp [putU]
  | cons y r ih =>
    rw [putU]
    split
    · simp only [List.length_cons]; omega
    · split <;> simp only [List.length_cons] <;> omega
theorem putsU_len : ∀ (ns l : List (List UInt8)), (putsU l ns).length ≤ l.length + ns.length
  | [], l => by simp [putsU]
  | n :: r, l => by
    have := putsU_len r (putU l n)
    have h2 := putU_len l n
    show (putsU (putU l n) r).length ≤ _
    simp only [List.length_cons]; omega
/-- Two lists that ascend and have the same members are the same. -/
theorem asc_eq : ∀ (a b : List (List UInt8)), Asc a → Asc b → (∀ x, x ∈ a ↔ x ∈ b) → a = b
  | [], [], _, _, _ => rfl
  | [], y :: s, _, _, h => absurd ((h y).2 List.mem_cons_self) (by simp)
  | x :: r, [], _, _, h => absurd ((h x).1 List.mem_cons_self) (by simp)
  | x :: r, y :: s, ha, hb, h => by
    have a0 := List.pairwise_cons.1 ha
    have b0 := List.pairwise_cons.1 hb
    have e : x = y := by
      rcases List.mem_cons.1 ((h x).1 List.mem_cons_self) with k | k
      · exact k
      · rcases List.mem_cons.1 ((h y).2 List.mem_cons_self) with l | l
        · exact l.symm
        · exact absurd (lt_trans' (b0.1 x k) (a0.1 y l)) (lt_irr y)
    subst e
    have : r = s := asc_eq r s a0.2 b0.2 fun z => by
      constructor
      · intro k
        rcases List.mem_cons.1 ((h z).1 (List.mem_cons_of_mem _ k)) with l | l
        · exact absurd (a0.1 z k) (by rw [l]; exact lt_irr x)
        · exact l
      · intro k
        rcases List.mem_cons.1 ((h z).2 (List.mem_cons_of_mem _ k)) with l | l
        · exact absurd (b0.1 z k) (by rw [l]; exact lt_irr x)
        · exact l
    rw [this]
theorem compactUpTo_asc (zs : List (List UInt8)) (hs : zs.Pairwise (· ≤ ·)) : ∀ m, m ≤ zs.length → Asc (Lib.compactUpTo zs.toArray m) ∧ (∀ x, x ∈ Lib.compactUpTo zs.toArray m ↔ x ∈ zs.take m)
  | 0, _ => by simp [Lib.compactUpTo, Asc]
  | m + 1, hm => by
    obtain ⟨h1, h2⟩ := compactUpTo_asc zs hs m (by omega)
    have hg : zs.toArray[m]! = zs[m] := by simp [getElem!_pos, show m < zs.length by omega]
    have ht : zs.take (m + 1) = zs.take m ++ [zs[m]] := List.take_succ_eq_append_getElem (by omega)
    rw [Lib.compactUpTo_succ, hg, ht]
    by_cases hk : Lib.keeps zs.toArray m = true
    · rw [if_pos hk]
      refine ⟨List.pairwise_append.2 ⟨h1, List.pairwise_singleton _ _, fun a ha b hb => ?_⟩, fun x => ?_⟩
      · rw [List.mem_singleton] at hb
        subst hb
        obtain ⟨i, hi, e⟩ := List.mem_take_iff_getElem.1 ((h2 a).1 ha)
        have hm0 : m ≠ 0 := by omega
        have hd : zs.toArray[m]! ≠ zs.toArray[m - 1]! := by
          have := of_decide_eq_true hk
          exact this.resolve_left hm0
        rw [hg, show zs.toArray[m - 1]! = zs[m - 1] by simp [getElem!_pos, show m - 1 < zs.length by omega]] at hd
        have l1 : a ≤ zs[m - 1] := by
          rw [← e]
          by_cases hc : i = m - 1
          · subst hc; exact List.le_refl _
          · exact List.pairwise_iff_getElem.1 hs i (m - 1) (by omega) (by omega) (by omega)
        have l2 : zs[m - 1] < zs[m] := lt_of_le_ne (List.pairwise_iff_getElem.1 hs (m - 1) m (by omega) (by omega) (by omega)) (fun e => hd e.symm)
        rcases Classical.em (a = zs[m - 1]) with c | c
        · rw [c]; exact l2
        · exact lt_trans' (lt_of_le_ne l1 c) l2
      · rw [List.mem_append, List.mem_append, h2]
    · rw [if_neg hk, List.append_nil]
      refine ⟨h1, fun x => ?_⟩
      rw [h2, List.mem_append, List.mem_singleton]
      refine ⟨Or.inl, fun h => h.elim id fun e => ?_⟩
      have hk2 : ¬ (m = 0 ∨ zs.toArray[m]! ≠ zs.toArray[m - 1]!) := fun c => hk (by unfold Lib.keeps; exact decide_eq_true c)
      have hm0 : m ≠ 0 := fun c => hk2 (Or.inl c)
      have hd : zs.toArray[m]! = zs.toArray[m - 1]! := Classical.byContradiction fun c => hk2 (Or.inr c)
      rw [hg, show zs.toArray[m - 1]! = zs[m - 1] by simp [getElem!_pos, show m - 1 < zs.length by omega]] at hd
      rw [e, hd]
      exact List.mem_take_iff_getElem.2 ⟨m - 1, by omega, rfl⟩
theorem sorted_le (ns : List (List UInt8)) : (ns.mergeSort fun x y => decide (x ≤ y)).Pairwise (· ≤ ·) := by
  have := List.pairwise_mergeSort (le := fun x y : List UInt8 => decide (x ≤ y)) (fun a b c h1 h2 => by simp only [decide_eq_true_eq] at *; exact List.le_trans h1 h2) (fun a b => by simp only [Bool.or_eq_true, decide_eq_true_eq]; exact List.le_total a b) ns
  exact this.imp fun h => of_decide_eq_true h
/-- What is sorted and left once is what is put one by one. -/
theorem compact_sort (ns : List (List UInt8)) : Lib.compact (ns.mergeSort fun x y => decide (x ≤ y)) = putsU [] ns := by
  have hl : (ns.mergeSort fun x y => decide (x ≤ y)).length = ns.length := List.length_mergeSort ns
  obtain ⟨h1, h2⟩ := compactUpTo_asc _ (sorted_le ns) _ (Nat.le_refl _)
  refine asc_eq _ _ h1 (putsU_asc ns [] List.Pairwise.nil) fun x => ?_
  rw [putsU_mem]
  refine (h2 x).trans ?_
  rw [List.take_length]
  simp
/-- Where the loop stops that looks for a word's place. -/
theorem putU_at : ∀ (l : List (List UInt8)) (s : List UInt8) (k : Nat), k ≤ l.length → (∀ i, (h : i < k) → (h2 : i < l.length) → l[i] < s) → (∀ h : k < l.length, ¬ l[k] < s) →
    putU l s = if ∃ h : k < l.length, l[k] = s then l else l.take k ++ s :: l.drop k
  | [], s, k, hk, _, _ => by
    have : k = 0 := by simpa using hk
    subst this
    simp [putU]
  | x :: r, s, 0, _, _, h => by
    have h0 := h (by simp)
    simp only [List.getElem_cons_zero] at h0
    rw [putU, if_neg h0]
    by_cases c : x = s
    · rw [if_pos c, if_pos ⟨by simp, by simpa using c⟩]
    · rw [if_neg c, if_neg (by rintro ⟨_, h⟩; exact c (by simpa using h))]
      rfl
  | x :: r, s, k + 1, hk, hl, h => by
    have h0 := hl 0 (by omega) (by simp)
    simp only [List.getElem_cons_zero] at h0
    rw [putU, if_pos h0, putU_at r s k (by simpa using hk) (fun i a b => by have := hl (i + 1) (by omega) (by simpa using b); simpa using this) (fun a => by have := h (by simpa using a); simpa using this)]
    by_cases c : ∃ h : k < r.length, r[k] = s
    · rw [if_pos c, if_pos (by obtain ⟨a, b⟩ := c; exact ⟨by simpa using a, by simpa using b⟩)]
    · rw [if_neg c, if_neg (by rintro ⟨a, b⟩; exact c ⟨by simpa using a, by simpa using b⟩)]
      rfl
mutual
/-- The names of a rule, as they stand. -/
def namesT : Tr → List (List UInt8)
  | .node o _ s ks _ => (if o = 2 then [s.data.toList] else []) ++ namesL ks
def namesL : List Tr → List (List UInt8)
  | [] => []
  | t :: r => namesT t ++ namesL r
end
theorem namesL_snoc (ks : List Tr) (t : Tr) : namesL (ks ++ [t]) = namesL ks ++ namesT t := by
  induction ks with
  | nil => simp [namesL]
  | cons x r ih => simp only [List.cons_append, namesL, ih, List.append_assoc]
end Go.Proofs.YtjphjnopdlfplaaGreatDoor
