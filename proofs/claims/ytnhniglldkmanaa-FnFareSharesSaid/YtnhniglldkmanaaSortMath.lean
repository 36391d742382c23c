/-
  The order in which cents that are left over are handed out: plain facts on the insertion sort of the places 0, 1, 2, ..
-/
import Derived.Test.YtnhniglldkmanaaRows
import Derived.Sort.LotA
namespace Go.Proofs.Ytnhniglldkmanaa
open Go.Sort
set_option linter.unusedVariables false

section
variable {m : Nat} (L : Fin (m + 1) → Int)

def ltS (x y : Fin (m + 1)) : Bool := decide (L y < L x)
def ltT (x y : Fin (m + 1)) : Bool := decide (L y < L x ∨ (L y = L x ∧ x.val < y.val))
theorem swoT : SWO (ltT L) where
  irrefl x := by simp [ltT]
  trans x y z h1 h2 := by simp only [ltT, decide_eq_true_eq] at *; omega
  ntrans x y z h1 h2 := by simp only [ltT, decide_eq_false_iff_not] at *; omega

/-- Places up to i hold values up to i, those behind it their own. -/
def Up (i : Nat) (d : Array (Fin (m + 1))) : Prop := d.size = m + 1 ∧ (∀ k, k < i → (d[k]!).val < i) ∧ ∀ k, i ≤ k → k < m + 1 → (d[k]!).val = k

theorem inner_same (i : Nat) (hi : i < m + 1) : ∀ (j : Nat) (d : Array (Fin (m + 1))), j ≤ i → d.size = m + 1 → (d[j]!).val = i → (∀ k, k < i + 1 → k ≠ j → (d[k]!).val < i) → (∀ k, i + 1 ≤ k → k < m + 1 → (d[k]!).val = k) →
    insInner (ltS L) 0 j d = insInner (ltT L) 0 j d ∧ Up (i + 1) (insInner (ltT L) 0 j d)
  | 0, d, hj, hs, hv, hl, hr => by
    refine ⟨rfl, hs, fun k hk => ?_, hr⟩
    show (d[k]!).val < i + 1
    by_cases e : k = 0
    · rw [e, hv]; omega
    · have := hl k hk e; omega
  | j + 1, d, hj, hs, hv, hl, hr => by
    have h1 : (d[j]!).val < (d[j + 1]!).val := by rw [hv]; exact hl j (by omega) (by omega)
    have e : ltS L d[j + 1]! d[j]! = ltT L d[j + 1]! d[j]! := by
      simp only [ltS, ltT]
      congr 1
      apply propext
      constructor
      · intro h; exact Or.inl h
      · rintro (h | ⟨-, h⟩)
        · exact h
        · omega
    simp only [insInner]
    rw [e]
    by_cases c : (decide (j + 1 > 0) && ltT L d[j + 1]! d[j]!) = true
    · rw [if_pos c, if_pos c]
      have g := swp_get d (i := j + 1) (j := j) (by omega) (by omega)
      refine inner_same i hi j (swp d (j + 1) j) (by omega) (by rw [swp_size]; exact hs) ?_ ?_ ?_
      · rw [g, if_pos rfl, hv]
      · intro k hk hne
        rw [g, if_neg hne]
        by_cases e2 : k = j + 1
        · rw [if_pos e2]; exact hl j (by omega) (by omega)
        · rw [if_neg e2]; exact hl k hk e2
      · intro k hk hk2
        rw [g, if_neg (by omega), if_neg (by omega)]
        exact hr k hk hk2
    · rw [if_neg c, if_neg c]
      refine ⟨rfl, hs, fun k hk => ?_, hr⟩
      by_cases e2 : k = j + 1
      · rw [e2, hv]; omega
      · have := hl k hk e2; omega

theorem outer_same : ∀ (r i : Nat) (d : Array (Fin (m + 1))), i + r = m + 1 → Up i d → insOuter (ltS L) 0 (m + 1) i d = insOuter (ltT L) 0 (m + 1) i d
  | 0, i, d, hr, hu => by
    have a1 : insOuter (ltS L) 0 (m + 1) i d = d := by rw [insOuter, if_neg (by omega)]
    have a2 : insOuter (ltT L) 0 (m + 1) i d = d := by rw [insOuter, if_neg (by omega)]
    rw [a1, a2]
  | r + 1, i, d, hr, hu => by
    obtain ⟨h1, h2, h3⟩ := hu
    obtain ⟨e, u⟩ := inner_same L i (by omega) i d (Nat.le_refl _) h1 (h3 i (Nat.le_refl _) (by omega)) (fun k hk hne => h2 k (by omega)) (fun k hk hk2 => h3 k (by omega) hk2)
    have a1 : insOuter (ltS L) 0 (m + 1) i d = insOuter (ltS L) 0 (m + 1) (i + 1) (insInner (ltS L) 0 i d) := by rw [insOuter, if_pos (by omega)]
    have a2 : insOuter (ltT L) 0 (m + 1) i d = insOuter (ltT L) 0 (m + 1) (i + 1) (insInner (ltT L) 0 i d) := by rw [insOuter, if_pos (by omega)]
    rw [a1, a2, e]
    exact outer_same r (i + 1) _ (by omega) u

theorem extract_all {α : Type} (a : Array α) (n : Nat) (h : a.size = n) : a.extract 0 n = a := by subst h; simp
def places : Array (Fin (m + 1)) := Array.ofFn fun i => i
theorem places_at (k : Nat) (hk : k < m + 1) : ((places (m := m))[k]!).val = k := by
  simp [places, hk]
theorem places_get (k : Nat) (hk : k < m + 1) : (places (m := m)).toList[k]? = some ⟨k, hk⟩ := by
  rw [Array.getElem?_toList]
  unfold places
  rw [Array.getElem?_ofFn, dif_pos hk]
def order : Array (Fin (m + 1)) := insertionSort (ltS L) places 0 (m + 1)
theorem order_is : order L = insertionSort (ltT L) places 0 (m + 1) := by
  unfold order insertionSort
  refine outer_same L m 1 places (by omega) ⟨by simp [places], fun k hk => ?_, fun k _ hk => places_at k hk⟩
  rw [places_at k (by omega)]; omega

/-- What is told of the order: all places, each once, that of which more is left first, of equal ones the lower one. -/
structure InOrder (n : Nat) (l : Nat → Int) (R : Nat → Nat) : Prop where
  lt : ∀ i, i < n → R i < n
  onto : ∀ j, j < n → ∃ i, i < n ∧ R i = j
  asc : ∀ i j, i < j → j < n → l (R j) < l (R i) ∨ (l (R j) = l (R i) ∧ R i < R j)

theorem order_ok : InOrder (m + 1) (fun k => if h : k < m + 1 then L ⟨k, h⟩ else 0) (fun i => ((order L)[i]!).val) := by
  have hp : (places (m := m)).size = m + 1 := by simp [places]
  obtain ⟨hperm, hs⟩ := insertionSort_holds (swoT L) places 0 (m + 1) (Nat.zero_le _) (by omega)
  rw [← order_is] at hperm hs
  obtain ⟨hsz, -, hl⟩ := hperm
  have hsz' : (order L).size = m + 1 := by omega
  have e1 := extract_all (order L) (m + 1) hsz'
  have e2 := extract_all (places (m := m)) (m + 1) hp
  rw [e1, e2] at hl
  have lL : ∀ x : Fin (m + 1), (if h : x.val < m + 1 then L ⟨x.val, h⟩ else 0) = L x := fun x => by simp
  have inj : ∀ i j, i < j → j < m + 1 → (order L)[i]! ≠ (order L)[j]! := by
    have hn : (order L).toList.Nodup := hl.nodup_iff.2 (List.pairwise_iff_getElem.2 fun i j hi hj hij h => by
      have li : i < m + 1 := by rw [Array.length_toList, hp] at hi; exact hi
      have lj : j < m + 1 := by rw [Array.length_toList, hp] at hj; exact hj
      have g1 := places_get (m := m) i li
      have g2 := places_get (m := m) j lj
      rw [List.getElem?_eq_getElem hi] at g1
      rw [List.getElem?_eq_getElem hj] at g2
      rw [h] at g1
      have := congrArg Fin.val (Option.some.inj (g1.symm.trans g2))
      simp at this
      omega)
    intro i j hij hj e
    have h1 : (order L).toList[i]? = (order L).toList[j]? := by
      have a1 : i < (order L).size := by omega
      have a2 : j < (order L).size := by omega
      simp [a1, a2] at e ⊢
      exact e
    have a1 : i < (order L).toList.length := by simp; omega
    have := (List.getElem?_inj a1 hn).1 h1
    omega
  refine ⟨fun i hi => (order L)[i]!.isLt, fun j hj => ?_, fun i j hij hj => ?_⟩
  · have hm : (⟨j, hj⟩ : Fin (m + 1)) ∈ (order L).toList := hl.mem_iff.2 (List.mem_of_getElem? (i := j) (places_get j hj))
    obtain ⟨i, hi, he⟩ := List.getElem_of_mem hm
    have hi2 : i < (order L).size := by simpa using hi
    refine ⟨i, by omega, ?_⟩
    have : (order L)[i]! = ⟨j, hj⟩ := by simp [hi2]; simpa using he
    rw [this]
  · have h := hs i j (Nat.zero_le _) hij hj
    have hne := inj i j hij hj
    simp only [ltT, decide_eq_false_iff_not] at h
    simp only [lL]
    have : ((order L)[i]!).val ≠ ((order L)[j]!).val := fun e => hne (Fin.ext e)
    omega
end
end Go.Proofs.Ytnhniglldkmanaa
