/-
  What is held of a leg as the program's linked list has it: asked, put in, taken out.
-/
import Derived.Test.YtbnjmdeabhikkaaLink
namespace Go.Proofs.Ytbnjmdeabhikkaa
open Go.RowKit
set_option linter.unusedVariables false
set_option linter.unusedSimpArgs false

theorem AtPos.one {L : List Nd} {t : Int} {k j : Nat} (h : AtPos L t k) (g : AtPos L t j) : k = j := by
  rcases Nat.lt_trichotomy k j with hlt | rfl | hlt
  · have e := List.getElem?_eq_getElem (l := L) (i := k) (by have := g.1; omega)
    have := h.2.2 _ e
    have := g.2.1 k _ hlt e
    omega
  · rfl
  · have e := List.getElem?_eq_getElem (l := L) (i := j) (by have := h.1; omega)
    have := g.2.2 _ e
    have := h.2.1 j _ hlt e
    omega
/-- Whether something is held for a transaction. -/
def Has (L : List Nd) (txn : Int) : Prop := ∃ (k : Nat) (n : Nd), AtPos L txn k ∧ L[k]? = some n ∧ n.t = txn

set_option maxHeartbeats 4000000 in
theorem hasI (B h : Nat) (L : List Nd) (txn : Int) (w : World) (H : HList B w h L) :
    Calls Try.prog 44 #[.pointer (some ⟨h, 0, none⟩), .int .i64 txn] w fun e w' => ∃ k b, AtPos L txn k ∧ e = .returned (.bool b) ∧ Hid (b = true ↔ ∃ n, L[k]? = some n ∧ n.t = txn) ∧ w = w' := by
  have HH := Lib.hid H
  clear H
  go_enter Try.func44, Try.ntmps44
  go_wp2_with fail
  refine (atI B h L txn w HH.out).mono ?_
  rintro e w' ⟨⟨k, hpos, rfl⟩, rfl⟩
  obtain ⟨cA, -⟩ := HH.out.slot k hpos.1
  have HP := Lib.hid hpos
  clear hpos
  cases hx : L[k]? with
  | none =>
    have hno : Hid (¬ ∃ n, L[k]? = some n ∧ n.t = txn) := fun ⟨n, h2, h3⟩ => by rw [hx] at h2; cases h2
    rw [show ptrAt L k = .pointer none from by unfold ptrAt; rw [hx]; rfl] at cA
    clear hx
    generalize slotA h L k = A at *
    go_wp2
    go_ret
    exact ⟨k, false, HP.out, rfl, ⟨fun h => (by cases h), fun h => absurd h hno.out⟩, rfl⟩
  | some n =>
    obtain ⟨c0, -, -, -⟩ := HH.out.cells hx
    rw [show ptrAt L k = .pointer (some ⟨n.b, 0, none⟩) from by unfold ptrAt; rw [hx]; rfl] at cA
    have HX := Lib.hid hx
    clear hx
    generalize slotA h L k = A at *
    by_cases ht : n.t = txn
    · have hyes : Hid (∃ n, L[k]? = some n ∧ n.t = txn) := ⟨n, HX.out, ht⟩
      have z0 : (n.t == txn) = true := by simpa using ht
      have HT := Lib.hid ht
      clear ht
      go_wp2
      go_ret
      exact ⟨k, true, HP.out, (by rw [HT.out]; simp), ⟨fun _ => hyes.out, fun _ => rfl⟩, rfl⟩
    · have hno : Hid (¬ ∃ n, L[k]? = some n ∧ n.t = txn) := fun ⟨m, h2, h3⟩ => by rw [HX.out] at h2; cases h2; exact ht h3
      have z0 : (n.t == txn) = false := by simpa using ht
      have HT := Lib.hid ht
      clear ht
      go_wp2
      go_ret
      exact ⟨k, false, HP.out, (by simp [HT.out]), ⟨fun h => (by cases h), fun h => absurd h hno.out⟩, rfl⟩

theorem set_same {w : World} {b i : Nat} {cs : Array Value} {t : TypeId} (h : w.heap[b]? = some (.cells cs t (0, 0))) (v : Value) : (w.setCell ⟨b, i, none⟩ v).heap[b]? = some (.cells (cs.setIfInBounds i v) t (0, 0)) := by
  simp [World.setCell, Array.getElem?_modify, h]
theorem set_other {w : World} {b b' i : Nat} (v : Value) (h : b ≠ b') : (w.setCell ⟨b', i, none⟩ v).heap[b]? = w.heap[b]? := Below.heap_setCell _ _ _ _ h
theorem slotA_low {B h k : Nat} {L : List Nd} {w : World} (H : HList B w h L) : B ≤ (slotA h L k).block := by
  cases k with
  | zero => exact H.low
  | succ k =>
    cases e : L[k]? with
    | none => simp only [slotA, e]; exact H.low
    | some n => simp only [slotA, e]; exact H.lows k n e
theorem slotA_lt {B h k : Nat} {L : List Nd} {w : World} (H : HList B w h L) : (slotA h L k).block < w.heap.size := by
  cases k with
  | zero => exact lt_heap H.head
  | succ k =>
    cases e : L[k]? with
    | none => simp only [slotA, e]; exact lt_heap H.head
    | some n => simp only [slotA, e]; exact lt_heap (H.node k n e)
theorem slotA_spot (h : Nat) (L : List Nd) (k : Nat) : ∃ b i, slotA h L k = ⟨b, i, none⟩ := by
  cases k with
  | zero => exact ⟨_, _, rfl⟩
  | succ k =>
    cases e : L[k]? with
    | none => exact ⟨h, 0, by simp only [slotA, e]⟩
    | some n => exact ⟨n.b, 3, by simp only [slotA, e]⟩

theorem HList.ins {B h k : Nat} {L : List Nd} {w : World} (H : HList B w h L) (hB : B ≤ w.heap.size) (hk : k ≤ L.length) (nd : Nd) (hnd : nd.b = w.heap.size) :
    HList B ((w.alloc (.cells (NdC nd (ptrAt L k)) 81)).setCell (slotA h L k) (.pointer (some ⟨nd.b, 0, none⟩))) h (L.insertIdx k nd) := by
  have gi : ∀ j, (L.insertIdx k nd)[j]? = if j < k then L[j]? else if j = k then some nd else L[j - 1]? := by
    intro j
    rw [List.getElem?_insertIdx]
    by_cases h1 : j < k
    · simp [h1]
    · by_cases h2 : j = k
      · subst h2; simp [hk]
      · simp [h1, h2]
  have hal : ∀ b, b < w.heap.size → (w.alloc (.cells (NdC nd (ptrAt L k)) 81)).heap[b]? = w.heap[b]? := fun b hb => ((Below.refl w.heap.size w).alloc (Nat.le_refl _) _).block b hb
  have hnew : (w.alloc (.cells (NdC nd (ptrAt L k)) 81)).heap[nd.b]? = some (.cells (NdC nd (ptrAt L k)) 81 (0, 0)) := by rw [hnd]; exact heap_alloc_new w _
  have hs0 := slotA_lt (k := k) H
  refine ⟨H.low, ?_, ?_, ?_, ?_, ?_⟩
  · intro j n hj
    rw [gi] at hj
    split at hj
    · exact H.lows _ _ hj
    · split at hj
      · cases hj; omega
      · exact H.lows _ _ hj
  · cases k with
    | zero =>
      have : ptrAt (L.insertIdx 0 nd) 0 = .pointer (some ⟨nd.b, 0, none⟩) := by unfold ptrAt; rw [gi]; rfl
      rw [this, show slotA h L 0 = ⟨h, 0, none⟩ from rfl, set_same ((hal h (lt_heap H.head)).trans H.head)]
      rfl
    | succ k =>
      have e0 : ptrAt (L.insertIdx (k + 1) nd) 0 = ptrAt L 0 := by unfold ptrAt; rw [gi, if_pos (by omega)]
      have e := List.getElem?_eq_getElem (l := L) (i := k) (by omega)
      rw [e0, slotA_next e, set_other _ (fun q => H.far _ _ e q.symm), hal _ (lt_heap H.head), H.head]
  · intro j m hj
    rw [gi] at hj
    have nx : ptrAt (L.insertIdx k nd) (j + 1) = ptrO (if j + 1 < k then L[j + 1]? else if j + 1 = k then some nd else L[j]?) := by unfold ptrAt; rw [gi]; rfl
    rw [nx]
    split at hj
    · rename_i hjk
      have hm := H.node j m hj
      by_cases h1 : j + 1 = k
      · subst h1
        rw [if_neg (by omega), if_pos rfl, slotA_next hj, set_same ((hal _ (lt_heap hm)).trans hm)]
        rfl
      · rw [if_pos (by omega)]
        have hne : m.b ≠ (slotA h L k).block := by
          obtain ⟨i, rfl⟩ : ∃ i, k = i + 1 := ⟨k - 1, by omega⟩
          have e := List.getElem?_eq_getElem (l := L) (i := i) (by omega)
          rw [slotA_next e]
          intro q
          have := H.one _ _ _ _ hj e q
          omega
        obtain ⟨b, i, hs⟩ := slotA_spot h L k
        rw [hs] at hne ⊢
        rw [set_other _ hne, hal _ (lt_heap hm), hm]
        rfl
    · split at hj
      · cases hj
        rename_i h1 h2
        subst h2
        rw [if_neg (by omega), if_neg (by omega)]
        have hne : nd.b ≠ (slotA h L j).block := by omega
        obtain ⟨b, i, hs⟩ := slotA_spot h L j
        rw [hs] at hne ⊢
        rw [set_other _ hne]
        exact hnew
      · rename_i h1 h2
        have hm := H.node (j - 1) m hj
        rw [if_neg (by omega), if_neg (by omega)]
        rw [show j - 1 + 1 = j from by omega] at hm
        have hne : m.b ≠ (slotA h L k).block := by
          cases k with
          | zero => exact H.far _ _ hj
          | succ i =>
            have e := List.getElem?_eq_getElem (l := L) (i := i) (by omega)
            rw [slotA_next e]
            intro q
            have := H.one _ _ _ _ hj e q
            omega
        obtain ⟨b, i, hs⟩ := slotA_spot h L k
        rw [hs] at hne ⊢
        rw [set_other _ hne, hal _ (lt_heap hm), hm]
        rfl
  · intro j m hj
    rw [gi] at hj
    split at hj
    · exact H.far _ _ hj
    · split at hj
      · cases hj
        have := lt_heap H.head
        omega
      · exact H.far _ _ hj
  · intro i j m n hi hj hb
    rw [gi] at hi hj
    have hlt : ∀ (q : Nat) (x : Nd), L[q]? = some x → x.b < w.heap.size := fun q x hq => lt_heap (H.node q x hq)
    split at hi
    · split at hj
      · exact H.one _ _ _ _ hi hj hb
      · split at hj
        · cases hj; have := hlt _ _ hi; omega
        · have := H.one _ _ _ _ hi hj hb; omega
    · split at hi
      · cases hi
        split at hj
        · have := hlt _ _ hj; omega
        · split at hj
          · omega
          · have := hlt _ _ hj; omega
      · split at hj
        · have := H.one _ _ _ _ hi hj hb; omega
        · split at hj
          · cases hj; have := hlt _ _ hi; omega
          · have := H.one _ _ _ _ hi hj hb; omega

theorem HList.del {B h k : Nat} {L : List Nd} {w : World} {nd : Nd} (H : HList B w h L) (hk : L[k]? = some nd) :
    HList B (w.setCell (slotA h L k) (ptrAt L (k + 1))) h (L.eraseIdx k) := by
  have gi : ∀ j, (L.eraseIdx k)[j]? = if j < k then L[j]? else L[j + 1]? := fun j => List.getElem?_eraseIdx
  have hlk : k < L.length := by
    rcases Nat.lt_or_ge k L.length with h1 | h1
    · exact h1
    · rw [List.getElem?_eq_none h1] at hk; cases hk
  refine ⟨H.low, ?_, ?_, ?_, ?_, ?_⟩
  · intro j n hj
    rw [gi] at hj
    split at hj <;> exact H.lows _ _ hj
  · cases k with
    | zero =>
      have : ptrAt (L.eraseIdx 0) 0 = ptrAt L 1 := by unfold ptrAt; rw [gi]; rfl
      rw [this, show slotA h L 0 = ⟨h, 0, none⟩ from rfl, set_same H.head]
      rfl
    | succ k =>
      have e0 : ptrAt (L.eraseIdx (k + 1)) 0 = ptrAt L 0 := by unfold ptrAt; rw [gi, if_pos (by omega)]
      have e := List.getElem?_eq_getElem (l := L) (i := k) (by omega)
      rw [e0, slotA_next e, set_other _ (fun q => H.far _ _ e q.symm), H.head]
  · intro j m hj
    rw [gi] at hj
    have nx : ptrAt (L.eraseIdx k) (j + 1) = ptrO (if j + 1 < k then L[j + 1]? else L[j + 2]?) := by unfold ptrAt; rw [gi]
    rw [nx]
    split at hj
    · rename_i hjk
      have hm := H.node j m hj
      by_cases h1 : j + 1 = k
      · subst h1
        rw [if_neg (by omega), slotA_next hj, set_same hm]
        rfl
      · rw [if_pos (by omega)]
        have hne : m.b ≠ (slotA h L k).block := by
          obtain ⟨i, rfl⟩ : ∃ i, k = i + 1 := ⟨k - 1, by omega⟩
          have e := List.getElem?_eq_getElem (l := L) (i := i) (by omega)
          rw [slotA_next e]
          intro q
          have := H.one _ _ _ _ hj e q
          omega
        obtain ⟨b, i, hs⟩ := slotA_spot h L k
        rw [hs] at hne ⊢
        rw [set_other _ hne, hm]
        rfl
    · rename_i h1
      have hm := H.node (j + 1) m hj
      rw [if_neg (by omega)]
      have hne : m.b ≠ (slotA h L k).block := by
        cases k with
        | zero => exact H.far _ _ hj
        | succ i =>
          have e := List.getElem?_eq_getElem (l := L) (i := i) (by omega)
          rw [slotA_next e]
          intro q
          have := H.one _ _ _ _ hj e q
          omega
      obtain ⟨b, i, hs⟩ := slotA_spot h L k
      rw [hs] at hne ⊢
      rw [set_other _ hne, hm]
      rfl
  · intro j m hj
    rw [gi] at hj
    split at hj <;> exact H.far _ _ hj
  · intro i j m n hi hj hb
    rw [gi] at hi hj
    split at hi <;> split at hj <;> (have := H.one _ _ _ _ hi hj hb; omega)
end Go.Proofs.Ytbnjmdeabhikkaa
