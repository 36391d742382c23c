/-
  What is held of a leg as the program's linked list has it: in memory; finding a place in it.
  What is held of a leg as the program's linked list has it: asked, put in, taken out.
  What is held of a leg as the program's linked list has it: put in, taken out.
  What is held of a leg as the program's linked list has it: gone over, and collected into a list of its own.
  What is held of a leg, put into a linked list one by one.
-/
import Derived.Test.YtmlkjlipjkmcfaaLegRoom
import Derived.Deep.LoopGhost
import Derived.Sort.LoopGhostIn
import Derived.RangeFuncBox
import Derived.RangeFuncWrites
import Derived.Deep.AppendLies
namespace Go.Proofs.Ytmlkjlipjkmcfaa
open Go.RowKit
set_option linter.unusedVariables false
set_option linter.unusedSimpArgs false

/-- A link: its block, and what is held. -/
structure Nd where
  b : Nat
  t : Int
  c : Int
  s : Int
def ptrO : Option Nd → Value
  | some n => .pointer (some ⟨n.b, 0, none⟩)
  | none => .pointer none
def ptrAt (L : List Nd) (k : Nat) : Value := ptrO L[k]?
def slotA (h : Nat) (L : List Nd) : Nat → Addr
  | 0 => ⟨h, 0, none⟩
  | k + 1 => match L[k]? with
    | some n => ⟨n.b, 3, none⟩
    | none => ⟨h, 0, none⟩
def NdC (n : Nd) (v : Value) : Array Value := #[.int .i64 n.t, .int .i64 n.c, .int .i64 n.s, v]
structure HList (B : Nat) (w : World) (h : Nat) (L : List Nd) : Prop where
  low : B ≤ h
  lows : ∀ (k : Nat) (n : Nd), L[k]? = some n → B ≤ n.b
  head : w.heap[h]? = some (.cells #[ptrAt L 0] 77 (0, 0))
  node : ∀ (k : Nat) (n : Nd), L[k]? = some n → w.heap[n.b]? = some (.cells (NdC n (ptrAt L (k + 1))) 81 (0, 0))
  far : ∀ (k : Nat) (n : Nd), L[k]? = some n → n.b ≠ h
  one : ∀ (i j : Nat) (m n : Nd), L[i]? = some m → L[j]? = some n → m.b = n.b → i = j
theorem HList.kept {B : Nat} {w w' : World} {h : Nat} {L : List Nd} (H : HList B w h L) (hb : Below w.heap.size w w') : HList B w' h L :=
  ⟨H.low, H.lows, (hb.block _ (lt_heap H.head)).trans H.head, fun k n hk => (hb.block _ (lt_heap (H.node k n hk))).trans (H.node k n hk), H.far, H.one⟩
theorem HList.slot {B : Nat} {w : World} {h : Nat} {L : List Nd} (H : HList B w h L) (k : Nat) (hk : k ≤ L.length) : w.cell? (slotA h L k) = some (ptrAt L k) ∧ w.frozen? (slotA h L k) = false := by
  cases k with
  | zero => exact ⟨by rw [show slotA h L 0 = ⟨h, 0, none⟩ from rfl, Lib.cell_of_heap H.head]; rfl, Lib.frozen_of_heap H.head 0⟩
  | succ k =>
    have hlt : k < L.length := hk
    have e := List.getElem?_eq_getElem hlt
    have hs : slotA h L (k + 1) = ⟨L[k].b, 3, none⟩ := by simp [slotA, e]
    rw [hs]
    exact ⟨by rw [Lib.cell_of_heap (H.node k _ e)]; rfl, Lib.frozen_of_heap (H.node k _ e) 3⟩
theorem slotA_next {h k : Nat} {L : List Nd} {n : Nd} (hk : L[k]? = some n) : slotA h L (k + 1) = ⟨n.b, 3, none⟩ := by simp [slotA, hk]
theorem HList.cells {B : Nat} {w : World} {h k : Nat} {L : List Nd} {n : Nd} (H : HList B w h L) (hk : L[k]? = some n) :
    w.cell? ⟨n.b, 0, none⟩ = some (.int .i64 n.t) ∧ w.cell? ⟨n.b, 1, none⟩ = some (.int .i64 n.c) ∧ w.cell? ⟨n.b, 2, none⟩ = some (.int .i64 n.s) ∧ w.cell? ⟨n.b, 3, none⟩ = some (ptrAt L (k + 1)) := by
  have hn := H.node k n hk
  refine ⟨?_, ?_, ?_, ?_⟩ <;> (rw [Lib.cell_of_heap hn]; rfl)
/-- The place of a transaction: all ahead of it have lower ones. -/
def AtPos (L : List Nd) (txn : Int) (k : Nat) : Prop := k ≤ L.length ∧ (∀ (i : Nat) (n : Nd), i < k → L[i]? = some n → n.t < txn) ∧ (∀ n : Nd, L[k]? = some n → txn ≤ n.t)

set_option maxHeartbeats 4000000 in
theorem atI (B h : Nat) (L : List Nd) (txn : Int) (w : World) (H : HList B w h L) :
    Calls Try.prog 75 #[.pointer (some ⟨h, 0, none⟩), .int .i64 txn] w fun e w' => (∃ k, AtPos L txn k ∧ e = .returned (.pointer (some (slotA h L k)))) ∧ w = w' := by
  have HH := Lib.hid H
  clear H
  go_enter Try.func75, Try.ntmps75
  go_wp2_with fail
  go_loopg [5] (L.length) (fun m p wr => ∃ k, m = L.length - k ∧ k ≤ L.length ∧ p = .pointer (some (slotA h L k)) ∧ Hid (∀ (i : Nat) (n : Nd), i < k → L[i]? = some n → n.t < txn) ∧ w = wr)
  case atStart => exact ⟨0, rfl, Nat.zero_le _, rfl, fun i n hi => absurd hi (Nat.not_lt_zero _), rfl⟩
  case round =>
    obtain ⟨k, hm, hk, rfl, hto, rfl⟩ := hrel
    have HM := Lib.hid hm
    clear hm
    obtain ⟨cA, -⟩ := HH.out.slot k hk
    cases hx : L[k]? with
    | none =>
      have hpos : Hid (AtPos L txn k) := ⟨hk, hto.out, fun n hn => by rw [hx] at hn; cases hn⟩
      rw [show ptrAt L k = .pointer none from by unfold ptrAt; rw [hx]; rfl] at cA
      have HX := Lib.hid hx
      clear hx
      obtain ⟨A, hA⟩ : ∃ A, A = slotA h L k := ⟨_, rfl⟩
      have HA := Lib.hid hA
      rw [← hA] at cA ⊢
      clear hA
      go_wp2
      go_ret
      exact ⟨⟨k, hpos.out, by rw [HA.out]; rfl⟩, rfl⟩
    | some n =>
      have hlt : k < L.length := by
        rcases Nat.lt_or_ge k L.length with h1 | h1
        · exact h1
        · rw [List.getElem?_eq_none h1] at hx; cases hx
      obtain ⟨c0, -, -, -⟩ := HH.out.cells hx
      rw [show ptrAt L k = .pointer (some ⟨n.b, 0, none⟩) from by unfold ptrAt; rw [hx]; rfl] at cA
      have hnext := slotA_next (h := h) hx
      have HX := Lib.hid hx
      have HN := Lib.hid hnext
      clear hx hnext
      obtain ⟨A, hA⟩ : ∃ A, A = slotA h L k := ⟨_, rfl⟩
      have HA := Lib.hid hA
      rw [← hA] at cA ⊢
      clear hA
      rcases Int.lt_or_le n.t txn with hlt2 | hge
      · have hnx : Hid (∀ (i : Nat) (m : Nd), i < k + 1 → L[i]? = some m → m.t < txn) := by
          intro i m hi hm
          rcases Nat.lt_or_ge i k with h1 | h1
          · exact hto.out i m h1 hm
          · obtain rfl : i = k := by omega
            rw [HX.out] at hm
            cases hm
            exact hlt2
        go_wp2
        go_roundg (L.length - (k + 1))
        case measure => rw [HM.out]; omega
        case rel => exact ⟨k + 1, rfl, hlt, by rw [HN.out], hnx.out, rfl⟩
      · have hpos : Hid (AtPos L txn k) := ⟨hk, hto.out, fun m hm => by rw [HX.out] at hm; cases hm; exact hge⟩
        go_wp2
        go_ret
        exact ⟨⟨k, hpos.out, by rw [HA.out]; rfl⟩, rfl⟩
end Go.Proofs.Ytmlkjlipjkmcfaa

namespace Go.Proofs.Ytmlkjlipjkmcfaa
open Go.RowKit
set_option linter.unusedVariables false
set_option linter.unusedSimpArgs false

theorem AtPos.one {L : List Nd} {t : Int} {k j : Nat} (h : AtPos L t k) (g : AtPos L t j) : k = j := by
  rcases Nat.lt_trichotomy k j with hlt | rfl | hlt
  · have e := List.getElem?_eq_getElem (l := L) (i := k) (by have := g.1; omega)
    have := h.2.2 _ e
    have := g.2.1 k _ hlt e
    omega
  · rfl
  · have e := List.getElem?_eq_getElem (l := L) (i := j) (by have := h.1; omega)
    have := g.2.2 _ e
    have := h.2.1 j _ hlt e
    omega
/-- Whether something is held for a transaction. -/
def Has (L : List Nd) (txn : Int) : Prop := ∃ (k : Nat) (n : Nd), AtPos L txn k ∧ L[k]? = some n ∧ n.t = txn

set_option maxHeartbeats 4000000 in
theorem hasI (B h : Nat) (L : List Nd) (txn : Int) (w : World) (H : HList B w h L) :
    Calls Try.prog 44 #[.pointer (some ⟨h, 0, none⟩), .int .i64 txn] w fun e w' => ∃ k b, AtPos L txn k ∧ e = .returned (.bool b) ∧ Hid (b = true ↔ ∃ n, L[k]? = some n ∧ n.t = txn) ∧ w = w' := by
  have HH := Lib.hid H
  clear H
  go_enter Try.func44, Try.ntmps44
  go_wp2_with fail
  refine (atI B h L txn w HH.out).mono ?_
  rintro e w' ⟨⟨k, hpos, rfl⟩, rfl⟩
  obtain ⟨cA, -⟩ := HH.out.slot k hpos.1
  have HP := Lib.hid hpos
  clear hpos
  cases hx : L[k]? with
  | none =>
    have hno : Hid (¬ ∃ n, L[k]? = some n ∧ n.t = txn) := fun ⟨n, h2, h3⟩ => by rw [hx] at h2; cases h2
    rw [show ptrAt L k = .pointer none from by unfold ptrAt; rw [hx]; rfl] at cA
    clear hx
    generalize slotA h L k = A at *
    go_wp2
    go_ret
    exact ⟨k, false, HP.out, rfl, ⟨fun h => (by cases h), fun h => absurd h hno.out⟩, rfl⟩
  | some n =>
    obtain ⟨c0, -, -, -⟩ := HH.out.cells hx
    rw [show ptrAt L k = .pointer (some ⟨n.b, 0, none⟩) from by unfold ptrAt; rw [hx]; rfl] at cA
    have HX := Lib.hid hx
    clear hx
    generalize slotA h L k = A at *
    by_cases ht : n.t = txn
    · have hyes : Hid (∃ n, L[k]? = some n ∧ n.t = txn) := ⟨n, HX.out, ht⟩
      have z0 : (n.t == txn) = true := by simpa using ht
      have HT := Lib.hid ht
      clear ht
      go_wp2
      go_ret
      exact ⟨k, true, HP.out, (by rw [HT.out]; simp), ⟨fun _ => hyes.out, fun _ => rfl⟩, rfl⟩
    · have hno : Hid (¬ ∃ n, L[k]? = some n ∧ n.t = txn) := fun ⟨m, h2, h3⟩ => by rw [HX.out] at h2; cases h2; exact ht h3
      have z0 : (n.t == txn) = false := by simpa using ht
      have HT := Lib.hid ht
      clear ht
      go_wp2
      go_ret
      exact ⟨k, false, HP.out, (by simp [HT.out]), ⟨fun h => (by cases h), fun h => absurd h hno.out⟩, rfl⟩

theorem set_same {w : World} {b i : Nat} {cs : Array Value} {t : TypeId} (h : w.heap[b]? = some (.cells cs t (0, 0))) (v : Value) : (w.setCell ⟨b, i, none⟩ v).heap[b]? = some (.cells (cs.setIfInBounds i v) t (0, 0)) := by
  simp [World.setCell, Array.getElem?_modify, h]
theorem set_other {w : World} {b b' i : Nat} (v : Value) (h : b ≠ b') : (w.setCell ⟨b', i, none⟩ v).heap[b]? = w.heap[b]? := Below.heap_setCell _ _ _ _ h
theorem slotA_low {B h k : Nat} {L : List Nd} {w : World} (H : HList B w h L) : B ≤ (slotA h L k).block := by
  cases k with
  | zero => exact H.low
  | succ k =>
    cases e : L[k]? with
    | none => simp only [slotA, e]; exact H.low
    | some n => simp only [slotA, e]; exact H.lows k n e
theorem slotA_lt {B h k : Nat} {L : List Nd} {w : World} (H : HList B w h L) : (slotA h L k).block < w.heap.size := by
  cases k with
  | zero => exact lt_heap H.head
  | succ k =>
    cases e : L[k]? with
    | none => simp only [slotA, e]; exact lt_heap H.head
    | some n => simp only [slotA, e]; exact lt_heap (H.node k n e)
theorem slotA_spot (h : Nat) (L : List Nd) (k : Nat) : ∃ b i, slotA h L k = ⟨b, i, none⟩ := by
  cases k with
  | zero => exact ⟨_, _, rfl⟩
  | succ k =>
    cases e : L[k]? with
    | none => exact ⟨h, 0, by simp only [slotA, e]⟩
    | some n => exact ⟨n.b, 3, by simp only [slotA, e]⟩

theorem HList.ins {B h k : Nat} {L : List Nd} {w : World} (H : HList B w h L) (hB : B ≤ w.heap.size) (hk : k ≤ L.length) (nd : Nd) (hnd : nd.b = w.heap.size) :
    HList B ((w.alloc (.cells (NdC nd (ptrAt L k)) 81)).setCell (slotA h L k) (.pointer (some ⟨nd.b, 0, none⟩))) h (L.insertIdx k nd) := by
  have gi : ∀ j, (L.insertIdx k nd)[j]? = if j < k then L[j]? else if j = k then some nd else L[j - 1]? := by
    intro j
    rw [List.getElem?_insertIdx]
    by_cases h1 : j < k
    · simp [h1]
    · by_cases h2 : j = k
      · subst h2; simp [hk]
      · simp [h1, h2]
  have hal : ∀ b, b < w.heap.size → (w.alloc (.cells (NdC nd (ptrAt L k)) 81)).heap[b]? = w.heap[b]? := fun b hb => ((Below.refl w.heap.size w).alloc (Nat.le_refl _) _).block b hb
  have hnew : (w.alloc (.cells (NdC nd (ptrAt L k)) 81)).heap[nd.b]? = some (.cells (NdC nd (ptrAt L k)) 81 (0, 0)) := by rw [hnd]; exact heap_alloc_new w _
  have hs0 := slotA_lt (k := k) H
  refine ⟨H.low, ?_, ?_, ?_, ?_, ?_⟩
  · intro j n hj
    rw [gi] at hj
    split at hj
    · exact H.lows _ _ hj
    · split at hj
      · cases hj; omega
      · exact H.lows _ _ hj
  · cases k with
    | zero =>
      have : ptrAt (L.insertIdx 0 nd) 0 = .pointer (some ⟨nd.b, 0, none⟩) := by unfold ptrAt; rw [gi]; rfl
      rw [this, show slotA h L 0 = ⟨h, 0, none⟩ from rfl, set_same ((hal h (lt_heap H.head)).trans H.head)]
      rfl
    | succ k =>
      have e0 : ptrAt (L.insertIdx (k + 1) nd) 0 = ptrAt L 0 := by unfold ptrAt; rw [gi, if_pos (by omega)]
      have e := List.getElem?_eq_getElem (l := L) (i := k) (by omega)
      rw [e0, slotA_next e, set_other _ (fun q => H.far _ _ e q.symm), hal _ (lt_heap H.head), H.head]
  · intro j m hj
    rw [gi] at hj
    have nx : ptrAt (L.insertIdx k nd) (j + 1) = ptrO (if j + 1 < k then L[j + 1]? else if j + 1 = k then some nd else L[j]?) := by unfold ptrAt; rw [gi]; rfl
    rw [nx]
    split at hj
    · rename_i hjk
      have hm := H.node j m hj
      by_cases h1 : j + 1 = k
      · subst h1
        rw [if_neg (by omega), if_pos rfl, slotA_next hj, set_same ((hal _ (lt_heap hm)).trans hm)]
        rfl
      · rw [if_pos (by omega)]
        have hne : m.b ≠ (slotA h L k).block := by
          obtain ⟨i, rfl⟩ : ∃ i, k = i + 1 := ⟨k - 1, by omega⟩
          have e := List.getElem?_eq_getElem (l := L) (i := i) (by omega)
          rw [slotA_next e]
          intro q
          have := H.one _ _ _ _ hj e q
          omega
        obtain ⟨b, i, hs⟩ := slotA_spot h L k
        rw [hs] at hne ⊢
        rw [set_other _ hne, hal _ (lt_heap hm), hm]
        rfl
    · split at hj
      · cases hj
        rename_i h1 h2
        subst h2
        rw [if_neg (by omega), if_neg (by omega)]
        have hne : nd.b ≠ (slotA h L j).block := by omega
        obtain ⟨b, i, hs⟩ := slotA_spot h L j
        rw [hs] at hne ⊢
        rw [set_other _ hne]
        exact hnew
      · rename_i h1 h2
        have hm := H.node (j - 1) m hj
        rw [if_neg (by omega), if_neg (by omega)]
        rw [show j - 1 + 1 = j from by omega] at hm
        have hne : m.b ≠ (slotA h L k).block := by
          cases k with
          | zero => exact H.far _ _ hj
          | succ i =>
            have e := List.getElem?_eq_getElem (l := L) (i := i) (by omega)
            rw [slotA_next e]
            intro q
            have := H.one _ _ _ _ hj e q
            omega
        obtain ⟨b, i, hs⟩ := slotA_spot h L k
        rw [hs] at hne ⊢
        rw [set_other _ hne, hal _ (lt_heap hm), hm]
        rfl
  · intro j m hj
    rw [gi] at hj
    split at hj
    · exact H.far _ _ hj
    · split at hj
      · cases hj
        have := lt_heap H.head
        omega
      · exact H.far _ _ hj
  · intro i j m n hi hj hb
    rw [gi] at hi hj
    have hlt : ∀ (q : Nat) (x : Nd), L[q]? = some x → x.b < w.heap.size := fun q x hq => lt_heap (H.node q x hq)
    split at hi
    · split at hj
      · exact H.one _ _ _ _ hi hj hb
      · split at hj
        · cases hj; have := hlt _ _ hi; omega
        · have := H.one _ _ _ _ hi hj hb; omega
    · split at hi
      · cases hi
        split at hj
        · have := hlt _ _ hj; omega
        · split at hj
          · omega
          · have := hlt _ _ hj; omega
      · split at hj
        · have := H.one _ _ _ _ hi hj hb; omega
        · split at hj
          · cases hj; have := hlt _ _ hi; omega
          · have := H.one _ _ _ _ hi hj hb; omega

theorem HList.del {B h k : Nat} {L : List Nd} {w : World} {nd : Nd} (H : HList B w h L) (hk : L[k]? = some nd) :
    HList B (w.setCell (slotA h L k) (ptrAt L (k + 1))) h (L.eraseIdx k) := by
  have gi : ∀ j, (L.eraseIdx k)[j]? = if j < k then L[j]? else L[j + 1]? := fun j => List.getElem?_eraseIdx
  have hlk : k < L.length := by
    rcases Nat.lt_or_ge k L.length with h1 | h1
    · exact h1
    · rw [List.getElem?_eq_none h1] at hk; cases hk
  refine ⟨H.low, ?_, ?_, ?_, ?_, ?_⟩
  · intro j n hj
    rw [gi] at hj
    split at hj <;> exact H.lows _ _ hj
  · cases k with
    | zero =>
      have : ptrAt (L.eraseIdx 0) 0 = ptrAt L 1 := by unfold ptrAt; rw [gi]; rfl
      rw [this, show slotA h L 0 = ⟨h, 0, none⟩ from rfl, set_same H.head]
      rfl
    | succ k =>
      have e0 : ptrAt (L.eraseIdx (k + 1)) 0 = ptrAt L 0 := by unfold ptrAt; rw [gi, if_pos (by omega)]
      have e := List.getElem?_eq_getElem (l := L) (i := k) (by omega)
      rw [e0, slotA_next e, set_other _ (fun q => H.far _ _ e q.symm), H.head]
  · intro j m hj
    rw [gi] at hj
    have nx : ptrAt (L.eraseIdx k) (j + 1) = ptrO (if j + 1 < k then L[j + 1]? else L[j + 2]?) := by unfold ptrAt; rw [gi]
    rw [nx]
    split at hj
    · rename_i hjk
      have hm := H.node j m hj
      by_cases h1 : j + 1 = k
      · subst h1
        rw [if_neg (by omega), slotA_next hj, set_same hm]
        rfl
      · rw [if_pos (by omega)]
        have hne : m.b ≠ (slotA h L k).block := by
          obtain ⟨i, rfl⟩ : ∃ i, k = i + 1 := ⟨k - 1, by omega⟩
          have e := List.getElem?_eq_getElem (l := L) (i := i) (by omega)
          rw [slotA_next e]
          intro q
          have := H.one _ _ _ _ hj e q
          omega
        obtain ⟨b, i, hs⟩ := slotA_spot h L k
        rw [hs] at hne ⊢
        rw [set_other _ hne, hm]
        rfl
    · rename_i h1
      have hm := H.node (j + 1) m hj
      rw [if_neg (by omega)]
      have hne : m.b ≠ (slotA h L k).block := by
        cases k with
        | zero => exact H.far _ _ hj
        | succ i =>
          have e := List.getElem?_eq_getElem (l := L) (i := i) (by omega)
          rw [slotA_next e]
          intro q
          have := H.one _ _ _ _ hj e q
          omega
      obtain ⟨b, i, hs⟩ := slotA_spot h L k
      rw [hs] at hne ⊢
      rw [set_other _ hne, hm]
      rfl
  · intro j m hj
    rw [gi] at hj
    split at hj <;> exact H.far _ _ hj
  · intro i j m n hi hj hb
    rw [gi] at hi hj
    split at hi <;> split at hj <;> (have := H.one _ _ _ _ hi hj hb; omega)
end Go.Proofs.Ytmlkjlipjkmcfaa

namespace Go.Proofs.Ytmlkjlipjkmcfaa
open Go.RowKit
set_option linter.unusedVariables false
set_option linter.unusedSimpArgs false

theorem ptrAt_ptr (L : List Nd) (k : Nat) : ∃ q, ptrAt L k = .pointer q := by
  unfold ptrAt
  cases L[k]? with
  | none => exact ⟨none, rfl⟩
  | some n => exact ⟨_, rfl⟩
set_option maxHeartbeats 4000000 in
theorem putI (B h : Nat) (L : List Nd) (x y z : Int) (w : World) (H : HList B w h L) (hB : B ≤ w.heap.size) :
    Calls Try.prog 46 #[.pointer (some ⟨h, 0, none⟩), .agg #[.int .i64 x, .int .i64 y, .int .i64 z]] w fun e w' => (∃ v, e = .returned v) ∧ (∃ k b, AtPos L x k ∧ HList B w' h (L.insertIdx k ⟨b, x, y, z⟩)) ∧ Below B w w' := by
  have hbA : Below w.heap.size w (w.alloc (.cells #[.int .i64 x, .int .i64 y, .int .i64 z] 35)) := (Below.refl _ _).alloc (Nat.le_refl _) _
  have hbox : (w.alloc (.cells #[.int .i64 x, .int .i64 y, .int .i64 z] 35)).heap[w.heap.size]? = some (.cells #[.int .i64 x, .int .i64 y, .int .i64 z] 35 (0, 0)) := heap_alloc_new w _
  obtain ⟨c0, c1, c2⟩ := row3 hbox
  have HA := Lib.hid (H.kept hbA)
  have HbA := Lib.hid (hbA.mono hB)
  have hsz : B ≤ (w.alloc (.cells #[.int .i64 x, .int .i64 y, .int .i64 z] 35)).heap.size := Nat.le_trans hB hbA.size
  clear H hbA hbox
  go_enter Try.func46, Try.ntmps46
  go_wp2_with fail
  generalize w.alloc (.cells #[.int .i64 x, .int .i64 y, .int .i64 z] 35) = W at *
  refine (atI B h L x W HA.out).mono ?_
  rintro e w' ⟨⟨k, hpos, rfl⟩, rfl⟩
  obtain ⟨cA, fA⟩ := HA.out.slot k hpos.1
  have HP := Lib.hid hpos
  have hlow := slotA_low (k := k) HA.out
  have HL := Lib.hid (HA.out.ins hsz hpos.1 ⟨W.heap.size, x, y, z⟩ rfl)
  obtain ⟨q, hq⟩ := ptrAt_ptr L k
  rw [hq] at cA
  obtain ⟨cB, fB⟩ := (HA.out.kept ((Below.refl _ W).alloc (Nat.le_refl _) (.cells #[.int .i64 x, .int .i64 y, .int .i64 z, .pointer q] 81))).slot k hpos.1
  rw [hq] at cB
  have hbB : Hid (Below B W (W.alloc (.cells #[.int .i64 x, .int .i64 y, .int .i64 z, .pointer q] 81))) := ((Below.refl _ W).alloc (Nat.le_refl _) _).mono hsz
  unfold NdC at HL
  rw [hq] at HL
  clear hq hpos
  generalize slotA h L k = A at *
  go_wp2_with fail
  go_region
  all_goals
    go_end0
    exact ⟨⟨_, rfl⟩, ⟨k, _, HP.out, HL.out.kept (Below.refl _ _).drew⟩, HbA.out.trans ((hbB.out.setCell (p := A) hlow _).drew)⟩

/-- What is taken out: what is held for the transaction, nothing if nothing is. -/
def Taken (L : List Nd) (txn : Int) (x y z : Int) (M : List Nd) : Prop := ∃ k, AtPos L txn k ∧ ((∃ n, L[k]? = some n ∧ n.t = txn ∧ x = n.t ∧ y = n.c ∧ z = n.s ∧ M = L.eraseIdx k) ∨ ((∀ n, L[k]? = some n → n.t ≠ txn) ∧ x = 0 ∧ y = 0 ∧ z = 0 ∧ M = L))

set_option maxHeartbeats 4000000 in
theorem takeI (B h : Nat) (L : List Nd) (txn : Int) (w : World) (H : HList B w h L) (hB : B ≤ w.heap.size) :
    Calls Try.prog 89 #[.pointer (some ⟨h, 0, none⟩), .int .i64 txn] w fun e w' => (∃ x y z M, Taken L txn x y z M ∧ e = .returned (.agg #[.int .i64 x, .int .i64 y, .int .i64 z]) ∧ HList B w' h M) ∧ Below B w w' := by
  have hbA : Below w.heap.size w (w.alloc (.cells #[.int .i64 0, .int .i64 0, .int .i64 0] 35)) := (Below.refl _ _).alloc (Nat.le_refl _) _
  have hbox : (w.alloc (.cells #[.int .i64 0, .int .i64 0, .int .i64 0] 35)).heap[w.heap.size]? = some (.cells #[.int .i64 0, .int .i64 0, .int .i64 0] 35 (0, 0)) := heap_alloc_new w _
  have HA := Lib.hid (H.kept hbA)
  have HbA := Lib.hid (hbA.mono hB)
  have hsz : B ≤ (w.alloc (.cells #[.int .i64 0, .int .i64 0, .int .i64 0] 35)).heap.size := Nat.le_trans hB hbA.size
  have HBox := Lib.hid hbox
  have HW := Lib.hid H
  have hwW : w.heap.size < (w.alloc (.cells #[.int .i64 0, .int .i64 0, .int .i64 0] 35)).heap.size := by simp
  have hBh := H.low
  clear H hbA hbox
  go_enter Try.func89, Try.ntmps89
  go_wp2_with fail
  generalize w.alloc (.cells #[.int .i64 0, .int .i64 0, .int .i64 0] 35) = W at *
  refine (hasI B h L txn W HA.out).mono ?_
  rintro e w' ⟨k, b, hpos, rfl, hb, rfl⟩
  have HP := Lib.hid hpos
  cases b with
  | false =>
    have hno : Hid (∀ n, L[k]? = some n → n.t ≠ txn) := fun n h1 h2 => by have := hb.out.2 ⟨n, h1, h2⟩; cases this
    clear hb hpos
    go_wp2_with (first
      | (refine wpList_store_row rfl 35 _ _ rfl w.heap.size #[.int .i64 0, .int .i64 0, .int .i64 0] rfl rfl 35 #[.int .i64 0, .int .i64 0, .int .i64 0] HBox.out holdSize rfl (hold_one 0 0 0) ?_)
      | fail)
    have hR := setRow_heap W w.heap.size _ #[.int .i64 0, .int .i64 0, .int .i64 0] _ _ HBox.out
    have gr := grown_setRow W w.heap.size #[.int .i64 0, .int .i64 0, .int .i64 0]
    obtain ⟨d0, d1, d2⟩ := row3 hR
    have HB2 := Lib.hid ((HbA.out).grown gr (by have := HbA.out.size; omega) (fun k e => by cases e; exact hB))
    have HL2 : Hid (HList B (W.setRow w.heap.size #[.int .i64 0, .int .i64 0, .int .i64 0]) h L) := by
      have hHW := HW.out
      refine ⟨HA.out.low, HA.out.lows, ?_, ?_, HA.out.far, HA.out.one⟩
      · rw [setRow_other _ _ _ _ (by have := lt_heap hHW.head; omega)]; exact HA.out.head
      · intro k n hk
        rw [setRow_other _ _ _ _ (by have := lt_heap (hHW.node k n hk); omega)]; exact HA.out.node k n hk
    clear hR gr
    generalize W.setRow w.heap.size #[.int .i64 0, .int .i64 0, .int .i64 0] = W2 at *
    refine bodyPost_ret (v := .agg #[.int .i64 0, .int .i64 0, .int .i64 0]) ?_ rfl ⟨⟨0, 0, 0, L, ⟨k, HP.out, Or.inr ⟨hno.out, rfl, rfl, rfl, rfl⟩⟩, rfl, HL2.out⟩, HB2.out⟩
    rw [results_cell1 rfl]
    go_simp
  | true =>
    have hyes : Hid (∃ n, L[k]? = some n ∧ n.t = txn) := hb.out.1 rfl
    obtain ⟨n, hn, ht⟩ := hyes.out
    clear hb
    have HN := Lib.hid hn
    have HT := Lib.hid ht
    clear hpos hn ht
    go_wp2_with fail
    refine (atI B h L txn W HA.out).mono ?_
    rintro e w' ⟨⟨k', hpos', rfl⟩, rfl⟩
    obtain rfl : k' = k := hpos'.one HP.out
    obtain ⟨cA, fA⟩ := HA.out.slot k' hpos'.1
    obtain ⟨e0, e1, e2, e3⟩ := HA.out.cells HN.out
    rw [show ptrAt L k' = .pointer (some ⟨n.b, 0, none⟩) from by unfold ptrAt; rw [HN.out]; rfl] at cA
    have hlow := slotA_low (k := k') HA.out
    have hsl := slotA_lt (k := k') HW.out
    have hb1 : Below W.heap.size W (W.alloc (.cells #[.int .i64 n.t, .int .i64 n.c, .int .i64 n.s] 35)) := (Below.refl _ W).alloc (Nat.le_refl _) _
    have HA1 := HA.out.kept hb1
    obtain ⟨cB, fB⟩ := HA1.slot k' hpos'.1
    obtain ⟨g0, g1, g2, g3⟩ := HA1.cells HN.out
    rw [show ptrAt L k' = .pointer (some ⟨n.b, 0, none⟩) from by unfold ptrAt; rw [HN.out]; rfl] at cB
    have HD := Lib.hid (HA1.del HN.out)
    have hbox1 : (W.alloc (.cells #[.int .i64 n.t, .int .i64 n.c, .int .i64 n.s] 35)).heap[W.heap.size]? = some (.cells #[.int .i64 n.t, .int .i64 n.c, .int .i64 n.s] 35 (0, 0)) := heap_alloc_new W _
    have hbox0 := (hb1.block _ hwW).trans HBox.out
    obtain ⟨q, hq⟩ := ptrAt_ptr L (k' + 1)
    rw [hq] at e3 g3 HD
    have HB1 := Lib.hid ((HbA.out.trans (hb1.mono hsz)).setCell (p := slotA h L k') hlow (.pointer q))
    obtain ⟨ab, ai, hA⟩ := slotA_spot h L k'
    rw [hA] at hsl hlow cA fA cB fB HD HB1 ⊢
    dsimp only at hsl hlow
    have hbox2 : ((W.alloc (.cells #[.int .i64 n.t, .int .i64 n.c, .int .i64 n.s] 35)).setCell ⟨ab, ai, none⟩ (.pointer q)).heap[W.heap.size]? = some (.cells #[.int .i64 n.t, .int .i64 n.c, .int .i64 n.s] 35 (0, 0)) := (set_other _ (by omega)).trans hbox1
    have hbox3 : ((W.alloc (.cells #[.int .i64 n.t, .int .i64 n.c, .int .i64 n.s] 35)).setCell ⟨ab, ai, none⟩ (.pointer q)).heap[w.heap.size]? = some (.cells #[.int .i64 0, .int .i64 0, .int .i64 0] 35 (0, 0)) := (set_other _ (by omega)).trans hbox0
    obtain ⟨u0, u1, u2⟩ := row3 hbox2
    have HBox3 := Lib.hid hbox3
    have HLo : Hid (∀ W', HList B W' h (L.eraseIdx k') → w.heap.size ≠ h ∧ ∀ (j : Nat) (m : Nd), (L.eraseIdx k')[j]? = some m → m.b ≠ w.heap.size) := fun W' hW' => by
      refine ⟨by have := lt_heap HW.out.head; omega, fun j m hj => ?_⟩
      rw [List.getElem?_eraseIdx] at hj
      split at hj
      · have := lt_heap (HW.out.node _ _ hj); omega
      · have := lt_heap (HW.out.node _ _ hj); omega
    clear hpos' hbox0 hbox1 hbox2 hbox3 hb1 HA1 hq hA
    go_wp2_with (first
      | (refine wpList_store_row rfl 35 _ _ rfl w.heap.size #[.int .i64 n.t, .int .i64 n.c, .int .i64 n.s] rfl rfl 35 #[.int .i64 0, .int .i64 0, .int .i64 0] HBox3.out holdSize rfl (hold_one _ _ _) ?_)
      | fail)
    generalize (W.alloc (.cells #[.int .i64 n.t, .int .i64 n.c, .int .i64 n.s] 35)).setCell ⟨ab, ai, none⟩ (.pointer q) = W2 at *
    have hR := setRow_heap W2 w.heap.size _ #[.int .i64 n.t, .int .i64 n.c, .int .i64 n.s] _ _ HBox3.out
    have gr := grown_setRow W2 w.heap.size #[.int .i64 n.t, .int .i64 n.c, .int .i64 n.s]
    obtain ⟨d0, d1, d2⟩ := row3 hR
    have HB2 := Lib.hid ((HB1.out).grown gr (by have := HB1.out.size; omega) (fun k e => by cases e; exact hB))
    have HL2 : Hid (HList B (W2.setRow w.heap.size #[.int .i64 n.t, .int .i64 n.c, .int .i64 n.s]) h (L.eraseIdx k')) := by
      have hD := HD.out
      obtain ⟨o1, o2⟩ := HLo.out _ hD
      refine ⟨hD.low, hD.lows, ?_, ?_, hD.far, hD.one⟩
      · rw [setRow_other _ _ _ _ (by omega)]; exact hD.head
      · intro k m hk
        rw [setRow_other _ _ _ _ (by have := o2 k m hk; omega)]; exact hD.node k m hk
    clear hR gr u0 u1 u2 g0 g1 g2 g3 e0 e1 e2 e3 cA fA cB fB
    generalize W2.setRow w.heap.size #[.int .i64 n.t, .int .i64 n.c, .int .i64 n.s] = W3 at *
    refine bodyPost_ret (v := .agg #[.int .i64 n.t, .int .i64 n.c, .int .i64 n.s]) ?_ rfl ⟨⟨n.t, n.c, n.s, L.eraseIdx k', ⟨k', HP.out, Or.inl ⟨n, HN.out, HT.out, rfl, rfl, rfl, rfl⟩⟩, rfl, HL2.out⟩, HB2.out⟩
    rw [results_cell1 rfl]
    go_simp
end Go.Proofs.Ytmlkjlipjkmcfaa

namespace Go.Proofs.Ytmlkjlipjkmcfaa
open Go.RowKit Go.Shelf
set_option linter.unusedVariables false
set_option linter.unusedSimpArgs false
attribute [local go_sem] Oper.semAt_some

def encN (n : Nd) : Array Value := #[.agg #[.int .i64 n.t, .int .i64 n.c, .int .i64 n.s]]
def flatN (L : List Nd) : List Value := L.flatMap fun n => [.int .i64 n.t, .int .i64 n.c, .int .i64 n.s]
theorem flatN_snoc (L : List Nd) (n : Nd) : flatN (L ++ [n]) = flatN L ++ [.int .i64 n.t, .int .i64 n.c, .int .i64 n.s] := by simp [flatN]
def NdH (n : Nd) : Array Value := #[.int .i64 n.t, .int .i64 n.c, .int .i64 n.s]
theorem take_snocN {L : List Nd} {k : Nat} {n : Nd} (h : L[k]? = some n) : L.take (k + 1) = L.take k ++ [n] := by
  rw [List.take_add_one, h]; rfl

set_option maxRecDepth 100000 in
set_option maxHeartbeats 4000000 in
theorem all_stops (B h bx : Nat) (L : List Nd) (n : Nat) (hn : 1 ≤ n) (w0 w : World) (H : HList B w0 h L) (hbx : Boxed w0 bx 58 (.pointer (some ⟨h, 0, none⟩))) (hb0 : Below w0.heap.size w0 w) :
    SeqStopsK Fence.wide n Try.prog 91 #[.pointer (some ⟨bx, 0, none⟩)] encN (Below w0.heap.size) (fun xs => xs = L) (fun _ => True) L.length w := fun l J Jx W hW0 hJ hJx hY h0 => by
  have hW := hb0.trans (hW0.mono hb0.size)
  have HY := Lib.hid hY
  have HH := Lib.hid H
  have HW := Lib.hid hW
  have cbx := (hW.cell (p := ⟨bx, 0, none⟩) hbx.lt).trans hbx.cell
  obtain ⟨chead, -⟩ := (H.kept hW).slot 0 (Nat.zero_le _)
  rw [show slotA h L 0 = ⟨h, 0, none⟩ from rfl] at chead
  have HJ := Lib.hid hJ
  have H0 := Lib.hid h0
  clear hY H hW hbx h0 hW0 hb0
  refine callsIn_of_wp Try.func91 rfl trivial ?_ rfl
  simp only [Try.ntmps91, List.size_toArray, List.length_cons, List.length_nil, Nat.reduceAdd, Nat.reduceSub, Array.replicate_succ, Array.replicate_zero, List.push_toArray, List.append_toArray, List.nil_append, List.cons_append]
  obtain ⟨q0, hq0⟩ := ptrAt_ptr L 0
  rw [hq0] at chead
  have HQ0 := Lib.hid hq0
  clear hq0
  gi_wp2_with fail
  gi_loopg [3] (L.length) (fun m p wr => ∃ k, m = L.length - k ∧ k ≤ L.length ∧ p = ptrAt L k ∧ J (L.take k) wr ∧ Below w0.heap.size w0 wr)
  case atStart => exact ⟨0, rfl, Nat.zero_le _, HQ0.out.symm, H0.out, HW.out⟩
  case round =>
    obtain ⟨k, hm, hk, rfl, hj, hb⟩ := hrel
    have HM := Lib.hid hm
    clear hm
    cases hx : L[k]? with
    | none =>
      have hkl : k = L.length := by
        rcases Nat.lt_or_ge k L.length with h1 | h1
        · rw [List.getElem?_eq_getElem h1] at hx; cases hx
        · omega
      rw [show ptrAt L k = .pointer none from by unfold ptrAt; rw [hx]; rfl]
      have HK := Lib.hid hkl
      clear hx hkl
      gi_wp2
      go_end0
      exact ⟨⟨_, rfl⟩, .inl ⟨L, rfl, by have := hj; rw [HK.out, List.take_length] at this; exact this⟩⟩
    | some n =>
      have hlt : k < L.length := by
        rcases Nat.lt_or_ge k L.length with h1 | h1
        · exact h1
        · rw [List.getElem?_eq_none h1] at hx; cases hx
      have HHr := Lib.hid (HH.out.kept hb)
      obtain ⟨c0, c1, c2, -⟩ := HHr.out.cells hx
      rw [show ptrAt L k = .pointer (some ⟨n.b, 0, none⟩) from by unfold ptrAt; rw [hx]; rfl]
      have HX := Lib.hid hx
      have hlen : (L.take k).length < L.length := by rw [List.length_take]; omega
      obtain ⟨fn, tmps, assign, body, hy, hR⟩ := HY.out (L.take k) n wr hj hlen
      dsimp only [encN] at hy
      clear hx hlen
      gi_wp2
      refine hR.mono ?_
      rintro e W3 (⟨rfl, hJ3, hk3⟩ | ⟨rfl, hJx3⟩)
      · have hb3 : Below w0.heap.size w0 W3 := hb.trans hk3
        obtain ⟨d0, d1, d2, d3⟩ := (HH.out.kept hb3).cells HX.out
        obtain ⟨q, hq⟩ := ptrAt_ptr L (k + 1)
        rw [hq] at d3
        have HQ := Lib.hid hq
        clear hq c0 c1 c2
        gi_wp2
        gi_roundg (L.length - (k + 1))
        case measure => rw [HM.out]; omega
        case rel => exact ⟨k + 1, rfl, hlt, HQ.out.symm, by rw [take_snocN HX.out]; exact hJ3, hb3⟩
      · gi_wp2
        refine bodyPost_ret (results_none rfl _ _ _) rfl ?_
        exact ⟨⟨_, rfl⟩, .inr ⟨_, trivial, hJx3⟩⟩

theorem hold_ne : 29 ≠ 35 := by decide
set_option maxRecDepth 100000 in
set_option maxHeartbeats 8000000 in
/-- What is collected: a list of the call's own, nil just where nothing is held. -/
theorem appendSeqIn (B h bx : Nat) (L : List Nd) (n : Nat) (hn : 3 ≤ n) (w : World) (H : HList B w h L) (hbx : Boxed w bx 58 (.pointer (some ⟨h, 0, none⟩))) (hL : L.length ≤ 1048576) :
    CallsIn Fence.wide n Try.prog 90 #[.slice none 0 0, .func (.func 91) #[] #[.pointer (some ⟨bx, 0, none⟩)]] w fun e W' => ∃ v, e = .returned v ∧ W'.ownsRow w.heap.size 35 3 v L.length (flatN L) ∧ (v = .slice none 0 0 ↔ L = []) ∧ Below w.heap.size w W' := by
  have h1 : 1 ≤ n := by omega
  obtain ⟨i0, hi, hz0, hz1, hz2⟩ := info_parts infoHold
  refine callsIn_of_wp_marks Try.func90 rfl trivial ?_ rfl
  simp only [Try.ntmps90, List.size_toArray, List.length_cons, List.length_nil, Nat.reduceAdd, Nat.reduceSub, Array.replicate_succ, Array.replicate_zero, List.push_toArray, List.append_toArray, List.nil_append, List.cons_append]
  gi_wp2_with fail
  have bO := Boxed.new w 29 (.slice none 0 0)
  have hB0 : Below w.heap.size w (w.alloc (.cells #[.slice none 0 0] 29)) := (Below.refl _ w).alloc (Nat.le_refl _) _
  have hst := all_stops B h bx L (n - 1) (by omega) w (w.alloc (.cells #[.slice none 0 0] 29)) H hbx hB0
  refine wpIn_rangeFunc_ownH rfl h1 (gf := 91) (lb := #[.pointer (some ⟨bx, 0, none⟩)]) rfl trivial (enters_of Try.func91 (by kernel_rfl) rfl)
    hst belowK_t (belowK_b (by simp)) (Below.refl _ _) (fun _ => rfl)
    (fun pre W => (∃ v, Boxed W w.heap.size 29 v ∧ W.ownsRow w.heap.size 35 3 v pre.length (flatN pre) ∧ (v = .slice none 0 0 ↔ pre = [])) ∧ Below w.heap.size w W)
    (fun _ _ _ => False)
    (OwnFrom.and (Own.from (holdsRow_own w.heap.size w.heap.size 29 35 3 (fun pre => pre.length) flatN (fun pre v => v = .slice none 0 0 ↔ pre = [])) _) (ownFrom_below (Nat.le_refl _) (by simp)))
    (fun _ _ _ _ _ hs _ _ => hs)
    ⟨⟨_, bO, World.ownsRow_nil _ _ _ _, by simp⟩, hB0⟩
    (fun x a' W => ∃ B', W.heap[B']? = some (.cells (NdH x) 35 (0, 0)) ∧ a' = { tmps := #[.slice none 0 0, .func (.func 91) #[] #[.pointer (some ⟨bx, 0, none⟩)], .pointer (some ⟨w.heap.size, 0, none⟩), undef, .slice none 0 0, .pointer (some ⟨B', 0, none⟩), .func (.func 91) #[] #[.pointer (some ⟨bx, 0, none⟩)], .agg (NdH x), undef, undef, undef, undef, undef], defers := [] })
    (fun x a' s X Y row hs hg hr => by
      obtain ⟨B', hb, e⟩ := hs
      refine ⟨B', (hg.block B' (lt_heap hb) (fun q => ?_)).trans hb, e⟩
      obtain ⟨-, o, ho, hc⟩ := hr B' q.symm
      rw [hb] at ho; cases ho; cases hc) ?assign ?body ?done ?stop
  case assign =>
    rintro l pre x W K ⟨⟨v, hv, hrow, hnil⟩, hB⟩ hK
    dsimp only [encN]
    have hKK := hK _ _ ((KeepsOthers.alloc W (.cells (NdH x) 35)).from _) ((Below.refl _ W).alloc hB.size _) ⟨⟨v, hv.alloc _, hrow.alloc _, hnil⟩, hB.alloc hB.size _⟩ ⟨W.heap.size, heap_alloc_new W _, rfl⟩
    unfold NdH at hKK
    gi_wp2
    exact hKK
  case body =>
    rintro l pre x a' W - - ⟨⟨v, hv, hrow, hnil⟩, hB⟩ ⟨B', hb, rfl⟩ hlt
    unfold NdH at hb ⊢
    have hc := hv.cell
    obtain ⟨b0, b1, b2⟩ := row3 hb
    have hnews : ∀ (j : Nat) (u : Value), [Value.int IntKind.i64 x.t, Value.int IntKind.i64 x.c, Value.int IntKind.i64 x.s][j]? = some u → (W.alloc (Obj.cells #[Value.int IntKind.i64 x.t, Value.int IntKind.i64 x.c, Value.int IntKind.i64 x.s] 35)).cell? ((⟨W.heap.size, 0, none⟩ : Addr).add j) = some u := World.news_of_block (heap_alloc_new W _)
    gi_wp2_with (gi_at_builtin; refine wpListIn_append_own _ rfl _ _ 29 rfl w.heap.size 35 i0 (.agg #[.int .i64 0, .int .i64 0, .int .i64 0]) 3 24 Try.underlying29 hi hz0 hz1 hz2 rfl (by decide) _ _ _ rfl (hrow.alloc _) ⟨W.heap.size, 0, none⟩ 1 1 [.int .i64 x.t, .int .i64 x.c, .int .i64 x.s] rfl rfl hnews (by simp [Value.oneCell']) (by unfold maxLen; omega) (by omega) (by have := hB.size; simp; omega) ?_; intro v' w1 hown' hgrow _; obtain ⟨g', cap', rfl⟩ := ownsRow_succ hown'; obtain ⟨hv1, hv2, hr2, hk2, hb2⟩ := hv.appended (by decide) hrow hB.size (Nat.le_refl _) hown' hgrow; have hc1 := hv1.cell; have hf1 := hv1.frozen)
    exact ⟨hk2.from _, hb2, ⟨⟨_, hv2, by rw [flatN_snoc]; simpa using hr2, by simp⟩, hB.trans hb2⟩⟩
  case done =>
    rintro D ys W hD rfl ⟨⟨v, hv, hrow, hnil⟩, hB⟩ hK
    have hc := hv.cell
    gi_wp2
    refine ⟨by simp, .inl ⟨_, _, rfl, run_takeDeferred hK, ?_⟩⟩
    exact ⟨_, results_tmp rfl _ _ _, v, rfl, ownsRow_putObj hrow _ hK rfl, hnil, hB.trans (belowK_b (w := w) (Nat.le_refl _) W D _ _ (by simp at hD; omega) hK rfl rfl)⟩
  case stop =>
    rintro D c pre W _ _ h _
    exact h.elim

set_option maxRecDepth 100000 in
set_option maxHeartbeats 4000000 in
theorem collectI (B h bx : Nat) (L : List Nd) (w : World) (H : HList B w h L) (hbx : Boxed w bx 58 (.pointer (some ⟨h, 0, none⟩))) (hL : L.length ≤ 1048576) :
    Calls Try.prog 79 #[.func (.func 91) #[] #[.pointer (some ⟨bx, 0, none⟩)]] w fun e W' => ∃ v, e = .returned v ∧ W'.ownsRow w.heap.size 35 3 v L.length (flatN L) ∧ (v = .slice none 0 0 ↔ L = []) ∧ Below w.heap.size w W' := by
  go_enter Try.func79, Try.ntmps79
  go_wp2_with fail
  refine (callsIn_wide.1 (appendSeqIn B h bx L 3 (by omega) w H hbx hL)).mono ?_
  rintro e W' ⟨v, rfl, hown, hnil, hb⟩
  have HO := Lib.hid hown
  have HN := Lib.hid hnil
  clear hown hnil
  go_wp2
  go_ret
  exact ⟨v, rfl, HO.out, HN.out, hb⟩

theorem allFn (h : Nat) (w : World) :
    Calls Try.prog 80 #[.pointer (some ⟨h, 0, none⟩)] w fun e w' => e = .returned (.func (.func 91) #[] #[.pointer (some ⟨w.heap.size, 0, none⟩)]) ∧ w' = w.alloc (.cells #[.pointer (some ⟨h, 0, none⟩)] 58) := by
  go_enter Try.func80, Try.ntmps80
  go_wp2
  go_ret
  exact ⟨rfl, rfl⟩

/-- The list of what is held as a slice has it. -/
def tN (L : List Nd) (i : Nat) : Int := (L.map (·.t)).getD i 0
def cN (L : List Nd) (i : Nat) : Int := (L.map (·.c)).getD i 0
def sN (L : List Nd) (i : Nat) : Int := (L.map (·.s)).getD i 0
theorem flatN_at : ∀ (L : List Nd) (i : Nat), i < L.length → (flatN L)[i * 3]? = some (.int .i64 (tN L i)) ∧ (flatN L)[i * 3 + 1]? = some (.int .i64 (cN L i)) ∧ (flatN L)[i * 3 + 2]? = some (.int .i64 (sN L i))
  | [], i, h => absurd h (Nat.not_lt_zero _)
  | n :: L, 0, _ => ⟨rfl, rfl, rfl⟩
  | n :: L, i + 1, h => by
    have ih := flatN_at L i (by simpa using h)
    have e : flatN (n :: L) = [.int .i64 n.t, .int .i64 n.c, .int .i64 n.s] ++ flatN L := rfl
    have e3 : (i + 1) * 3 = i * 3 + 3 := by omega
    rw [e, e3]
    refine ⟨?_, ?_, ?_⟩
    · rw [List.getElem?_append_right (by simp)]; simpa [tN] using ih.1
    · rw [List.getElem?_append_right (by simp)]; simpa [cN] using ih.2.1
    · rw [List.getElem?_append_right (by simp)]; simpa [sN] using ih.2.2
theorem flatN_len (L : List Nd) : (flatN L).length = L.length * 3 := by
  induction L with
  | nil => rfl
  | cons n L ih => simp [flatN] at ih ⊢; omega
/-- What was collected: a slice that reads as the list, in memory of its own. -/
theorem own_holds {W : World} {base : Nat} {v : Value} {L : List Nd} (h : W.ownsRow base 35 3 v L.length (flatN L)) :
    ∃ a cap, v = .slice a L.length cap ∧ L.length ≤ cap ∧ Holds W a L.length (tN L) (cN L) (sN L) := by
  rcases h.2 with ⟨rfl, h0⟩ | ⟨g, cap, cur, rfl, hb, hg, hc, -⟩
  · exact ⟨none, 0, by rw [h0], by omega, .inl h0⟩
  · refine ⟨some ⟨g, 0, none⟩, cap, rfl, hc, .inr ⟨g, 0, rfl, lt_heap hg, fun i hi => ?_⟩⟩
    have hf := flatN_at L i hi
    have hl := flatN_len L
    rw [Nat.zero_add]
    exact ⟨(h.cellAt (i * 3) (by omega)).trans hf.1, (h.cellAt (i * 3 + 1) (by omega)).trans hf.2.1, (h.cellAt (i * 3 + 2) (by omega)).trans hf.2.2⟩
end Go.Proofs.Ytmlkjlipjkmcfaa

namespace Go.Proofs.Ytmlkjlipjkmcfaa
open Go.RowKit
set_option linter.unusedVariables false
set_option linter.unusedSimpArgs false

/-- The list has the first k of what is held. -/
def RdN (L : List Nd) (t c s : Nat → Int) (k : Nat) : Prop := L.length = k ∧ ∀ (i : Nat) (n : Nd), L[i]? = some n → n.t = t i ∧ n.c = c i ∧ n.s = s i
theorem RdN.snoc {L : List Nd} {t c s : Nat → Int} {k b : Nat} (h : RdN L t c s k) : RdN (L ++ [⟨b, t k, c k, s k⟩]) t c s (k + 1) := by
  refine ⟨by simp [h.1], fun i n hi => ?_⟩
  rcases Nat.lt_or_ge i L.length with h1 | h1
  · rw [List.getElem?_append_left h1] at hi; exact h.2 i n hi
  · rw [List.getElem?_append_right h1] at hi
    have : i - L.length = 0 := by
      rcases Nat.eq_zero_or_pos (i - L.length) with q | q
      · exact q
      · rw [List.getElem?_eq_none (by simp; omega)] at hi; cases hi
    rw [this] at hi
    have hik : i = k := by have := h.1; omega
    subst hik
    simp at hi
    subst hi
    exact ⟨rfl, rfl, rfl⟩
theorem RdN.tN {L : List Nd} {t c s : Nat → Int} {k : Nat} (h : RdN L t c s k) {i : Nat} (hi : i < k) : tN L i = t i ∧ cN L i = c i ∧ sN L i = s i := by
  have hl : i < L.length := by rw [h.1]; exact hi
  have e := List.getElem?_eq_getElem hl
  have := h.2 i _ e
  simp only [Go.Proofs.Ytmlkjlipjkmcfaa.tN, cN, sN, List.getD_eq_getElem?_getD, List.getElem?_map, e]
  exact this

set_option maxHeartbeats 4000000 in
theorem heldOfI (d : LegD) (p : LegP) (w : World) (h : LegIn w d p) (hh : HoldsOk d) :
    Calls Try.prog 43 #[LegV d p] w fun e w' => (∃ hb L, e = .returned (.pointer (some ⟨hb, 0, none⟩)) ∧ HList w.heap.size w' hb L ∧ RdN L d.t d.c d.s d.nH) ∧ Below w.heap.size w w' := by
  have hbA : Below w.heap.size w (w.alloc (.cells (LegC d p) 31)) := (Below.refl _ _).alloc (Nat.le_refl _) _
  have hA := LegBox.new w d p
  have hbB : Below w.heap.size w ((w.alloc (.cells (LegC d p) 31)).alloc (.cells #[.pointer none] 77)) := hbA.alloc (by simp) _
  have b9 := (hA.kept ((Below.refl _ _).alloc (Nat.le_refl _) (.cells #[.pointer none] 77))).c9
  have hl0 : HList w.heap.size ((w.alloc (.cells (LegC d p) 31)).alloc (.cells #[.pointer none] 77)) (w.heap.size + 1) [] :=
    ⟨by omega, fun k n hk => (by cases hk), by have := heap_alloc_new (w.alloc (.cells (LegC d p) 31)) (.cells #[.pointer none] 77); rwa [World.size_alloc] at this, fun k n hk => (by cases hk), fun k n hk => (by cases hk), fun i j m n hi => (by cases hi)⟩
  have HIn := Lib.hid h.2.2.2
  have HbB := Lib.hid hbB
  have HL0 := Lib.hid hl0
  have HH := Lib.hid hh
  have hn6 := hh.1
  have hVC : LegV d p = .agg (LegC d p) := rfl
  rw [hVC]
  generalize hLC : LegC d p = LC at *
  clear hbA hbB hA hl0 hLC h hh hVC
  go_enter Try.func43, Try.ntmps43
  go_wp2_with fail
  have hsz : w.heap.size ≤ ((w.alloc (.cells LC 31)).alloc (.cells #[.pointer none] 77)).heap.size := HbB.out.size
  generalize (w.alloc (.cells LC 31)).alloc (.cells #[.pointer none] 77) = W at *
  go_loopw [11] (fun v wr => ∃ k : Nat, k ≤ d.nH ∧ v = .int .i64 k ∧ ∃ L, Hid (HList w.heap.size wr (w.heap.size + 1) L ∧ RdN L d.t d.c d.s k) ∧ Below w.heap.size w wr) (fun v _ => d.nH - (intOf v).toNat)
  case atStart => exact ⟨0, Nat.zero_le _, rfl, [], ⟨HL0.out, rfl, fun i n hi => (by cases hi)⟩, HbB.out⟩
  case round =>
    obtain ⟨k, hk, rfl, L, HLk, hb⟩ := hrel
    rcases Nat.lt_or_ge k d.nH with hlt | hge
    · obtain ⟨bH, oH, eH, hbH, hcH⟩ := HIn.out.cells (by omega)
      rw [eH]
      have c1 := cell_kept hb hbH (hcH k hlt).1
      have c2 := cell_kept hb hbH (hcH k hlt).2.1
      have c3 := cell_kept hb hbH (hcH k hlt).2.2
      have k1 : (k : Int) < d.nH := by omega
      have k0 : (0 : Int) ≤ k := by omega
      have hasc : Hid (AtPos L (d.t k) L.length) := by
        refine ⟨Nat.le_refl _, fun i n hi hn => ?_, fun n hn => by rw [List.getElem?_eq_none (Nat.le_refl _)] at hn; cases hn⟩
        rw [(HLk.out.2.2 i n hn).1]
        have hik : i < k := by rw [← HLk.out.2.1]; exact hi
        have : ∀ j, i + j + 1 ≤ k → d.t i < d.t (i + j + 1) := by
          intro j
          induction j with
          | zero => intro hj; have := (HH.out.2 (i + 1) (by omega)).2; simpa using this
          | succ j ih => intro hj; have h1 := ih (by omega); have := (HH.out.2 (i + (j + 1) + 1) (by omega)).2; simp at this; rw [show i + j + 1 = i + (j + 1) from by omega] at h1; omega
        have := this (k - i - 1) (by omega)
        rwa [show i + (k - i - 1) + 1 = k from by omega] at this
      have hrd := HLk.out.2
      have HRd := Lib.hid hrd
      clear hcH eH hrd
      generalize hx1 : d.t k = x1 at *
      generalize hx2 : d.c k = x2 at *
      generalize hx3 : d.s k = x3 at *
      have HX := Lib.hid (And.intro hx1 (And.intro hx2 hx3))
      clear hx1 hx2 hx3
      have Hb := Lib.hid hb
      have hb1 : Below wr.heap.size wr (wr.alloc (.cells #[.int .i64 x1, .int .i64 x2, .int .i64 x3] 35)) := (Below.refl _ _).alloc (Nat.le_refl _) _
      have Hb1 := Lib.hid hb1
      obtain ⟨d0, d1, d2⟩ := row3 (heap_alloc_new wr (.cells #[.int .i64 x1, .int .i64 x2, .int .i64 x3] 35))
      clear hb1 hb
      go_wp2_with fail
      refine (putI w.heap.size (w.heap.size + 1) L x1 x2 x3 _ (HLk.out.1.kept Hb1.out) (Nat.le_trans Hb.out.size Hb1.out.size)).mono ?_
      rintro e w6 ⟨⟨v, rfl⟩, ⟨k', b', hp', hl'⟩, hb6⟩
      have hnx : Hid (HList w.heap.size w6 (w.heap.size + 1) (L ++ [⟨b', x1, x2, x3⟩]) ∧ RdN (L ++ [⟨b', x1, x2, x3⟩]) d.t d.c d.s (k + 1)) := by
        have e := hp'.one hasc.out
        rw [e, List.insertIdx_length_self] at hl'
        refine ⟨hl', ?_⟩
        rw [← HX.out.1, ← HX.out.2.1, ← HX.out.2.2]
        exact HRd.out.snoc
      have hb7 := (Hb.out.trans (Hb1.out.mono Hb.out.size)).trans hb6
      clear hp' hl' hb6 c1 c2 c3 d0 d1 d2
      go_wp2
      go_roundw
      case rel => exact ⟨k + 1, by omega, by go_num, _, hnx.out, hb7⟩
      case measure => simp [intOf]; omega
    · obtain rfl : k = d.nH := by omega
      go_wp2
      go_ret
      exact ⟨⟨_, L, rfl, HLk.out.1, HLk.out.2⟩, hb⟩
end Go.Proofs.Ytmlkjlipjkmcfaa
