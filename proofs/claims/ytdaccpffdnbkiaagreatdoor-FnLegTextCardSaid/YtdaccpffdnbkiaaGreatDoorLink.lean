/-
  What is held of a leg as the program's linked list has it: in memory; finding a place in it.
  What is held of a leg as the program's linked list has it: asked, put in, taken out.
  What is held of a leg as the program's linked list has it: put in, taken out.
  What is held of a leg as the program's linked list has it: gone over, and collected into a list of its own.
  What is held of a leg, put into a linked list one by one.
-/
import Derived.Test.YtdaccpffdnbkiaaGreatDoorJ20
import Derived.Deep.LoopGhost
import Derived.Sort.LoopGhostIn
import Derived.RangeFuncBox
import Derived.RangeFuncWrites
import Derived.Deep.AppendLies
namespace Go.Proofs.YtdaccpffdnbkiaaGreatDoor
open Go.RowKit
set_option linter.unusedVariables false
set_option linter.unusedSimpArgs false

/-- A link: its block, and what is held. -/
structure Nd where
  b : Nat
  t : Int
  c : Int
  s : Int
def ptrO : Option Nd → Value
  | some n => .pointer (some ⟨n.b, 0, none⟩)
  | none => .pointer none
def ptrAt (L : List Nd) (k : Nat) : Value := ptrO L[k]?
def slotA (h : Nat) (L : List Nd) : Nat → Addr
  | 0 => ⟨h, 0, none⟩
  | k + 1 => match L[k]? with
    | some n => ⟨n.b, 3, none⟩
    | none => ⟨h, 0, none⟩
def NdC (n : Nd) (v : Value) : Array Value := #[.int .i64 n.t, .int .i64 n.c, .int .i64 n.s, v]
theorem slotA_next {h k : Nat} {L : List Nd} {n : Nd} (hk : L[k]? = some n) : slotA h L (k + 1) = ⟨n.b, 3, none⟩ := by simp [slotA, hk]
/-- The place of a transaction: all ahead of it have lower ones. -/
def AtPos (L : List Nd) (txn : Int) (k : Nat) : Prop := k ≤ L.length ∧ (∀ (i : Nat) (n : Nd), i < k → L[i]? = some n → n.t < txn) ∧ (∀ n : Nd, L[k]? = some n → txn ≤ n.t)

end Go.Proofs.YtdaccpffdnbkiaaGreatDoor
namespace Go.Proofs.YtdaccpffdnbkiaaGreatDoor
open Go.RowKit
set_option linter.unusedVariables false
set_option linter.unusedSimpArgs false
theorem AtPos.one {L : List Nd} {t : Int} {k j : Nat} (h : AtPos L t k) (g : AtPos L t j) : k = j := by
  rcases Nat.lt_trichotomy k j with hlt | rfl | hlt
  · have e := List.getElem?_eq_getElem (l := L) (i := k) (by have := g.1; omega)
    have := h.2.2 _ e
    have := g.2.1 k _ hlt e
    omega
  · rfl
  · have e := List.getElem?_eq_getElem (l := L) (i := j) (by have := h.1; omega)
    have := g.2.2 _ e
    have := h.2.1 j _ hlt e
    omega
/-- Whether something is held for a transaction. -/
def Has (L : List Nd) (txn : Int) : Prop := ∃ (k : Nat) (n : Nd), AtPos L txn k ∧ L[k]? = some n ∧ n.t = txn

theorem set_same {w : World} {b i : Nat} {cs : Array Value} {t : TypeId} (h : w.heap[b]? = some (.cells cs t (0, 0))) (v : Value) : (w.setCell ⟨b, i, none⟩ v).heap[b]? = some (.cells (cs.setIfInBounds i v) t (0, 0)) := by
  simp [World.setCell, Array.getElem?_modify, h]
theorem set_other {w : World} {b b' i : Nat} (v : Value) (h : b ≠ b') : (w.setCell ⟨b', i, none⟩ v).heap[b]? = w.heap[b]? := Below.heap_setCell _ _ _ _ h
theorem slotA_spot (h : Nat) (L : List Nd) (k : Nat) : ∃ b i, slotA h L k = ⟨b, i, none⟩ := by
  cases k with
  | zero => exact ⟨_, _, rfl⟩
  | succ k =>
    cases e : L[k]? with
    | none => exact ⟨h, 0, by simp only [slotA, e]⟩
    | some n => exact ⟨n.b, 3, by simp only [slotA, e]⟩

end Go.Proofs.YtdaccpffdnbkiaaGreatDoor
namespace Go.Proofs.YtdaccpffdnbkiaaGreatDoor
open Go.RowKit
set_option linter.unusedVariables false
set_option linter.unusedSimpArgs false
theorem ptrAt_ptr (L : List Nd) (k : Nat) : ∃ q, ptrAt L k = .pointer q := by
  unfold ptrAt
  cases L[k]? with
  | none => exact ⟨none, rfl⟩
  | some n => exact ⟨_, rfl⟩
/-- What is taken out: what is held for the transaction, nothing if nothing is. -/
def Taken (L : List Nd) (txn : Int) (x y z : Int) (M : List Nd) : Prop := ∃ k, AtPos L txn k ∧ ((∃ n, L[k]? = some n ∧ n.t = txn ∧ x = n.t ∧ y = n.c ∧ z = n.s ∧ M = L.eraseIdx k) ∨ ((∀ n, L[k]? = some n → n.t ≠ txn) ∧ x = 0 ∧ y = 0 ∧ z = 0 ∧ M = L))

end Go.Proofs.YtdaccpffdnbkiaaGreatDoor
namespace Go.Proofs.YtdaccpffdnbkiaaGreatDoor
open Go.RowKit Go.Shelf
set_option linter.unusedVariables false
set_option linter.unusedSimpArgs false
def encN (n : Nd) : Array Value := #[.agg #[.int .i64 n.t, .int .i64 n.c, .int .i64 n.s]]
def flatN (L : List Nd) : List Value := L.flatMap fun n => [.int .i64 n.t, .int .i64 n.c, .int .i64 n.s]
theorem flatN_snoc (L : List Nd) (n : Nd) : flatN (L ++ [n]) = flatN L ++ [.int .i64 n.t, .int .i64 n.c, .int .i64 n.s] := by simp [flatN]
def NdH (n : Nd) : Array Value := #[.int .i64 n.t, .int .i64 n.c, .int .i64 n.s]
theorem take_snocN {L : List Nd} {k : Nat} {n : Nd} (h : L[k]? = some n) : L.take (k + 1) = L.take k ++ [n] := by
  rw [List.take_add_one, h]; rfl

theorem hold_ne : 23 ≠ 58 := by decide
/-- The list of what is held as a slice has it. -/
def tN (L : List Nd) (i : Nat) : Int := (L.map (·.t)).getD i 0
def cN (L : List Nd) (i : Nat) : Int := (L.map (·.c)).getD i 0
def sN (L : List Nd) (i : Nat) : Int := (L.map (·.s)).getD i 0
theorem flatN_at : ∀ (L : List Nd) (i : Nat), i < L.length → (flatN L)[i * 3]? = some (.int .i64 (tN L i)) ∧ (flatN L)[i * 3 + 1]? = some (.int .i64 (cN L i)) ∧ (flatN L)[i * 3 + 2]? = some (.int .i64 (sN L i))
  | [], i, h => absurd h (Nat.not_lt_zero _)
  | n :: L, 0, _ => ⟨rfl, rfl, rfl⟩
  | n :: L, i + 1, h => by
    have ih := flatN_at L i (by simpa using h)
    have e : flatN (n :: L) = [.int .i64 n.t, .int .i64 n.c, .int .i64 n.s] ++ flatN L := rfl
    have e3 : (i + 1) * 3 = i * 3 + 3 := by omega
    rw [e, e3]
    refine ⟨?_, ?_, ?_⟩
    · rw [List.getElem?_append_right (by simp)]; simpa [tN] using ih.1
    · rw [List.getElem?_append_right (by simp)]; simpa [cN] using ih.2.1
    · rw [List.getElem?_append_right (by simp)]; simpa [sN] using ih.2.2
theorem flatN_len (L : List Nd) : (flatN L).length = L.length * 3 := by
  induction L with
  | nil => rfl
  | cons n L ih => simp [flatN] at ih ⊢; omega
/-- What was collected: a slice that reads as the list, in memory of its own. -/
theorem own_holds {W : World} {base : Nat} {v : Value} {L : List Nd} (h : W.ownsRow base 58 3 v L.length (flatN L)) :
    ∃ a cap, v = .slice a L.length cap ∧ L.length ≤ cap ∧ Holds W a L.length (tN L) (cN L) (sN L) := by
  rcases h.2 with ⟨rfl, h0⟩ | ⟨g, cap, cur, rfl, hb, hg, hc, -⟩
  · exact ⟨none, 0, by rw [h0], by omega, .inl h0⟩
  · refine ⟨some ⟨g, 0, none⟩, cap, rfl, hc, .inr ⟨g, 0, rfl, lt_heap hg, fun i hi => ?_⟩⟩
    have hf := flatN_at L i hi
    have hl := flatN_len L
    rw [Nat.zero_add]
    exact ⟨(h.cellAt (i * 3) (by omega)).trans hf.1, (h.cellAt (i * 3 + 1) (by omega)).trans hf.2.1, (h.cellAt (i * 3 + 2) (by omega)).trans hf.2.2⟩
end Go.Proofs.YtdaccpffdnbkiaaGreatDoor

namespace Go.Proofs.YtdaccpffdnbkiaaGreatDoor
open Go.RowKit
set_option linter.unusedVariables false
set_option linter.unusedSimpArgs false

/-- The list has the first k of what is held. -/
def RdN (L : List Nd) (t c s : Nat → Int) (k : Nat) : Prop := L.length = k ∧ ∀ (i : Nat) (n : Nd), L[i]? = some n → n.t = t i ∧ n.c = c i ∧ n.s = s i
theorem RdN.snoc {L : List Nd} {t c s : Nat → Int} {k b : Nat} (h : RdN L t c s k) : RdN (L ++ [⟨b, t k, c k, s k⟩]) t c s (k + 1) := by
  refine ⟨by simp [h.1], fun i n hi => ?_⟩
  rcases Nat.lt_or_ge i L.length with h1 | h1
  · rw [List.getElem?_append_left h1] at hi; exact h.2 i n hi
  · rw [List.getElem?_append_right h1] at hi
    have : i - L.length = 0 := by
      rcases Nat.eq_zero_or_pos (i - L.length) with q | q
      · exact q
      · rw [List.getElem?_eq_none (by simp; omega)] at hi; cases hi
    rw [this] at hi
    have hik : i = k := by have := h.1; omega
    subst hik
    simp at hi
    subst hi
    exact ⟨rfl, rfl, rfl⟩
theorem RdN.tN {L : List Nd} {t c s : Nat → Int} {k : Nat} (h : RdN L t c s k) {i : Nat} (hi : i < k) : tN L i = t i ∧ cN L i = c i ∧ sN L i = s i := by
  have hl : i < L.length := by rw [h.1]; exact hi
  have e := List.getElem?_eq_getElem hl
  have := h.2 i _ e
  simp only [Go.Proofs.YtdaccpffdnbkiaaGreatDoor.tN, cN, sN, List.getD_eq_getElem?_getD, List.getElem?_map, e]
  exact this

end Go.Proofs.YtdaccpffdnbkiaaGreatDoor
