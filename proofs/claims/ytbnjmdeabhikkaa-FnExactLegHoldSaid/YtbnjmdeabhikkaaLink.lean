/-
  What is held of a leg as the program's linked list has it: in memory; finding a place in it.
-/
import Derived.Test.YtbnjmdeabhikkaaLegRoom
import Derived.Deep.LoopGhost
namespace Go.Proofs.Ytbnjmdeabhikkaa
open Go.RowKit
set_option linter.unusedVariables false
set_option linter.unusedSimpArgs false

/-- A link: its block, and what is held. -/
structure Nd where
  b : Nat
  t : Int
  c : Int
  s : Int
def ptrO : Option Nd → Value
  | some n => .pointer (some ⟨n.b, 0, none⟩)
  | none => .pointer none
def ptrAt (L : List Nd) (k : Nat) : Value := ptrO L[k]?
def slotA (h : Nat) (L : List Nd) : Nat → Addr
  | 0 => ⟨h, 0, none⟩
  | k + 1 => match L[k]? with
    | some n => ⟨n.b, 3, none⟩
    | none => ⟨h, 0, none⟩
def NdC (n : Nd) (v : Value) : Array Value := #[.int .i64 n.t, .int .i64 n.c, .int .i64 n.s, v]
structure HList (B : Nat) (w : World) (h : Nat) (L : List Nd) : Prop where
  low : B ≤ h
  lows : ∀ (k : Nat) (n : Nd), L[k]? = some n → B ≤ n.b
  head : w.heap[h]? = some (.cells #[ptrAt L 0] 77 (0, 0))
  node : ∀ (k : Nat) (n : Nd), L[k]? = some n → w.heap[n.b]? = some (.cells (NdC n (ptrAt L (k + 1))) 81 (0, 0))
  far : ∀ (k : Nat) (n : Nd), L[k]? = some n → n.b ≠ h
  one : ∀ (i j : Nat) (m n : Nd), L[i]? = some m → L[j]? = some n → m.b = n.b → i = j
theorem HList.kept {B : Nat} {w w' : World} {h : Nat} {L : List Nd} (H : HList B w h L) (hb : Below w.heap.size w w') : HList B w' h L :=
  ⟨H.low, H.lows, (hb.block _ (lt_heap H.head)).trans H.head, fun k n hk => (hb.block _ (lt_heap (H.node k n hk))).trans (H.node k n hk), H.far, H.one⟩
theorem HList.slot {B : Nat} {w : World} {h : Nat} {L : List Nd} (H : HList B w h L) (k : Nat) (hk : k ≤ L.length) : w.cell? (slotA h L k) = some (ptrAt L k) ∧ w.frozen? (slotA h L k) = false := by
  cases k with
  | zero => exact ⟨by rw [show slotA h L 0 = ⟨h, 0, none⟩ from rfl, Lib.cell_of_heap H.head]; rfl, Lib.frozen_of_heap H.head 0⟩
  | succ k =>
    have hlt : k < L.length := hk
    have e := List.getElem?_eq_getElem hlt
    have hs : slotA h L (k + 1) = ⟨L[k].b, 3, none⟩ := by simp [slotA, e]
    rw [hs]
    exact ⟨by rw [Lib.cell_of_heap (H.node k _ e)]; rfl, Lib.frozen_of_heap (H.node k _ e) 3⟩
theorem slotA_next {h k : Nat} {L : List Nd} {n : Nd} (hk : L[k]? = some n) : slotA h L (k + 1) = ⟨n.b, 3, none⟩ := by simp [slotA, hk]
theorem HList.cells {B : Nat} {w : World} {h k : Nat} {L : List Nd} {n : Nd} (H : HList B w h L) (hk : L[k]? = some n) :
    w.cell? ⟨n.b, 0, none⟩ = some (.int .i64 n.t) ∧ w.cell? ⟨n.b, 1, none⟩ = some (.int .i64 n.c) ∧ w.cell? ⟨n.b, 2, none⟩ = some (.int .i64 n.s) ∧ w.cell? ⟨n.b, 3, none⟩ = some (ptrAt L (k + 1)) := by
  have hn := H.node k n hk
  refine ⟨?_, ?_, ?_, ?_⟩ <;> (rw [Lib.cell_of_heap hn]; rfl)
/-- The place of a transaction: all ahead of it have lower ones. -/
def AtPos (L : List Nd) (txn : Int) (k : Nat) : Prop := k ≤ L.length ∧ (∀ (i : Nat) (n : Nd), i < k → L[i]? = some n → n.t < txn) ∧ (∀ n : Nd, L[k]? = some n → txn ≤ n.t)

set_option maxHeartbeats 4000000 in
theorem atI (B h : Nat) (L : List Nd) (txn : Int) (w : World) (H : HList B w h L) :
    Calls Try.prog 75 #[.pointer (some ⟨h, 0, none⟩), .int .i64 txn] w fun e w' => (∃ k, AtPos L txn k ∧ e = .returned (.pointer (some (slotA h L k)))) ∧ w = w' := by
  have HH := Lib.hid H
  clear H
  go_enter Try.func75, Try.ntmps75
  go_wp2_with fail
  go_loopg [5] (L.length) (fun m p wr => ∃ k, m = L.length - k ∧ k ≤ L.length ∧ p = .pointer (some (slotA h L k)) ∧ Hid (∀ (i : Nat) (n : Nd), i < k → L[i]? = some n → n.t < txn) ∧ w = wr)
  case atStart => exact ⟨0, rfl, Nat.zero_le _, rfl, fun i n hi => absurd hi (Nat.not_lt_zero _), rfl⟩
  case round =>
    obtain ⟨k, hm, hk, rfl, hto, rfl⟩ := hrel
    have HM := Lib.hid hm
    clear hm
    obtain ⟨cA, -⟩ := HH.out.slot k hk
    cases hx : L[k]? with
    | none =>
      have hpos : Hid (AtPos L txn k) := ⟨hk, hto.out, fun n hn => by rw [hx] at hn; cases hn⟩
      rw [show ptrAt L k = .pointer none from by unfold ptrAt; rw [hx]; rfl] at cA
      have HX := Lib.hid hx
      clear hx
      obtain ⟨A, hA⟩ : ∃ A, A = slotA h L k := ⟨_, rfl⟩
      have HA := Lib.hid hA
      rw [← hA] at cA ⊢
      clear hA
      go_wp2
      go_ret
      exact ⟨⟨k, hpos.out, by rw [HA.out]; rfl⟩, rfl⟩
    | some n =>
      have hlt : k < L.length := by
        rcases Nat.lt_or_ge k L.length with h1 | h1
        · exact h1
        · rw [List.getElem?_eq_none h1] at hx; cases hx
      obtain ⟨c0, -, -, -⟩ := HH.out.cells hx
      rw [show ptrAt L k = .pointer (some ⟨n.b, 0, none⟩) from by unfold ptrAt; rw [hx]; rfl] at cA
      have hnext := slotA_next (h := h) hx
      have HX := Lib.hid hx
      have HN := Lib.hid hnext
      clear hx hnext
      obtain ⟨A, hA⟩ : ∃ A, A = slotA h L k := ⟨_, rfl⟩
      have HA := Lib.hid hA
      rw [← hA] at cA ⊢
      clear hA
      rcases Int.lt_or_le n.t txn with hlt2 | hge
      · have hnx : Hid (∀ (i : Nat) (m : Nd), i < k + 1 → L[i]? = some m → m.t < txn) := by
          intro i m hi hm
          rcases Nat.lt_or_ge i k with h1 | h1
          · exact hto.out i m h1 hm
          · obtain rfl : i = k := by omega
            rw [HX.out] at hm
            cases hm
            exact hlt2
        go_wp2
        go_roundg (L.length - (k + 1))
        case measure => rw [HM.out]; omega
        case rel => exact ⟨k + 1, rfl, hlt, by rw [HN.out], hnx.out, rfl⟩
      · have hpos : Hid (AtPos L txn k) := ⟨hk, hto.out, fun m hm => by rw [HX.out] at hm; cases hm; exact hge⟩
        go_wp2
        go_ret
        exact ⟨⟨k, hpos.out, by rw [HA.out]; rfl⟩, rfl⟩
end Go.Proofs.Ytbnjmdeabhikkaa
