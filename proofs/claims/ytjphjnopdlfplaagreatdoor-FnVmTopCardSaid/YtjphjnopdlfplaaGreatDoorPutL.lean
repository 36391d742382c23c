/-
  Values laid one behind the other, into a list and into a block.
-/
import Derived.Test.YtjphjnopdlfplaaGreatDoorJ1
import Derived.OwnWalk
namespace Go.Proofs.YtjphjnopdlfplaaGreatDoor
open Go.RowKit
set_option linter.unusedVariables false
set_option linter.unusedSimpArgs false

/-- Values are laid one behind the other, into a list and into a block. -/
def putL : List Value → Nat → List Value → List Value
  | xs, _, [] => xs
  | xs, o, v :: vs => putL (xs.set o v) (o + 1) vs
def setL : World → Nat → Nat → List Value → World
  | W, _, _, [] => W
  | W, g, o, v :: vs => setL (W.setCell ⟨g, o, none⟩ v) g (o + 1) vs
theorem putL_len : ∀ (vs xs : List Value) (o : Nat), (putL xs o vs).length = xs.length
  | [], xs, o => rfl
  | v :: vs, xs, o => by rw [putL, putL_len vs]; simp
theorem putL_ne : ∀ (vs xs : List Value) (o i : Nat), (i < o ∨ o + vs.length ≤ i) → (putL xs o vs)[i]? = xs[i]?
  | [], xs, o, i, h => rfl
  | v :: vs, xs, o, i, h => by
    rw [putL, putL_ne vs _ (o + 1) i (by simp at h; omega), List.getElem?_set_ne (by simp at h; omega)]
theorem putL_at : ∀ (vs xs : List Value) (o m : Nat), m < vs.length → o + vs.length ≤ xs.length → (putL xs o vs)[o + m]? = vs[m]?
  | [], xs, o, m, h, _ => by simp at h
  | v :: vs, xs, o, 0, h, hl => by
    rw [putL, putL_ne vs _ (o + 1) (o + 0) (by omega), Nat.add_zero, List.getElem?_set_self (by simp at hl; omega)]
    rfl
  | v :: vs, xs, o, m + 1, h, hl => by
    have e : o + (m + 1) = o + 1 + m := by omega
    rw [putL, e, putL_at vs _ (o + 1) m (by simpa using h) (by simp at hl ⊢; omega)]
    rfl
theorem own_setL {base T size cap n g : Nat} : ∀ (vs : List Value) (o : Nat) (W : World) (xs : List Value), W.ownsRow base T size (.slice (some ⟨g, 0, none⟩) n cap) n xs → (setL W g o vs).ownsRow base T size (.slice (some ⟨g, 0, none⟩) n cap) n (putL xs o vs)
  | [], o, W, xs, h => h
  | v :: vs, o, W, xs, h => own_setL vs (o + 1) _ _ (h.stored o v).1
theorem grown_setL {g : Nat} : ∀ (vs : List Value) (o : Nat) (W : World), W.grownBy (setL W g o vs) (some g)
  | [], o, W => ⟨rfl, rfl, rfl, Nat.le_refl _, fun _ _ _ => rfl⟩
  | v :: vs, o, W => grown_trans (grown_set W ⟨g, o, none⟩ v) (grown_setL vs (o + 1) _)
end Go.Proofs.YtjphjnopdlfplaaGreatDoor
