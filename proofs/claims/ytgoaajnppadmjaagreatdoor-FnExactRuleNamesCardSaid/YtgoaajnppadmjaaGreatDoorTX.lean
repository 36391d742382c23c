/-
  A drawn region 'x = append(x, ..)': what holds between its operations, in whatever order.
-/
import Derived.Test.YtgoaajnppadmjaaGreatDoorFree
namespace Go.Proofs.YtgoaajnppadmjaaGreatDoor
open Go.RowKit
set_option linter.unusedVariables false

structure TX (m : Nat) (I : Nat → World → Prop) (S : Nat → World → Value → Prop) (v0 : Value) (M : Value → World → Prop) (k : Nat) (L : Nat → Bool) (f : Nat → Value) (W : World) : Prop where
  inv : L m = false → I k W
  pre : ∀ i, i < m → L i = true → L m = false → S i W (f i)
  zero : L (m + 1) = false → f (m + 1) = v0
  mid : L m = true → M (f m) W
  fin : L (m + 1) = true → M (f (m + 1)) W
section
variable {m k : Nat} {I : Nat → World → Prop} {S : Nat → World → Value → Prop} {v0 : Value} {M : Value → World → Prop} {L : Nat → Bool} {f : Nat → Value} {W W' : World}
theorem TX.start (h0 : f (m + 1) = v0) (h : I 0 W) : TX m I S v0 M 0 (fun _ => false) f W := ⟨fun _ => h, fun _ _ a => (by cases a), fun _ => h0, fun a => (by cases a), fun a => (by cases a)⟩
theorem TX.pre_op (h : TX m I S v0 M k L f W) {i : Nat} {v : Value} (hi : i < m) (hm : L m = false) (hm1 : L (m + 1) = false) (hI : I (k + 1) W') (hS : ∀ j v, S j W v → S j W' v) (hv : S i W' v) : TX m I S v0 M (k + 1) (upd L i true) (upd f i v) W' := by
  have u : ∀ {α : Type} (g : Nat → α) (x : α) (j : Nat), m ≤ j → upd g i x j = g j := fun g x j hj => upd_ne g x (by omega)
  refine ⟨fun _ => hI, fun j hj hL _ => ?_, ?_, ?_, ?_⟩
  · by_cases e : j = i
    · subst e; rw [upd_self]; exact hv
    · rw [upd_ne _ _ e] at hL ⊢; exact hS _ _ (h.pre j hj hL hm)
  · rw [u _ _ _ (by omega), u _ _ _ (by omega)]; exact h.zero
  · rw [u _ _ _ (Nat.le_refl _), hm]; exact fun a => by cases a
  · rw [u _ _ _ (by omega), hm1]; exact fun a => by cases a
theorem TX.app_op (h : TX m I S v0 M k L f W) {v : Value} (hm1 : L (m + 1) = false) (hM : M v W') : TX m I S v0 M (k + 1) (upd L m true) (upd f m v) W' := by
  have u : ∀ {α : Type} (g : Nat → α) (x : α) (j : Nat), j ≠ m → upd g m x j = g j := fun g x j hj => upd_ne g x hj
  refine ⟨fun a => (by rw [upd_self] at a; cases a), fun _ _ _ a => (by rw [upd_self] at a; cases a), ?_, fun _ => (by rw [upd_self]; exact hM), ?_⟩
  · rw [u _ _ _ (by omega), u _ _ _ (by omega)]; exact h.zero
  · rw [u _ _ _ (by omega), hm1]; exact fun a => by cases a
theorem TX.fin_op (h : TX m I S v0 M k L f W) {v : Value} (hm : L m = true) (hv : v = f m) : TX m I S v0 M (k + 1) (upd L (m + 1) true) (upd f (m + 1) v) W := by
  have u : ∀ {α : Type} (g : Nat → α) (x : α) (j : Nat), j ≠ m + 1 → upd g (m + 1) x j = g j := fun g x j hj => upd_ne g x hj
  refine ⟨?_, fun j hj _ => ?_, fun a => (by rw [upd_self] at a; cases a), ?_, fun _ => ?_⟩
  · rw [u _ _ _ (by omega), hm]; exact fun a => by cases a
  · rw [u _ _ _ (by omega), hm]; exact fun a => by cases a
  · rw [u _ _ _ (by omega), u _ _ _ (by omega)]; exact h.mid
  · rw [upd_self, hv]; exact h.mid hm
end
end Go.Proofs.YtgoaajnppadmjaaGreatDoor
