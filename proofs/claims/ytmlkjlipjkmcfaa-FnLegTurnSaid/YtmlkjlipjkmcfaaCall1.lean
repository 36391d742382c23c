/-
  'l = f(l, ..)' as a region that draws its order, l a leg in its box: what holds between its operations.
-/
import Derived.Test.YtmlkjlipjkmcfaaSoldMath
namespace Go.Proofs.Ytmlkjlipjkmcfaa
open Go.RowKit
set_option linter.unusedVariables false
set_option linter.unusedSimpArgs false

structure T1 (m bx : Nat) (I : Nat → World → Prop) (S : Nat → World → Value → Prop) (R : LegD → LegP → World → Prop) (k : Nat) (L : Nat → Bool) (f : Nat → Value) (W : World) : Prop where
  inv : L m = false → L (m + 1) = false → I k W
  pre : ∀ i, i < m → L i = true → L m = false → S i W (f i)
  call : L m = true → L (m + 1) = false → ∃ dd q, f m = LegV dd q ∧ R dd q W
  done : L (m + 1) = true → ∃ dd q W0, R dd q W0 ∧ W = W0.setRow bx (LegC dd q)
section
variable {m bx : Nat} {I : Nat → World → Prop} {S : Nat → World → Value → Prop} {R : LegD → LegP → World → Prop} {k : Nat} {L : Nat → Bool} {f : Nat → Value} {W W' : World}
theorem T1.start (h : I 0 W) : T1 m bx I S R 0 (fun _ => false) f W := ⟨fun _ _ => h, fun _ _ a => (by cases a), fun a => (by cases a), fun a => (by cases a)⟩
theorem T1.pre_op (h : T1 m bx I S R k L f W) {i : Nat} {v : Value} (hi : i < m) (hm : L m = false) (hm1 : L (m + 1) = false) (hI : I (k + 1) W') (hS : ∀ j v, S j W v → S j W' v) (hv : S i W' v) : T1 m bx I S R (k + 1) (upd L i true) (upd f i v) W' := by
  have u : ∀ {α : Type} (g : Nat → α) (x : α) (j : Nat), m ≤ j → upd g i x j = g j := fun g x j hj => upd_ne g x (by omega)
  refine ⟨fun _ _ => hI, ?_, ?_, ?_⟩
  · intro j hj hL _
    by_cases e : j = i
    · subst e; rw [upd_self]; exact hv
    · rw [upd_ne _ _ e] at hL ⊢; exact hS _ _ (h.pre j hj hL hm)
  · rw [u _ _ _ (Nat.le_refl _), hm]; exact fun a => by cases a
  · rw [u _ _ _ (by omega), hm1]; exact fun a => by cases a
theorem T1.call_op (h : T1 m bx I S R k L f W) {dd : LegD} {q : LegP} (hm1 : L (m + 1) = false) (hR : R dd q W') : T1 m bx I S R (k + 1) (upd L m true) (upd f m (LegV dd q)) W' := by
  refine ⟨fun a => (by rw [upd_self] at a; cases a), fun _ _ _ a => (by rw [upd_self] at a; cases a), fun _ _ => ⟨dd, q, upd_self _ _ _, hR⟩, ?_⟩
  rw [upd_ne _ _ (by omega), hm1]; exact fun a => by cases a
theorem T1.store_op (h : T1 m bx I S R k L f W) (hm : L m = true) (hm1 : L (m + 1) = false) : ∃ dd q, f m = LegV dd q ∧ R dd q W ∧ ∀ v, T1 m bx I S R (k + 1) (upd L (m + 1) true) (upd f (m + 1) v) (W.setRow bx (LegC dd q)) := by
  obtain ⟨dd, q, h1, h2⟩ := h.call hm hm1
  refine ⟨dd, q, h1, h2, fun v => ⟨fun _ a => (by rw [upd_self] at a; cases a), fun i hi _ a => (by rw [upd_ne _ _ (by omega), hm] at a; cases a), fun _ a => (by rw [upd_self] at a; cases a), fun _ => ⟨dd, q, W, h2, rfl⟩⟩⟩
end
end Go.Proofs.Ytmlkjlipjkmcfaa
