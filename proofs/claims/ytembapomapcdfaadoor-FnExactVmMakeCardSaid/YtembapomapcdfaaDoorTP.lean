/-
  A drawn region 'x, y = f(..), g(..)': what holds between its operations, in whatever order, of what both calls make.
-/
import Derived.Test.YtembapomapcdfaaDoorFree
namespace Go.Proofs.YtembapomapcdfaaDoor
open Go.RowKit
set_option linter.unusedVariables false

/-- S: what each slot holds; p, q: the two calls, R: what holds of both; i1, i2: where they are put. -/
structure TP (wy : World) (S : Nat → World → Value → Prop) (p q i1 i2 : Nat) (R : World → Value → Value → Prop) (L : Nat → Bool) (f : Nat → Value) (W : World) : Prop where
  inv : Below wy.heap.size wy W
  pre : ∀ i, L i = true → S i W (f i)
  both : L p = true → L q = true → R W (f p) (f q)
  c1 : L i1 = true → f i1 = f p
  c2 : L i2 = true → f i2 = f q
section
variable {wy : World} {S : Nat → World → Value → Prop} {p q i1 i2 : Nat} {R : World → Value → Value → Prop} {L : Nat → Bool} {f : Nat → Value} {W W' : World}
theorem TP.start (h : Below wy.heap.size wy W) : TP wy S p q i1 i2 R (fun _ => false) f W := ⟨h, fun _ a => (by cases a), fun a => (by cases a), fun a => (by cases a), fun a => (by cases a)⟩
theorem TP.op (h : TP wy S p q i1 i2 R L f W) {i : Nat} {v : Value} (hb : Below W.heap.size W W') (hS : ∀ j v, S j W v → S j W' v) (hR : ∀ a b, R W a b → R W' a b) (hv : S i W' v)
    (hpq : p ≠ q) (hp : i = p → L q = true → R W' v (f q)) (hq : i = q → L p = true → R W' (f p) v) (n1 : i = p → L i1 = false) (n2 : i = q → L i2 = false)
    (d1 : i1 ≠ p) (d2 : i2 ≠ q) (d3 : i1 ≠ q) (d4 : i2 ≠ p) (d5 : i1 ≠ i2) (e1 : i = i1 → v = f p) (e2 : i = i2 → v = f q) : TP wy S p q i1 i2 R (upd L i true) (upd f i v) W' := by
  refine ⟨h.inv.trans (hb.mono h.inv.size), fun j hj => ?_, fun a b => ?_, fun a => ?_, fun a => ?_⟩
  · by_cases e : j = i
    · subst e; rw [upd_self]; exact hv
    · rw [upd_ne _ _ e] at hj ⊢; exact hS _ _ (h.pre j hj)
  · by_cases ep : i = p
    · subst ep
      rw [upd_ne _ _ (Ne.symm hpq)] at b ⊢
      rw [upd_self]; exact hp rfl b
    · rw [upd_ne _ _ (Ne.symm ep)] at a ⊢
      by_cases eq : i = q
      · subst eq; rw [upd_self]; exact hq rfl a
      · rw [upd_ne _ _ (Ne.symm eq)] at b ⊢; exact hR _ _ (h.both a b)
  · by_cases ep : i = p
    · subst ep
      rw [upd_ne _ _ d1] at a; rw [n1 rfl] at a; cases a
    · rw [upd_ne f _ (Ne.symm ep)]
      by_cases ei : i = i1
      · subst ei; rw [upd_self]; exact e1 rfl
      · rw [upd_ne _ _ (Ne.symm ei)] at a ⊢; exact h.c1 a
  · by_cases eq : i = q
    · subst eq
      rw [upd_ne _ _ d2] at a; rw [n2 rfl] at a; cases a
    · rw [upd_ne f _ (Ne.symm eq)]
      by_cases ei : i = i2
      · subst ei; rw [upd_self]; exact e2 rfl
      · rw [upd_ne _ _ (Ne.symm ei)] at a ⊢; exact h.c2 a
end
end Go.Proofs.YtembapomapcdfaaDoor
