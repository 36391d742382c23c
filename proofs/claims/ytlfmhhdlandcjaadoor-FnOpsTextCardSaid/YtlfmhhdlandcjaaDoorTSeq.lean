/-
  A drawn region whose last operation alone is seen behind it.
-/
import Derived.Test.YtlfmhhdlandcjaaDoorFree
namespace Go.Proofs.YtlfmhhdlandcjaaDoor
open Go.RowKit
set_option linter.unusedVariables false

/-- A region whose last operation alone is seen behind it. -/
structure TS (m : Nat) (I : Nat → World → Prop) (S : Nat → Value → Prop) (R : World → Prop) (k : Nat) (L : Nat → Bool) (f : Nat → Value) (W : World) : Prop where
  inv : L m = false → I k W
  pre : ∀ i, i < m → L i = true → L m = false → S i (f i)
  done : L m = true → R W
theorem TS.start {m : Nat} {I : Nat → World → Prop} {S : Nat → Value → Prop} {R : World → Prop} {f : Nat → Value} {W : World} (h : I 0 W) : TS m I S R 0 (fun _ => false) f W := ⟨fun _ => h, fun _ _ a => (by cases a), fun a => (by cases a)⟩
theorem TS.pre_op {m k : Nat} {I : Nat → World → Prop} {S : Nat → Value → Prop} {R : World → Prop} {L : Nat → Bool} {f : Nat → Value} {W W' : World} (h : TS m I S R k L f W) {i : Nat} {v : Value} (hi : i < m) (hm : L m = false) (hI : I (k + 1) W') (hv : S i v) : TS m I S R (k + 1) (upd L i true) (upd f i v) W' := by
  refine ⟨fun _ => hI, fun j hj hL _ => ?_, ?_⟩
  · by_cases e : j = i
    · subst e; rw [upd_self]; exact hv
    · rw [upd_ne _ _ e] at hL ⊢; exact h.pre j hj hL hm
  · rw [upd_ne _ _ (by omega), hm]; exact fun a => by cases a
theorem TS.end_op {m k : Nat} {I : Nat → World → Prop} {S : Nat → Value → Prop} {R : World → Prop} {L : Nat → Bool} {f : Nat → Value} {W' : World} (v : Value) (hR : R W') : TS m I S R (k + 1) (upd L m true) (upd f m v) W' :=
  ⟨fun a => (by rw [upd_self] at a; cases a), fun _ _ _ a => (by rw [upd_self] at a; cases a), fun _ => hR⟩
end Go.Proofs.YtlfmhhdlandcjaaDoor
