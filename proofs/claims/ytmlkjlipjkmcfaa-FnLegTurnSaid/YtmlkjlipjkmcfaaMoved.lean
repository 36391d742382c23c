/-
  Where a leg's lists lie behind a call: where they lay, or in memory that was made since.
-/
import Derived.Test.YtmlkjlipjkmcfaaLegDropMath
namespace Go.Proofs.Ytmlkjlipjkmcfaa
open Go.RowKit
set_option linter.unusedVariables false
set_option linter.unusedSimpArgs false

def NewAt (w : World) (a : Option Addr) : Prop := ∀ x, a = some x → w.heap.size ≤ x.block
def Moved (w : World) (n : Nat) (p p' : LegP) : Prop := p'.aL = p.aL ∧ p'.aB = p.aB ∧ (p'.aS = p.aS ∨ NewAt w p'.aS) ∧ (p'.aH = p.aH ∨ n = 0 ∨ NewAt w p'.aH)
theorem Moved.same (w : World) (n : Nat) (p : LegP) : Moved w n p p := ⟨rfl, rfl, .inl rfl, .inl rfl⟩
theorem HoldsR.newAt {lo hi : Nat} {W w : World} {a : Option Addr} {len : Nat} {t c s : Nat → Int} (h : HoldsR lo hi W a len t c s) (hw : w.heap.size ≤ lo) : len = 0 ∨ NewAt w a := by
  rcases h with h | ⟨g, ha, h1, -⟩
  · exact .inl h
  · refine .inr fun x hx => ?_
    rw [ha] at hx
    cases hx
    show w.heap.size ≤ g
    omega
end Go.Proofs.Ytmlkjlipjkmcfaa
