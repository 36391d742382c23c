/-
  What DrawMoneyAdd and DrawMoneyPart draw: ints within bounds, in a world that has only grown.
-/
import Derived.Test.YtnhniglldkmanaaDrawMoney
import Derived.Deep.RegionWith
namespace Go.Proofs.Ytnhniglldkmanaa
open Go.RowKit
set_option linter.unusedVariables false

def DrawnTwo (w : World) (e : Ending) (w' : World) : Prop :=
  ∃ x y : Int, -1000000000001 ≤ x ∧ x ≤ 1000000000001 ∧ -1000000000001 ≤ y ∧ y ≤ 1000000000001 ∧ e = .returned (.tuple #[.int .i64 x, .int .i64 y]) ∧ Below w.heap.size w w'
def DrawnThree (w : World) (e : Ending) (w' : World) : Prop :=
  ∃ x y z : Int, -1000000000000 ≤ x ∧ x ≤ 1000000000000 ∧ -1 ≤ y ∧ y ≤ 1000001 ∧ 0 ≤ z ∧ z ≤ 1000000 ∧ e = .returned (.tuple #[.int .i64 x, .int .i64 y, .int .i64 z]) ∧ Below w.heap.size w w'

theorem below_step {w w1 w2 : World} (h : Below w.heap.size w w1) (hg : w1.grownBy w2 (some w.heap.size)) : Below w.heap.size w w2 :=
  h.grown hg h.size (fun k e => by cases e; exact Nat.le_refl _)

theorem rd_drew {B : Nat} {w : World} {b p : Nat} (h : Rd B w b p) : Rd B w.drew b p := h.kept (Below.refl _ _).drew rfl

theorem rd_ne {B : Nat} {w : World} {b p : Nat} (h : Rd B w b p) : w.heap.size ≠ b := by have := h.le; omega
theorem lit_here (vs : List Int) (lo hi : Int) (hv : ∀ v ∈ vs, lo ≤ v ∧ v ≤ hi) (i : Nat) (hi' : i < vs.length) :
    ∃ y : Int, lo ≤ y ∧ y ≤ hi ∧ ∀ h, (vs.map (Value.int .i64))[i]'h = .int .i64 y := by
  have hm : vs[i] ∈ vs := List.getElem_mem _
  exact ⟨vs[i], (hv _ hm).1, (hv _ hm).2, fun h => by simp⟩

end Go.Proofs.Ytnhniglldkmanaa
