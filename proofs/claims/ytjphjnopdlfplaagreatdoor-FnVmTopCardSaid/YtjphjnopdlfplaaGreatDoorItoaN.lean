/-
  What the library's Itoa returns at a number that is not below nought, and what stays in the world.
-/
import Derived.Test.YtjphjnopdlfplaaGreatDoorDecN
import Derived.Test.YtjphjnopdlfplaaGreatDoorDoor3
import Derived.Test.YtjphjnopdlfplaaGreatDoorJ8
import Derived.Lib.SmallJoins
namespace Go.Proofs.YtjphjnopdlfplaaGreatDoor
open Go.RowKit
set_option linter.unusedVariables false

theorem below_grow (w : World) (k : Nat) (os : Array Obj) : Below w.heap.size w (Sort.grow (w.drewN k) os) :=
  ⟨rfl, rfl, rfl, by simp [Sort.grow, World.drewN], fun i hi => by
    show (w.heap ++ os)[i]? = _
    rw [Array.getElem?_append_left hi]⟩
theorem laid_stays {w w' : World} (h : Laid w) (hb : Below w.heap.size w w') : Laid w' := Joins.tab_stays gTab h hb (Nat.le_refl _)
end Go.Proofs.YtjphjnopdlfplaaGreatDoor
