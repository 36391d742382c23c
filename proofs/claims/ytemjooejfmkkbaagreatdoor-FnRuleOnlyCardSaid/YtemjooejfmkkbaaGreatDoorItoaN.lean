/-
  What the library's Itoa returns at a number that is not below nought, and what stays in the world.
-/
import Derived.Test.YtemjooejfmkkbaaGreatDoorDecN
import Derived.Test.YtemjooejfmkkbaaGreatDoorDoor3
import Derived.Test.YtemjooejfmkkbaaGreatDoorShelf
import Derived.Lib.SmallJoins
namespace Go.Proofs.YtemjooejfmkkbaaGreatDoor
open Go.RowKit
set_option linter.unusedVariables false

theorem below_grow (w : World) (k : Nat) (os : Array Obj) : Below w.heap.size w (Sort.grow (w.drewN k) os) :=
  ⟨rfl, rfl, rfl, by simp [Sort.grow, World.drewN], fun i hi => by
    show (w.heap ++ os)[i]? = _
    rw [Array.getElem?_append_left hi]⟩
theorem laid_stays {w w' : World} (h : Laid w) (hb : Below w.heap.size w w') : Laid w' := Joins.tab_stays gTab h hb (Nat.le_refl _)
def ItoaPost (x : Int) (w : World) (e : Ending) (w' : World) : Prop := ∃ s : ByteArray, e = .returned (.string s) ∧ s.size ≤ 20 ∧ Hid (s = ⟨(Lib.decDigits x.toNat).toArray⟩) ∧ Below w.heap.size w w' ∧ Laid w'
theorem itoaS (x : Int) (w : World) (hL : Laid w) (h0 : 0 ≤ x) (h1 : x ≤ 9223372036854775807) :
    Calls Tryz.prog 147 #[.int .i64 x] w (ItoaPost x w) :=
  (Tryz.strconv_Itoa x (by omega) h1 w hL).mono fun e w' h => by
    obtain ⟨rfl, k, os, rfl⟩ := h
    have e1 : Lib.itoa x = Lib.decDigits x.toNat := by rw [Lib.itoa, if_neg (by omega)]
    refine ⟨_, rfl, ?_, by rw [e1]; rfl, below_grow w k os, laid_stays hL (below_grow w k os)⟩
    rw [e1]
    have := dec_len x.toNat (by omega)
    simpa [ByteArray.size] using this
end Go.Proofs.YtemjooejfmkkbaaGreatDoor
