/-
  How a rule that comes in is opened: a tree, as deep as it is read.
-/
import Derived.Test.YtemjooejfmkkbaaGreatDoorJ13
import Derived.Deep.Strs
import Derived.Deep.Slices
import Derived.Deep.SlicePairs
import Derived.ChangeSlices
import Derived.OpenShut
namespace Go.Proofs.YtemjooejfmkkbaaGreatDoor
open Go.RowKit Go.ChangeShapes Go.WideShapes Go.ChangeAt
set_option linter.unusedVariables false
set_option linter.unusedSimpArgs false

section
variable {H : Type} {enc : TypeId × Value → H} {w : World} {base : Nat} {spare : Nat → Bool} {held : Bool}

theorem marks_of {fuel : Nat} {v : Value} {x : DataW H × List MemPlace}
    (h : DataW.trod enc Tryz.prog w base spare held fuel 77 [v] = some x) : ∃ a len cap ms, v = .slice a len cap ∧ MarksN All w a len ms ∧ len ≤ cap ∧ cap ≤ maxLen := by
  rcases Go.Deep.open_slice_pairs Tryz.underlying77 Tryz.underlying205 (by kernel_rfl) rfl rfl (by kernel_rfl) (by kernel_rfl) h with ⟨h1, -⟩ | ⟨ad, len', cap', m, n, V0, V1, D0, D1, P0, P1, h1, -, hl, hm, hmm, -, hc⟩
  · simp at h1
    subst h1
    exact ⟨none, 0, 0, [], rfl, ⟨rfl, Or.inl rfl⟩, Nat.le_refl _, by unfold maxLen; omega⟩
  · simp at h1
    subst h1
    have hlm : len' ≤ m := by rw [hmm]; split <;> omega
    refine ⟨some ad, len', cap', (List.range len').map fun i => (intOf (V0 i), intOf (V1 i)), rfl, ⟨by simp, ?_⟩, hl, hm⟩
    by_cases h0 : len' = 0
    · exact Or.inl h0
    obtain ⟨b, off, spot⟩ := ad
    have hc0 := (hc 0 (by omega)).1
    have hspot : spot = none := by simpa [Addr.add] using World.cell?_spot hc0
    subst hspot
    have hlt := World.block_lt_of_cell? w _ hc0
    refine Or.inr ⟨b, off, rfl, trivial, by simpa [Addr.add] using hlt, fun i hi => ?_⟩
    obtain ⟨g1, g2, g3, g4⟩ := hc i (by omega)
    obtain ⟨n0, e0, -, -⟩ := Go.DataW.trod_int Tryz.underlying3 g3
    obtain ⟨n1, e1, -, -⟩ := Go.DataW.trod_int Tryz.underlying3 g4
    have a1 : ∀ j, (⟨b, off, none⟩ : Addr).add j = ⟨b, off + j, none⟩ := fun j => by by_cases hj : j = 0 <;> simp [Addr.add, hj]
    rw [a1] at g1 g2
    simp at e0 e1
    rw [e0] at g1; rw [e1] at g2
    have e : (((List.range len').map fun i => (intOf (V0 i), intOf (V1 i))).getD i (0, 0)) = (n0, n1) := by simp [List.getD, hi, e0, e1, intOf]
    rw [e]
    exact ⟨g1, by rw [Nat.add_assoc]; exact g2⟩

theorem five {cs : Array Value} (h : cs.size = 5) : ∃ v0 v1 v2 v3 v4, cs = #[v0, v1, v2, v3, v4] := by
  obtain ⟨l⟩ := cs
  match l, h with
  | [v0, v1, v2, v3, v4], _ => exact ⟨v0, v1, v2, v3, v4, rfl⟩
instance : Inhabited Tr := ⟨.node 0 0 ⟨#[]⟩ [] []⟩
instance : Inhabited Fld := ⟨⟨0, 0, ⟨#[]⟩, none, 0, 0, none, 0, 0⟩⟩
def RuleRow (w : World) (t : Tr) (f : Fld) : Prop := TrF All w t f ∧ WideT t
def RuleA (f : Fld) : Array Value := #[.int .i64 f.op, .int .i64 f.num, .string f.name, .slice f.ka f.kl f.kc, .slice f.ma f.ml f.mc]
end
end Go.Proofs.YtemjooejfmkkbaaGreatDoor
