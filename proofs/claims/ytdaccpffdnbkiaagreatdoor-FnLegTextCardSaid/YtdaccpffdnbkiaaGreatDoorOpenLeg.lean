/-
  How a leg that comes in is opened: its ten fields, the lists of ints and of what is held.
-/
import Derived.Test.YtdaccpffdnbkiaaGreatDoorJ11
import Derived.Deep.Strs
import Derived.Deep.Slices
import Derived.ChangeSlices
import Derived.OpenShut
namespace Go.Proofs.YtdaccpffdnbkiaaGreatDoor
open Go.RowKit Go.ChangeShapes Go.WideShapes Go.ChangeAt
set_option linter.unusedVariables false
set_option linter.unusedSimpArgs false

section
variable {H : Type} {enc : TypeId × Value → H} {w : World} {base : Nat} {spare : Nat → Bool} {held : Bool} {fuel : Nat}

theorem nums_of {v : Value} {x : DataW H × List MemPlace} (hsp : ∀ b, spare b = true)
    (h : DataW.trod enc Tryz.prog w base spare held fuel 22 [v] = some x) : ∃ a len cap z, v = .slice a len cap ∧ Nums w a len z ∧ len ≤ cap ∧ cap ≤ maxLen := by
  rcases open_ints Tryz.underlying22 Tryz.underlying3 (by kernel_rfl) h with ⟨hcs, _⟩ | ⟨x, l, c, zs, hcs, _, hl, hm, hz, _, hcell, hwz⟩
  · simp at hcs
    subst hcs
    exact ⟨none, 0, 0, fun _ => 0, rfl, Or.inl rfl, Nat.le_refl _, by unfold maxLen; omega⟩
  · simp at hcs
    subst hcs
    have hz2 : zs.length = c := by simpa [hsp] using hz
    refine ⟨some x, l, c, fun i => zs.getD i 0, rfl, ?_, hl, hm⟩
    by_cases h0 : l = 0
    · exact Or.inl h0
    · obtain ⟨b, off, spot⟩ := x
      have hc := hcell 0 (by omega)
      have hspot : spot = none := by simpa [Addr.add] using World.cell?_spot hc
      subst hspot
      have hlt := World.block_lt_of_cell? w _ hc
      refine Or.inr ⟨b, off, rfl, by simpa [Addr.add] using hlt, fun i hi => ?_⟩
      have := hcell i (by omega)
      have e : (⟨b, off, none⟩ : Addr).add i = ⟨b, off + i, none⟩ := by by_cases hi0 : i = 0 <;> simp [Addr.add, hi0]
      rw [e] at this
      exact this

theorem three_of {l : List Value} (h : l.length = 3) : ∃ x y z, l = [x, y, z] := by
  match l, h with
  | [x, y, z], _ => exact ⟨x, y, z, rfl⟩

def LegA (d : LegD) (p : LegP) : Array Value := #[.string d.name, .string d.fr, .string d.to, .int .i64 d.dep, .int .i64 d.arr, .int .i64 d.cap, .slice p.aL d.nL p.cL, .slice p.aS d.nS p.cS, .slice p.aB d.nB p.cB, .slice p.aH d.nH p.cH]
def LegRow (w : World) (d : LegD) (p : LegP) : Prop := LegIn w d p ∧ Wide d

theorem ten {cs : Array Value} (h : cs.size = 10) : ∃ v0 v1 v2 v3 v4 v5 v6 v7 v8 v9, cs = #[v0, v1, v2, v3, v4, v5, v6, v7, v8, v9] := by
  obtain ⟨l⟩ := cs
  match l, h with
  | [v0, v1, v2, v3, v4, v5, v6, v7, v8, v9], _ => exact ⟨v0, v1, v2, v3, v4, v5, v6, v7, v8, v9, rfl⟩

theorem some_of {α β : Type} {o : Option α} {xs : List β} {i : Nat} {f : β → α} (h : i < xs.length) (e : o = (xs.map f)[i]?) : ∃ y, o = some y := by
  rw [e]; simp [h]
end
end Go.Proofs.YtdaccpffdnbkiaaGreatDoor
