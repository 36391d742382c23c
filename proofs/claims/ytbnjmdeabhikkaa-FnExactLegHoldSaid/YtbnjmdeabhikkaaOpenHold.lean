/-
  How what is held is opened, where it comes in by itself: three ints.
-/
import Derived.Test.YtbnjmdeabhikkaaOpenLeg
namespace Go.Proofs.Ytbnjmdeabhikkaa
open Go.RowKit Go.ChangeShapes Go.WideShapes Go.ChangeAt
set_option linter.unusedVariables false
set_option linter.unusedSimpArgs false

structure HoldD where
  t : Int
  c : Int
  s : Int
def HoldA (h : HoldD) : Array Value := #[.int .i64 h.t, .int .i64 h.c, .int .i64 h.s]
def HoldRow (w : World) (h : HoldD) : Prop := True
section
variable {H : Type} {enc : TypeId × Value → H} {w : World} {base : Nat} {spare : Nat → Bool} {held : Bool} {fuel : Nat}
theorem threeA {cs : Array Value} (h : cs.size = 3) : ∃ v0 v1 v2, cs = #[v0, v1, v2] := by
  obtain ⟨l⟩ := cs
  match l, h with
  | [v0, v1, v2], _ => exact ⟨v0, v1, v2, rfl⟩
theorem openHold {cs : Array Value} {x : DataW H × List MemPlace}
    (h : DataW.trod enc Try.prog w base spare held fuel 27 (Value.cells (.agg cs)).toList = some x) : ∃ d, cs = HoldA d ∧ HoldRow w d := by
  obtain ⟨xs, n, -, -, hl, hlen, hf⟩ := DataW.trod_struct Try.underlying27 h
  have cT : Try.prog.cellsOf 27 = 3 := by kernel_rfl
  have cN : Try.prog.cellsOf 3 = 1 := by kernel_rfl
  rw [cT] at hl
  obtain ⟨v0, v1, v2, rfl⟩ := threeA (cs := cs) (by simpa [Value.cells] using hl)
  have g : ∀ i, i < 3 → ∃ y, xs[i]? = some y := fun i hi => ⟨xs[i]'(by simpa using hlen ▸ hi), by simp [hlen]⟩
  obtain ⟨y0, e0⟩ := g 0 (by omega)
  obtain ⟨y1, e1⟩ := g 1 (by omega)
  obtain ⟨y2, e2⟩ := g 2 (by omega)
  have f0 := (hf 0 _ rfl).trans e0
  have f1 := (hf 1 _ rfl).trans e1
  have f2 := (hf 2 _ rfl).trans e2
  clear hf e0 e1 e2 g
  simp [Value.cells, cN] at f0 f1 f2
  obtain ⟨n0, e0, -, -⟩ := DataW.trod_int Try.underlying3 f0
  obtain ⟨n1, e1, -, -⟩ := DataW.trod_int Try.underlying3 f1
  obtain ⟨n2, e2, -, -⟩ := DataW.trod_int Try.underlying3 f2
  simp at e0 e1 e2
  subst e0 e1 e2
  exact ⟨⟨n0, n1, n2⟩, rfl, trivial⟩
end
end Go.Proofs.Ytbnjmdeabhikkaa
