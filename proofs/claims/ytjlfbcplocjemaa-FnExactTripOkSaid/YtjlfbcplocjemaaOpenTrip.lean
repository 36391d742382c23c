/-
  How a trip that comes in is opened.
-/
import Derived.Test.YtjlfbcplocjemaaTripN
import Derived.Test.YtjlfbcplocjemaaLegIter
import Derived.SliceStrings
import Derived.Deep.Strs
namespace Go.Proofs.Ytjlfbcplocjemaa
open Go.RowKit Go.ChangeShapes Go.WideShapes Go.ChangeAt
set_option linter.unusedVariables false
set_option linter.unusedSimpArgs false

def TripRow (w : World) (a : Option Addr) (len cap : Nat) (z : List ByteArray) (f : ByteArray) (n : Int) : Prop := IsRowS w a len cap z ∧ f.size ≤ maxLen

theorem threeT {cs : Array Value} (h : cs.size = 3) : ∃ x y z, cs = #[x, y, z] := by
  obtain ⟨l⟩ := cs
  match l, h with
  | [x, y, z], _ => exact ⟨x, y, z, rfl⟩

theorem openTrip {H : Type} {enc : TypeId × Value → H} {w : World} {base : Nat} {spare : Nat → Bool} {held : Bool} {fuel : Nat} {cs : Array Value} {x : DataW H × List MemPlace} (hsp : ∀ b, spare b = true)
    (h : DataW.trod enc Try.prog w base spare held fuel 37 (Value.cells (.agg cs)).toList = some x) : ∃ a len cap z f n, cs = #[.slice a len cap, .string f, .int .i64 n] ∧ TripRow w a len cap z f n := by
  obtain ⟨y0, y1, y2, m, rfl, hl, h0, h1, h2⟩ := Go.Deep.trod_struct3 Try.underlying37 h
  have cT : Try.prog.cellsOf 37 = 3 := by kernel_rfl
  have cL : Try.prog.cellsOf 24 = 1 := by kernel_rfl
  have cF : Try.prog.cellsOf 9 = 1 := by kernel_rfl
  have cN : Try.prog.cellsOf 3 = 1 := by kernel_rfl
  rw [cT] at hl
  obtain ⟨v0, v1, v2, rfl⟩ := threeT (cs := cs) (by simpa [Value.cells] using hl)
  simp [Value.cells, cL, cF, cN] at h0 h1 h2
  obtain ⟨f, e1, -, hf⟩ := DataW.trod_string Try.underlying9 h1
  obtain ⟨n, e2, -, -⟩ := DataW.trod_int Try.underlying3 h2
  simp at e1 e2
  subst e1 e2
  rcases open_strings Try.underlying24 Try.underlying9 (by kernel_rfl) h0 with ⟨hcs, _⟩ | ⟨x, l, c, zs, hcs, _, hlc, hm, hz, _, hcell, hwz⟩
  · simp at hcs
    subst hcs
    exact ⟨none, 0, 0, [], f, n, rfl, .inl ⟨rfl, rfl, rfl, rfl⟩, hf⟩
  · simp at hcs
    subst hcs
    exact ⟨some x, l, c, zs, f, n, rfl, .inr ⟨_, rfl, hlc, hm, by simpa [hsp] using hz, hcell, hwz⟩, hf⟩

theorem size_of_row {w : World} {a : Option Addr} {len cap : Nat} {z : List ByteArray} (h : IsRowS w a len cap z) : ∀ s ∈ z.take len, s.size ≤ 9223372036854775807 := by
  intro s hs
  rcases h with ⟨rfl, rfl, rfl, rfl⟩ | ⟨x, rfl, hl, hm, hz, hcell, hwz⟩
  · simp at hs
  · have := hwz s (List.mem_of_mem_take hs); unfold maxLen at this; omega
theorem total_at : ∀ (ss : List ByteArray) (i : Nat), (legAt ss i).size ≤ total ss
  | [], i => by simp [legAt, total]
  | s :: r, 0 => by simp [legAt, total]
  | s :: r, i + 1 => by
    have := total_at r i
    have e : legAt (s :: r) (i + 1) = legAt r i := by simp [legAt]
    rw [e]; simp only [total]; omega

end Go.Proofs.Ytjlfbcplocjemaa
