/-
  How a leg that comes in is opened: its ten fields, the lists of ints and of what is held.
-/
import Derived.Test.YtjlfbcplocjemaaLeg
import Derived.Deep.Strs
import Derived.Deep.Slices
import Derived.ChangeSlices
import Derived.OpenShut
namespace Go.Proofs.Ytjlfbcplocjemaa
open Go.RowKit Go.ChangeShapes Go.WideShapes Go.ChangeAt
set_option linter.unusedVariables false
set_option linter.unusedSimpArgs false

section
variable {H : Type} {enc : TypeId × Value → H} {w : World} {base : Nat} {spare : Nat → Bool} {held : Bool} {fuel : Nat}

theorem nums_of {v : Value} {x : DataW H × List MemPlace} (hsp : ∀ b, spare b = true)
    (h : DataW.trod enc Try.prog w base spare held fuel 31 [v] = some x) : ∃ a len cap z, v = .slice a len cap ∧ Nums w a len z ∧ len ≤ cap ∧ cap ≤ maxLen := by
  rcases open_ints Try.underlying31 Try.underlying3 (by kernel_rfl) h with ⟨hcs, _⟩ | ⟨x, l, c, zs, hcs, _, hl, hm, hz, _, hcell, hwz⟩
  · simp at hcs
    subst hcs
    exact ⟨none, 0, 0, fun _ => 0, rfl, Or.inl rfl, Nat.le_refl _, by unfold maxLen; omega⟩
  · simp at hcs
    subst hcs
    have hz2 : zs.length = c := by simpa [hsp] using hz
    refine ⟨some x, l, c, fun i => zs.getD i 0, rfl, ?_, hl, hm⟩
    by_cases h0 : l = 0
    · exact Or.inl h0
    · obtain ⟨b, off, spot⟩ := x
      have hc := hcell 0 (by omega)
      have hspot : spot = none := by simpa [Addr.add] using World.cell?_spot hc
      subst hspot
      have hlt := World.block_lt_of_cell? w _ hc
      refine Or.inr ⟨b, off, rfl, by simpa [Addr.add] using hlt, fun i hi => ?_⟩
      have := hcell i (by omega)
      have e : (⟨b, off, none⟩ : Addr).add i = ⟨b, off + i, none⟩ := by by_cases hi0 : i = 0 <;> simp [Addr.add, hi0]
      rw [e] at this
      exact this

theorem three_of {l : List Value} (h : l.length = 3) : ∃ x y z, l = [x, y, z] := by
  match l, h with
  | [x, y, z], _ => exact ⟨x, y, z, rfl⟩

theorem holds_of {v : Value} {x : DataW H × List MemPlace} (hsp : ∀ b, spare b = true)
    (h : DataW.trod enc Try.prog w base spare held fuel 56 [v] = some x) : ∃ a len cap t c s, v = .slice a len cap ∧ Holds w a len t c s ∧ len ≤ cap ∧ cap ≤ maxLen := by
  have ce : Try.prog.cellsOf 101 = 3 := by kernel_rfl
  have cN : Try.prog.cellsOf 3 = 1 := by kernel_rfl
  rcases Go.Deep.open_slice Try.underlying56 h with ⟨hcs, _⟩ | ⟨a, len, cap, m, n, D, Pl, hcs, _, hl, hm, hmm, _, hx⟩
  · simp at hcs
    subst hcs
    exact ⟨none, 0, 0, fun _ => 0, fun _ => 0, fun _ => 0, rfl, Or.inl rfl, Nat.le_refl _, by unfold maxLen; omega⟩
  · simp at hcs
    subst hcs
    have hlm : len ≤ m := by rw [hmm]; split <;> omega
    have each : ∀ i, i < m → ∃ q : Int × Int × Int, w.cell? ((a.add (i * 3)).add 0) = some (.int .i64 q.1) ∧ w.cell? ((a.add (i * 3)).add 1) = some (.int .i64 q.2.1) ∧ w.cell? ((a.add (i * 3)).add 2) = some (.int .i64 q.2.2) := by
      intro i hi
      obtain ⟨cs', g1, g2⟩ := hx i hi
      rw [ce] at g1
      obtain ⟨_, hlen, hcell⟩ := World.cells?_some g1
      obtain ⟨y0, y1, y2, k, -, -, f0, f1, f2⟩ := Go.Deep.trod_struct3 Try.underlying101 g2
      obtain ⟨v0, v1, v2, rfl⟩ := three_of hlen
      simp [cN] at f0 f1 f2
      obtain ⟨n0, e0, -, -⟩ := Go.DataW.trod_int Try.underlying3 f0
      obtain ⟨n1, e1, -, -⟩ := Go.DataW.trod_int Try.underlying3 f1
      obtain ⟨n2, e2, -, -⟩ := Go.DataW.trod_int Try.underlying3 f2
      simp at e0 e1 e2
      subst e0 e1 e2
      have k0 := hcell 0 (by omega)
      have k1 := hcell 1 (by omega)
      have k2 := hcell 2 (by omega)
      exact ⟨(n0, n1, n2), by simpa using k0, by simpa using k1, by simpa using k2⟩
    obtain ⟨q, hq⟩ := Go.Deep.choose_lt each
    refine ⟨some a, len, cap, fun i => (q i).1, fun i => (q i).2.1, fun i => (q i).2.2, rfl, ?_, hl, hm⟩
    by_cases h0 : len = 0
    · exact Or.inl h0
    · obtain ⟨b, off, spot⟩ := a
      have hc := (hq 0 (by omega)).1
      have hspot : spot = none := by simpa [Addr.add] using World.cell?_spot hc
      subst hspot
      have hlt := World.block_lt_of_cell? w _ hc
      have ad : ∀ o k, (⟨b, o, none⟩ : Addr).add k = ⟨b, o + k, none⟩ := fun o k => by by_cases hk : k = 0 <;> simp [Addr.add, hk]
      refine Or.inr ⟨b, off, rfl, by simpa [Addr.add] using hlt, fun i hi => ?_⟩
      obtain ⟨r0, r1, r2⟩ := hq i (by omega)
      rw [ad, ad] at r0 r1 r2
      exact ⟨r0, r1, r2⟩

def LegA (d : LegD) (p : LegP) : Array Value := #[.string d.name, .string d.fr, .string d.to, .int .i64 d.dep, .int .i64 d.arr, .int .i64 d.cap, .slice p.aL d.nL p.cL, .slice p.aS d.nS p.cS, .slice p.aB d.nB p.cB, .slice p.aH d.nH p.cH]
def LegRow (w : World) (d : LegD) (p : LegP) : Prop := LegIn w d p ∧ Wide d

theorem ten {cs : Array Value} (h : cs.size = 10) : ∃ v0 v1 v2 v3 v4 v5 v6 v7 v8 v9, cs = #[v0, v1, v2, v3, v4, v5, v6, v7, v8, v9] := by
  obtain ⟨l⟩ := cs
  match l, h with
  | [v0, v1, v2, v3, v4, v5, v6, v7, v8, v9], _ => exact ⟨v0, v1, v2, v3, v4, v5, v6, v7, v8, v9, rfl⟩

theorem some_of {α β : Type} {o : Option α} {xs : List β} {i : Nat} {f : β → α} (h : i < xs.length) (e : o = (xs.map f)[i]?) : ∃ y, o = some y := by
  rw [e]; simp [h]
theorem openLeg {cs : Array Value} {x : DataW H × List MemPlace} (hsp : ∀ b, spare b = true)
    (h : DataW.trod enc Try.prog w base spare held fuel 58 (Value.cells (.agg cs)).toList = some x) : ∃ d p, cs = LegA d p ∧ LegRow w d p := by
  obtain ⟨xs, n, -, -, hl, hlen, hf⟩ := DataW.trod_struct Try.underlying58 h
  have cT : Try.prog.cellsOf 58 = 10 := by kernel_rfl
  have cL : Try.prog.cellsOf 31 = 1 := by kernel_rfl
  have cH : Try.prog.cellsOf 56 = 1 := by kernel_rfl
  have cF : Try.prog.cellsOf 9 = 1 := by kernel_rfl
  have cN : Try.prog.cellsOf 3 = 1 := by kernel_rfl
  rw [cT] at hl
  obtain ⟨v0, v1, v2, v3, v4, v5, v6, v7, v8, v9, rfl⟩ := ten (cs := cs) (by simpa [Value.cells] using hl)
  have g : ∀ i, i < 10 → ∃ y, xs[i]? = some y := fun i hi => ⟨xs[i]'(by simpa using hlen ▸ hi), by simp [hlen]⟩
  obtain ⟨y0, e0⟩ := g 0 (by omega)
  obtain ⟨y1, e1⟩ := g 1 (by omega)
  obtain ⟨y2, e2⟩ := g 2 (by omega)
  obtain ⟨y3, e3⟩ := g 3 (by omega)
  obtain ⟨y4, e4⟩ := g 4 (by omega)
  obtain ⟨y5, e5⟩ := g 5 (by omega)
  obtain ⟨y6, e6⟩ := g 6 (by omega)
  obtain ⟨y7, e7⟩ := g 7 (by omega)
  obtain ⟨y8, e8⟩ := g 8 (by omega)
  obtain ⟨y9, e9⟩ := g 9 (by omega)
  have f0 := (hf 0 _ rfl).trans e0
  have f1 := (hf 1 _ rfl).trans e1
  have f2 := (hf 2 _ rfl).trans e2
  have f3 := (hf 3 _ rfl).trans e3
  have f4 := (hf 4 _ rfl).trans e4
  have f5 := (hf 5 _ rfl).trans e5
  have f6 := (hf 6 _ rfl).trans e6
  have f7 := (hf 7 _ rfl).trans e7
  have f8 := (hf 8 _ rfl).trans e8
  have f9 := (hf 9 _ rfl).trans e9
  clear hf e0 e1 e2 e3 e4 e5 e6 e7 e8 e9 g
  simp [Value.cells, cL, cF, cN, cH] at f0 f1 f2 f3 f4 f5 f6 f7 f8 f9
  obtain ⟨s0, e0, -, z0⟩ := DataW.trod_string Try.underlying9 f0
  obtain ⟨s1, e1, -, z1⟩ := DataW.trod_string Try.underlying9 f1
  obtain ⟨s2, e2, -, z2⟩ := DataW.trod_string Try.underlying9 f2
  obtain ⟨n3, e3, -, -⟩ := DataW.trod_int Try.underlying3 f3
  obtain ⟨n4, e4, -, -⟩ := DataW.trod_int Try.underlying3 f4
  obtain ⟨n5, e5, -, -⟩ := DataW.trod_int Try.underlying3 f5
  simp at e0 e1 e2 e3 e4 e5
  subst e0 e1 e2 e3 e4 e5
  obtain ⟨a6, l6, c6, z6, rfl, h6, k6, m6⟩ := nums_of hsp f6
  obtain ⟨a7, l7, c7, z7, rfl, h7, k7, m7⟩ := nums_of hsp f7
  obtain ⟨a8, l8, c8, z8, rfl, h8, k8, m8⟩ := nums_of hsp f8
  obtain ⟨a9, l9, c9, t9, c9', s9, rfl, h9, k9, m9⟩ := holds_of hsp f9
  refine ⟨⟨s0, s1, s2, n3, n4, n5, l6, z6, l7, z7, l8, z8, l9, t9, c9', s9⟩, ⟨a6, c6, a7, c7, a8, c8, a9, c9⟩, rfl, ⟨h6, h7, h8, h9⟩, ?_⟩
  unfold maxLen at m6 m7 m8 m9 z0 z1 z2
  have q0 : s0.data.toList.length = s0.size := by simp
  have q1 : s1.data.toList.length = s1.size := by simp
  have q2 : s2.data.toList.length = s2.size := by simp
  refine ⟨?_, ?_, ?_, ?_, ?_, ?_, ?_⟩ <;> simp only <;> omega
end
end Go.Proofs.Ytjlfbcplocjemaa
