/-
  How a rule that comes in is opened: a tree, as deep as it is read.
  A program that comes in.
-/
import Derived.Test.YtjphjnopdlfplaaGreatDoorJ11
import Derived.Deep.Strs
import Derived.Deep.Slices
import Derived.Deep.SlicePairs
import Derived.ChangeSlices
import Derived.OpenShut
namespace Go.Proofs.YtjphjnopdlfplaaGreatDoor
open Go.RowKit Go.ChangeShapes Go.WideShapes Go.ChangeAt
set_option linter.unusedVariables false
set_option linter.unusedSimpArgs false

section
variable {H : Type} {enc : TypeId × Value → H} {w : World} {base : Nat} {spare : Nat → Bool} {held : Bool}

theorem marks_of {fuel : Nat} {v : Value} {x : DataW H × List MemPlace}
    (h : DataW.trod enc Tryz.prog w base spare held fuel 60 [v] = some x) : ∃ a len cap ms, v = .slice a len cap ∧ MarksN All w a len ms ∧ len ≤ cap ∧ cap ≤ maxLen := by
  rcases Go.Deep.open_slice_pairs Tryz.underlying60 Tryz.underlying138 (by kernel_rfl) rfl rfl (by kernel_rfl) (by kernel_rfl) h with ⟨h1, -⟩ | ⟨ad, len', cap', m, n, V0, V1, D0, D1, P0, P1, h1, -, hl, hm, hmm, -, hc⟩
  · simp at h1
    subst h1
    exact ⟨none, 0, 0, [], rfl, ⟨rfl, Or.inl rfl⟩, Nat.le_refl _, by unfold maxLen; omega⟩
  · simp at h1
    subst h1
    have hlm : len' ≤ m := by rw [hmm]; split <;> omega
    refine ⟨some ad, len', cap', (List.range len').map fun i => (intOf (V0 i), intOf (V1 i)), rfl, ⟨by simp, ?_⟩, hl, hm⟩
    by_cases h0 : len' = 0
    · exact Or.inl h0
    obtain ⟨b, off, spot⟩ := ad
    have hc0 := (hc 0 (by omega)).1
    have hspot : spot = none := by simpa [Addr.add] using World.cell?_spot hc0
    subst hspot
    have hlt := World.block_lt_of_cell? w _ hc0
    refine Or.inr ⟨b, off, rfl, trivial, by simpa [Addr.add] using hlt, fun i hi => ?_⟩
    obtain ⟨g1, g2, g3, g4⟩ := hc i (by omega)
    obtain ⟨n0, e0, -, -⟩ := Go.DataW.trod_int Tryz.underlying3 g3
    obtain ⟨n1, e1, -, -⟩ := Go.DataW.trod_int Tryz.underlying3 g4
    have a1 : ∀ j, (⟨b, off, none⟩ : Addr).add j = ⟨b, off + j, none⟩ := fun j => by by_cases hj : j = 0 <;> simp [Addr.add, hj]
    rw [a1] at g1 g2
    simp at e0 e1
    rw [e0] at g1; rw [e1] at g2
    have e : (((List.range len').map fun i => (intOf (V0 i), intOf (V1 i))).getD i (0, 0)) = (n0, n1) := by simp [List.getD, hi, e0, e1, intOf]
    rw [e]
    exact ⟨g1, by rw [Nat.add_assoc]; exact g2⟩

theorem five {cs : Array Value} (h : cs.size = 5) : ∃ v0 v1 v2 v3 v4, cs = #[v0, v1, v2, v3, v4] := by
  obtain ⟨l⟩ := cs
  match l, h with
  | [v0, v1, v2, v3, v4], _ => exact ⟨v0, v1, v2, v3, v4, rfl⟩
instance : Inhabited Tr := ⟨.node 0 0 ⟨#[]⟩ [] []⟩
instance : Inhabited Fld := ⟨⟨0, 0, ⟨#[]⟩, none, 0, 0, none, 0, 0⟩⟩
def RuleRow (w : World) (t : Tr) (f : Fld) : Prop := TrF All w t f ∧ WideT t
def RuleA (f : Fld) : Array Value := #[.int .i64 f.op, .int .i64 f.num, .string f.name, .slice f.ka f.kl f.kc, .slice f.ma f.ml f.mc]
end
end Go.Proofs.YtjphjnopdlfplaaGreatDoor

namespace Go.Proofs.YtjphjnopdlfplaaGreatDoor
open Go.RowKit Go.ChangeShapes Go.WideShapes Go.ChangeAt
set_option linter.unusedVariables false
set_option linter.unusedSimpArgs false

instance : Inhabited Pl := ⟨⟨0, 0, ⟨#[]⟩, []⟩⟩
instance : Inhabited FI := ⟨⟨0, 0, ⟨#[]⟩, none, 0, 0⟩⟩
def PlA (f : FI) : Array Value := #[.int .i64 f.op, .int .i64 f.num, .string f.name, .slice f.ma f.ml f.mc]
def IsPls (w : World) (a : Option Addr) (len cap : Nat) (ds : List Pl) : Prop := len ≤ cap ∧ cap ≤ maxLen ∧ PlsN All w a len ds ∧ ∀ d ∈ ds, WideP d
theorem four4 {cs : Array Value} (h : cs.size = 4) : ∃ v0 v1 v2 v3, cs = #[v0, v1, v2, v3] := by
  obtain ⟨l⟩ := cs
  match l, h with
  | [a, b, c, d], _ => exact ⟨a, b, c, d, rfl⟩
section
variable {H : Type} {enc : TypeId × Value → H} {w : World} {base : Nat} {spare : Nat → Bool} {held : Bool}
theorem openPl {fuel : Nat} {cs : Array Value} {x : DataW H × List MemPlace}
    (h : DataW.trod enc Tryz.prog w base spare held fuel 62 (Value.cells (.agg cs)).toList = some x) : ∃ (d : Pl) (f : FI), cs = PlA f ∧ PlF All w d f ∧ WideP d := by
  have cT : Tryz.prog.cellsOf 62 = 4 := by kernel_rfl
  have cM : Tryz.prog.cellsOf 60 = 1 := by kernel_rfl
  have cF : Tryz.prog.cellsOf 9 = 1 := by kernel_rfl
  have cN : Tryz.prog.cellsOf 3 = 1 := by kernel_rfl
  obtain ⟨xs, n, hn, -, hl, hlen, hf⟩ := DataW.trod_struct Tryz.underlying62 h
  rw [cT] at hl
  obtain ⟨v0, v1, v2, v3, rfl⟩ := four4 (cs := cs) (by simpa [Value.cells] using hl)
  have g : ∀ i, i < 4 → ∃ y, xs[i]? = some y := fun i hi => ⟨xs[i]'(by simpa using hlen ▸ hi), by simp [hlen]⟩
  obtain ⟨y0, e0⟩ := g 0 (by omega)
  obtain ⟨y1, e1⟩ := g 1 (by omega)
  obtain ⟨y2, e2⟩ := g 2 (by omega)
  obtain ⟨y3, e3⟩ := g 3 (by omega)
  have f0 := (hf 0 _ rfl).trans e0
  have f1 := (hf 1 _ rfl).trans e1
  have f2 := (hf 2 _ rfl).trans e2
  have f3 := (hf 3 _ rfl).trans e3
  clear hf e0 e1 e2 e3 g
  simp [Value.cells, cF, cN, cM] at f0 f1 f2 f3
  obtain ⟨n0, e0, -, -⟩ := DataW.trod_int Tryz.underlying3 f0
  obtain ⟨n1, e1, -, -⟩ := DataW.trod_int Tryz.underlying3 f1
  obtain ⟨s2, e2, -, z2⟩ := DataW.trod_string Tryz.underlying9 f2
  simp at e0 e1 e2
  subst e0 e1 e2
  obtain ⟨ma, ml, mc, ms, rfl, hM, hm1, hm2⟩ := marks_of f3
  have hml := hM.1
  exact ⟨⟨n0, n1, s2, ms⟩, ⟨n0, n1, s2, ma, ml, mc⟩, rfl, ⟨rfl, rfl, rfl, hM, hm1⟩, z2, by show ms.length ≤ maxLen; omega⟩
theorem openPls (hsp : ∀ b, spare b = true) {fuel : Nat} {a : Option Addr} {len cap : Nat} {x : DataW H × List MemPlace}
    (h : DataW.trod enc Tryz.prog w base spare held fuel 22 (Value.cells (.slice a len cap)).toList = some x) : ∃ ds, IsPls w a len cap ds := by
  have cT : Tryz.prog.cellsOf 62 = 4 := by kernel_rfl
  simp only [Value.cells] at h
  rcases DataW.trod_slice Tryz.underlying22 h with ⟨hcs, _⟩ | ⟨a', len', cap', elems, rest, n', hn', hcs, -, -, hlc, hcm, hel0, hel, -, -⟩
  · simp at hcs
    obtain ⟨rfl, rfl, rfl⟩ := hcs
    exact ⟨[], Nat.le_refl _, by unfold maxLen; omega, ⟨rfl, Or.inl rfl⟩, fun d hd => by simp at hd⟩
  · simp at hcs
    obtain ⟨rfl, rfl, rfl⟩ := hcs
    have each : ∀ i, i < len → ∃ q : Pl × FI, (∀ k, k < 4 → w.cell? ((a'.add (i * 4)).add k) = (PlA q.2)[k]?) ∧ PlF All w q.1 q.2 ∧ WideP q.1 := by
      intro i hi
      have key := hel i hi
      rw [List.getElem?_eq_getElem (by omega)] at key
      obtain ⟨cs', g1, g2⟩ := Option.bind_eq_some_iff.1 key
      rw [cT] at g1
      obtain ⟨_, hlen, hcell⟩ := World.cells?_some g1
      obtain ⟨t, f, e, hr⟩ := openPl (cs := cs'.toArray) (by simpa [Value.cells] using g2)
      refine ⟨(t, f), fun k hk => ?_, hr⟩
      rw [hcell k hk]
      have e2 : cs' = (PlA f).toList := by rw [← e]
      rw [e2]
      simp
    obtain ⟨q, hq⟩ := Go.Deep.choose_lt each
    refine ⟨(List.range len).map fun i => (q i).1, hlc, hcm, ⟨by simp, ?_⟩, fun d hd => ?_⟩
    · by_cases h0 : len = 0
      · exact Or.inl h0
      · obtain ⟨b, off, spot⟩ := a'
        have hc := (hq 0 (by omega)).1 0 (by decide)
        have hc' : w.cell? (((⟨b, off, spot⟩ : Addr).add (0 * 4)).add 0) = some (.int .i64 (q 0).2.op) := hc
        have hspot : spot = none := by simpa [Addr.add] using World.cell?_spot hc'
        subst hspot
        have hlt := World.block_lt_of_cell? w _ hc'
        have adx : ∀ o k, (⟨b, o, none⟩ : Addr).add k = ⟨b, o + k, none⟩ := fun o k => by by_cases hk : k = 0 <;> simp [Addr.add, hk]
        refine Or.inr ⟨b, off, rfl, trivial, by simpa [Addr.add] using hlt, fun j hj => ?_⟩
        have hjl : j < len := by simpa using hj
        obtain ⟨hcl, hr, -⟩ := hq j hjl
        refine ⟨(q j).2, ⟨?_, ?_, ?_, ?_⟩, by simpa using hr⟩
        · have := hcl 0 (by decide); rw [adx, adx] at this; exact this
        · have := hcl 1 (by decide); rw [adx, adx] at this; exact this
        · have := hcl 2 (by decide); rw [adx, adx] at this; exact this
        · have := hcl 3 (by decide); rw [adx, adx] at this; exact this
    · obtain ⟨i, hi, rfl⟩ := List.mem_map.1 hd
      exact (hq i (by simpa using hi)).2.2
end
end Go.Proofs.YtjphjnopdlfplaaGreatDoor
