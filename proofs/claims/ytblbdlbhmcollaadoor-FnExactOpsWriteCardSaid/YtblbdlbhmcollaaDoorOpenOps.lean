/-
  What is told of an argument that is a list of ops.
-/
import Derived.Test.YtblbdlbhmcollaaDoorOps
import Derived.Deep.Strs
import Derived.Deep.Slices
import Derived.ChangeSlices
import Derived.OpenShut
import Derived.Lib.SmallJoins
namespace Go.Proofs.YtblbdlbhmcollaaDoor
open Go.RowKit Go.ChangeShapes Go.WideShapes Go.ChangeAt
set_option linter.unusedVariables false
set_option linter.unusedSimpArgs false

def IsOps (w : World) (a : Option Addr) (len cap : Nat) (ds : Nat → OpD) : Prop := len ≤ cap ∧ cap ≤ maxLen ∧ Ops w a len ds ∧ ∀ i, i < len → (ds i).leg.size ≤ maxLen
theorem four_of {l : List Value} (h : l.length = 4) : ∃ x y z t, l = [x, y, z, t] := by
  match l, h with
  | [x, y, z, t], _ => exact ⟨x, y, z, t, rfl⟩
theorem openOps {H : Type} {enc : TypeId × Value → H} {w : World} {base : Nat} {spare : Nat → Bool} {held : Bool} {fuel : Nat} {a : Option Addr} {len cap : Nat} {x : DataW H × List MemPlace} (hsp : ∀ b, spare b = true)
    (h : DataW.trod enc Tryd.prog w base spare held fuel 22 (Value.cells (.slice a len cap)).toList = some x) : ∃ ds, IsOps w a len cap ds := by
  have ce : Tryd.prog.cellsOf 31 = 4 := by kernel_rfl
  have cN : Tryd.prog.cellsOf 3 = 1 := by kernel_rfl
  have cS : Tryd.prog.cellsOf 9 = 1 := by kernel_rfl
  have e1 : (Value.cells (.slice a len cap)).toList = [.slice a len cap] := by simp [Value.cells]
  rw [e1] at h
  rcases Go.Deep.open_slice Tryd.underlying22 h with ⟨hcs, _⟩ | ⟨ad, len', cap', m, n, D, Pl, hcs, _, hl, hm, hmm, _, hx⟩
  · simp at hcs
    obtain ⟨rfl, rfl, rfl⟩ := hcs
    exact ⟨fun _ => default, Nat.le_refl _, by unfold maxLen; omega, Or.inl rfl, fun i hi => absurd hi (Nat.not_lt_zero _)⟩
  · simp at hcs
    obtain ⟨rfl, rfl, rfl⟩ := hcs
    have hlm : len ≤ m := by rw [hmm]; split <;> omega
    have each : ∀ i, i < m → ∃ d : OpD, (w.cell? ((ad.add (i * 4)).add 0) = some (.string d.leg) ∧ w.cell? ((ad.add (i * 4)).add 1) = some (.int .i64 d.cls) ∧ w.cell? ((ad.add (i * 4)).add 2) = some (.int .i64 d.st) ∧ w.cell? ((ad.add (i * 4)).add 3) = some (.int .i64 d.sh)) ∧ d.leg.size ≤ maxLen := by
      intro i hi
      obtain ⟨cs', g1, g2⟩ := hx i hi
      rw [ce] at g1
      obtain ⟨_, hlen, hcell⟩ := World.cells?_some g1
      obtain ⟨y0, y1, y2, y3, k, -, -, f0, f1, f2, f3⟩ := Go.Joins.trod_struct4 Tryd.underlying31 g2
      obtain ⟨v0, v1, v2, v3, rfl⟩ := four_of hlen
      simp [cN, cS] at f0 f1 f2 f3
      obtain ⟨n0, e0, -, hz⟩ := Go.DataW.trod_string Tryd.underlying9 f0
      obtain ⟨n1, e1, -, -⟩ := Go.DataW.trod_int Tryd.underlying3 f1
      obtain ⟨n2, e2, -, -⟩ := Go.DataW.trod_int Tryd.underlying3 f2
      obtain ⟨n3, e3, -, -⟩ := Go.DataW.trod_int Tryd.underlying3 f3
      simp at e0 e1 e2 e3
      subst e0 e1 e2 e3
      have k0 := hcell 0 (by omega)
      have k1 := hcell 1 (by omega)
      have k2 := hcell 2 (by omega)
      have k3 := hcell 3 (by omega)
      exact ⟨⟨n0, n1, n2, n3⟩, ⟨by simpa using k0, by simpa using k1, by simpa using k2, by simpa using k3⟩, hz⟩
    obtain ⟨q, hq⟩ := Go.Deep.choose_lt each
    refine ⟨q, hl, hm, ?_, fun i hi => (hq i (by omega)).2⟩
    by_cases h0 : len = 0
    · exact Or.inl h0
    obtain ⟨b, off, spot⟩ := ad
    have hc := (hq 0 (by omega)).1.1
    have hspot : spot = none := by simpa [Addr.add] using World.cell?_spot hc
    subst hspot
    have hlt := World.block_lt_of_cell? w _ hc
    have adx : ∀ o k, (⟨b, o, none⟩ : Addr).add k = ⟨b, o + k, none⟩ := fun o k => by by_cases hk : k = 0 <;> simp [Addr.add, hk]
    refine Or.inr ⟨b, off, rfl, by simpa [Addr.add] using hlt, fun i hi => ?_⟩
    obtain ⟨a0, a1, a2, a3⟩ := (hq i (by omega)).1
    rw [adx, adx] at a0 a1 a2 a3
    exact ⟨a0, a1, a2, a3⟩
end Go.Proofs.YtblbdlbhmcollaaDoor
