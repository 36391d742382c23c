/-
  What is told of an argument that is a list of legs.
-/
import Derived.Test.YtjlfbcplocjemaaNetOk
import Derived.Test.YtjlfbcplocjemaaNetCopy
namespace Go.Proofs.Ytjlfbcplocjemaa
open Go.RowKit
set_option linter.unusedVariables false
set_option linter.unusedSimpArgs false

instance : Inhabited LegD := ⟨⟨⟨#[]⟩, ⟨#[]⟩, ⟨#[]⟩, 0, 0, 0, 0, fun _ => 0, 0, fun _ => 0, 0, fun _ => 0, 0, fun _ => 0, fun _ => 0, fun _ => 0⟩⟩
instance : Inhabited LegP := ⟨⟨none, 0, none, 0, none, 0, none, 0⟩⟩
/-- What is told of an argument that is a list of legs. -/
def IsNet (w : World) (a : Option Addr) (len cap : Nat) (ds : Nat → LegD) (ps : Nat → LegP) : Prop := len ≤ cap ∧ cap ≤ maxLen ∧ Legs w a len ds ps ∧ ∀ i, i < len → Wide (ds i)
theorem openNet {H : Type} {enc : TypeId × Value → H} {w : World} {base : Nat} {spare : Nat → Bool} {held : Bool} {fuel : Nat} {a : Option Addr} {len cap : Nat} {x : DataW H × List MemPlace} (hsp : ∀ b, spare b = true)
    (h : DataW.trod enc Try.prog w base spare held fuel 36 (Value.cells (.slice a len cap)).toList = some x) : ∃ ds ps, IsNet w a len cap ds ps := by
  have ce : Try.prog.cellsOf 58 = 10 := by kernel_rfl
  have e1 : (Value.cells (.slice a len cap)).toList = [.slice a len cap] := by simp [Value.cells]
  rw [e1] at h
  rcases Go.Deep.open_slice Try.underlying36 h with ⟨hcs, _⟩ | ⟨ad, len', cap', m, n, D, Pl, hcs, _, hl, hm, hmm, _, hx⟩
  · simp at hcs
    obtain ⟨rfl, rfl, rfl⟩ := hcs
    exact ⟨fun _ => ⟨⟨#[]⟩, ⟨#[]⟩, ⟨#[]⟩, 0, 0, 0, 0, fun _ => 0, 0, fun _ => 0, 0, fun _ => 0, 0, fun _ => 0, fun _ => 0, fun _ => 0⟩, fun _ => ⟨none, 0, none, 0, none, 0, none, 0⟩, Nat.le_refl _, by unfold maxLen; omega, Or.inl rfl, fun i hi => absurd hi (Nat.not_lt_zero _)⟩
  · simp at hcs
    obtain ⟨rfl, rfl, rfl⟩ := hcs
    have hlm : len ≤ m := by rw [hmm]; split <;> omega
    have each : ∀ i, i < m → ∃ q : LegD × LegP, (∀ k, k < 10 → w.cell? ((ad.add (i * 10)).add k) = (LegC q.1 q.2)[k]?) ∧ LegRow w q.1 q.2 := by
      intro i hi
      obtain ⟨cs', g1, g2⟩ := hx i hi
      rw [ce] at g1
      obtain ⟨_, hlen, hcell⟩ := World.cells?_some g1
      obtain ⟨d, p, e, hr⟩ := openLeg (cs := cs'.toArray) hsp (by simpa [Value.cells] using g2)
      refine ⟨(d, p), fun k hk => ?_, hr⟩
      rw [hcell k hk]
      have e2 : cs' = (LegA d p).toList := by rw [← e]
      rw [e2]
      show (LegA d p).toList[k]? = (LegA d p)[k]?
      simp
    obtain ⟨q, hq⟩ := Go.Deep.choose_lt each
    refine ⟨fun i => (q i).1, fun i => (q i).2, hl, hm, ?_, fun i hi => (hq i (by omega)).2.2⟩
    by_cases h0 : len = 0
    · exact Or.inl h0
    obtain ⟨b, off, spot⟩ := ad
    have hc := (hq 0 (by omega)).1 0 (by decide)
    have hc' : w.cell? (((⟨b, off, spot⟩ : Addr).add (0 * 10)).add 0) = some (.string (q 0).1.name) := hc
    have hspot : spot = none := by simpa [Addr.add] using World.cell?_spot hc'
    subst hspot
    have hlt := World.block_lt_of_cell? w _ hc'
    have adx : ∀ o k, (⟨b, o, none⟩ : Addr).add k = ⟨b, o + k, none⟩ := fun o k => by by_cases hk : k = 0 <;> simp [Addr.add, hk]
    refine Or.inr ⟨b, off, rfl, by simpa [Addr.add] using hlt, fun i hi => ⟨fun k hk => ?_, (hq i (by omega)).2.1⟩⟩
    have := (hq i (by omega)).1 k hk
    rw [adx, adx] at this
    exact this

theorem det2 {S : Prop} {a b : Bool} (h : a = true ↔ S) (k : b = true ↔ S) : a = b := by
  cases a <;> cases b
  · rfl
  · have := h.2 (k.1 rfl); cases this
  · have := k.2 (h.1 rfl); cases this
  · rfl
end Go.Proofs.Ytjlfbcplocjemaa
