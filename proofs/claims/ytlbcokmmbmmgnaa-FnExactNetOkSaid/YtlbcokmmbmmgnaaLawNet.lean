/-
  The law that holds the program's NetOk against the model's; and what is told of an argument that is a list of legs.
-/
import Derived.Test.YtlbcokmmbmmgnaaNetOk
import Derived.Test.YtlbcokmmbmmgnaaNetCopy
namespace Go.Proofs.Ytlbcokmmbmmgnaa
open Go.RowKit
set_option linter.unusedVariables false
set_option linter.unusedSimpArgs false

instance : Inhabited LegD := ⟨⟨⟨#[]⟩, ⟨#[]⟩, ⟨#[]⟩, 0, 0, 0, 0, fun _ => 0, 0, fun _ => 0, 0, fun _ => 0, 0, fun _ => 0, fun _ => 0, fun _ => 0⟩⟩
instance : Inhabited LegP := ⟨⟨none, 0, none, 0, none, 0, none, 0⟩⟩
/-- What is told of an argument that is a list of legs. -/
def IsNet (w : World) (a : Option Addr) (len cap : Nat) (ds : Nat → LegD) (ps : Nat → LegP) : Prop := len ≤ cap ∧ cap ≤ maxLen ∧ Legs w a len ds ps ∧ ∀ i, i < len → Wide (ds i)
theorem openNet {H : Type} {enc : TypeId × Value → H} {w : World} {base : Nat} {spare : Nat → Bool} {held : Bool} {fuel : Nat} {a : Option Addr} {len cap : Nat} {x : DataW H × List MemPlace} (hsp : ∀ b, spare b = true)
    (h : DataW.trod enc Try.prog w base spare held fuel 22 (Value.cells (.slice a len cap)).toList = some x) : ∃ ds ps, IsNet w a len cap ds ps := by
  have ce : Try.prog.cellsOf 33 = 10 := by kernel_rfl
  have e1 : (Value.cells (.slice a len cap)).toList = [.slice a len cap] := by simp [Value.cells]
  rw [e1] at h
  rcases Go.Deep.open_slice Try.underlying22 h with ⟨hcs, _⟩ | ⟨ad, len', cap', m, n, D, Pl, hcs, _, hl, hm, hmm, _, hx⟩
  · simp at hcs
    obtain ⟨rfl, rfl, rfl⟩ := hcs
    exact ⟨fun _ => ⟨⟨#[]⟩, ⟨#[]⟩, ⟨#[]⟩, 0, 0, 0, 0, fun _ => 0, 0, fun _ => 0, 0, fun _ => 0, 0, fun _ => 0, fun _ => 0, fun _ => 0⟩, fun _ => ⟨none, 0, none, 0, none, 0, none, 0⟩, Nat.le_refl _, by unfold maxLen; omega, Or.inl rfl, fun i hi => absurd hi (Nat.not_lt_zero _)⟩
  · simp at hcs
    obtain ⟨rfl, rfl, rfl⟩ := hcs
    have hlm : len ≤ m := by rw [hmm]; split <;> omega
    have each : ∀ i, i < m → ∃ q : LegD × LegP, (∀ k, k < 10 → w.cell? ((ad.add (i * 10)).add k) = (LegC q.1 q.2)[k]?) ∧ LegRow w q.1 q.2 := by
      intro i hi
      obtain ⟨cs', g1, g2⟩ := hx i hi
      rw [ce] at g1
      obtain ⟨_, hlen, hcell⟩ := World.cells?_some g1
      obtain ⟨d, p, e, hr⟩ := openLeg (cs := cs'.toArray) hsp (by simpa [Value.cells] using g2)
      refine ⟨(d, p), fun k hk => ?_, hr⟩
      rw [hcell k hk]
      have e2 : cs' = (LegA d p).toList := by rw [← e]
      rw [e2]
      show (LegA d p).toList[k]? = (LegA d p)[k]?
      simp
    obtain ⟨q, hq⟩ := Go.Deep.choose_lt each
    refine ⟨fun i => (q i).1, fun i => (q i).2, hl, hm, ?_, fun i hi => (hq i (by omega)).2.2⟩
    by_cases h0 : len = 0
    · exact Or.inl h0
    obtain ⟨b, off, spot⟩ := ad
    have hc := (hq 0 (by omega)).1 0 (by decide)
    have hc' : w.cell? (((⟨b, off, spot⟩ : Addr).add (0 * 10)).add 0) = some (.string (q 0).1.name) := hc
    have hspot : spot = none := by simpa [Addr.add] using World.cell?_spot hc'
    subst hspot
    have hlt := World.block_lt_of_cell? w _ hc'
    have adx : ∀ o k, (⟨b, o, none⟩ : Addr).add k = ⟨b, o + k, none⟩ := fun o k => by by_cases hk : k = 0 <;> simp [Addr.add, hk]
    refine Or.inr ⟨b, off, rfl, by simpa [Addr.add] using hlt, fun i hi => ⟨fun k hk => ?_, (hq i (by omega)).2.1⟩⟩
    have := (hq i (by omega)).1 k hk
    rw [adx, adx] at this
    exact this

theorem det2 {S : Prop} {a b : Bool} (h : a = true ↔ S) (k : b = true ↔ S) : a = b := by
  cases a <;> cases b
  · rfl
  · have := h.2 (k.1 rfl); cases this
  · have := k.2 (h.1 rfl); cases this
  · rfl
set_option maxRecDepth 100000 in
set_option maxHeartbeats 8000000 in
theorem exactNetOk (a : Option Addr) (n cap : Nat) (ds : Nat → LegD) (ps : Nat → LegP) (w : World) (w0 : IsNet w a n cap ds ps) :
    Calls Try.prog 3 #[.slice a n cap] w fun e w' => e = .returned (.bool true) ∧ Below w.heap.size w w' := by
  obtain ⟨hlc, hcm, hleg, hw⟩ := w0
  have hn : (n : Int) ≤ 9223372036854775807 := by unfold maxLen at hcm; omega
  have HL := Lib.hid hleg
  have HW := Lib.hid hw
  clear hleg hw hcm
  go_enter Try.func3, Try.ntmps3
  go_wp2_with fail
  refine (szNet a n cap ds ps w HL.out hn HW.out).mono ?_
  rintro e w1 ⟨r, r0, r1, rfl, hr, d1⟩
  rcases Int.lt_or_le r 0 with c | c
  · have z0 : decide (r < 0) = true := decide_eq_true c
    go_wp2
    go_ret
    exact ⟨rfl, d1⟩
  have z0 : decide (r < 0) = false := decide_eq_false (by omega)
  obtain ⟨hn2, hf⟩ := hr.out c
  have HF := Lib.hid hf
  have D1 := Lib.hid d1
  have HL1 := Lib.hid (HL.out.kept d1)
  clear hr hf d1
  go_wp2_with fail
  refine (toNet a n cap ds ps w1 HL1.out HF.out hn2).mono ?_
  rintro e w2 ⟨g1, q1, -, rfl, hq1, -, d2⟩
  have D2 := Lib.hid (bt D1.out d2)
  have HL2 := Lib.hid (HL1.out.kept d2)
  have HQ1 := Lib.hid hq1
  clear hq1 d2
  go_wp2_with fail
  refine (netS _ n n ds q1 w2 HQ1.out HF.out hn2).mono ?_
  rintro e w3 ⟨b1, rfl, hb1, d3⟩
  have D3 := Lib.hid (bt D2.out d3)
  have HL3 := Lib.hid (HL2.out.kept d3)
  clear d3
  go_wp2_with fail
  refine (toNet a n cap ds ps w3 HL3.out HF.out hn2).mono ?_
  rintro e w4 ⟨g2, q2, -, rfl, hq2, hc2, d4⟩
  have D4 := Lib.hid (bt D3.out d4)
  have HL4 := Lib.hid (HL3.out.kept d4)
  have HQ2 := Lib.hid hq2
  have HC2 := Lib.hid hc2
  clear hq2 hc2 d4
  go_wp2_with fail
  refine (netI _ n n ds q2 w4 HQ2.out HF.out (fun i hi => (HC2.out i hi).2.1) hn2 (Nat.le_refl _) hn2).mono ?_
  rintro e w5 ⟨b2, rfl, hb2, d5⟩
  obtain rfl : b1 = b2 := det2 hb1.out hb2.out
  have zb : (b1 != b1) = false := by simp
  have D5 := Lib.hid (bt D4.out d5)
  have HL5 := Lib.hid (HL4.out.kept d5)
  have HQ5 := Lib.hid (HQ2.out.kept d5)
  clear hb1 hb2 d5
  go_wp2_with fail
  refine (toNet a n cap ds ps w5 HL5.out HF.out hn2).mono ?_
  rintro e w6 ⟨g3, q3, -, rfl, hq3, -, d6⟩
  have D6 := Lib.hid (bt D5.out d6)
  have HQ6 := Lib.hid (HQ5.out.kept d6)
  have HQ3 := Lib.hid hq3
  clear hq3 d6
  go_wp2_with fail
  refine (eqNet _ _ n n n ds q2 q3 w6 HQ6.out HQ3.out HF.out hn2).mono ?_
  rintro e w7 ⟨rfl, d7⟩
  have D7 := Lib.hid (bt D6.out d7)
  clear d7
  go_wp2
  go_ret
  exact ⟨rfl, D7.out⟩
end Go.Proofs.Ytlbcokmmbmmgnaa
