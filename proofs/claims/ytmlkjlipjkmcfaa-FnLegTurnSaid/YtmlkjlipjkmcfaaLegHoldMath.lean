/-
  What is held more: the lists behind it.
-/
import Derived.Test.YtmlkjlipjkmcfaaLegHeldM
import Derived.Test.YtmlkjlipjkmcfaaLegCanHold
namespace Go.Proofs.Ytmlkjlipjkmcfaa
open Go.RowKit
set_option linter.unusedVariables false
set_option linter.unusedSimpArgs false

def putF (f : Nat → Int) (k : Nat) (x : Int) (i : Nat) : Int := if i < k then f i else if i = k then x else f (i - 1)
def putD (d : LegD) (k : Nat) (t c s : Int) : LegD := { d with nH := d.nH + 1, t := putF d.t k t, c := putF d.c k c, s := putF d.s k s }
def CanPut (d : LegD) (t c s share : Int) : Prop := d.nH < 6 ∧ (∀ i, i < d.nH → d.t i ≠ t) ∧ CanH d t c s share
def HoldIs (d : LegD) (t c s share : Int) (d' : LegD) (b : Bool) : Prop :=
  (¬ OkLeg d → d' = zeroD ∧ b = false) ∧ (OkLeg d → (b = true ↔ CanPut d t c s share) ∧ (b = true → ∃ k, HeldAt d t k ∧ d' = putD d k t c s) ∧ (b = false → d' = d))
def HoldPost (d : LegD) (t c s share : Int) (w : World) (e : Ending) (w' : World) : Prop :=
  ∃ d' p' b, e = .returned (.tuple #[LegV d' p', .bool b]) ∧ Hid (HoldIs d t c s share d' b) ∧ LegNew w.heap.size w' d' p' ∧ Below w.heap.size w w'
theorem heldAt_one {d : LegD} {t : Int} {k k' : Nat} (h : HeldAt d t k) (h' : HeldAt d t k') : k = k' := by
  rcases Nat.lt_trichotomy k k' with q | q | q
  · have h1 := h'.2.1 k q
    have h2 := h.2.2 (by have := h'.1; omega)
    omega
  · exact q
  · have h1 := h.2.1 k' q
    have h2 := h'.2.2 (by have := h.1; omega)
    omega
theorem holdIs_one {d a b : LegD} {t c s share : Int} {x y : Bool} (h : HoldIs d t c s share a x) (h' : HoldIs d t c s share b y) : a = b ∧ x = y := by
  by_cases q : OkLeg d
  · obtain ⟨i1, i2, i3⟩ := h.2 q
    obtain ⟨j1, j2, j3⟩ := h'.2 q
    cases x <;> cases y
    · exact ⟨by rw [i3 rfl, j3 rfl], rfl⟩
    · have := i1.2 (j1.1 rfl); cases this
    · have := j1.2 (i1.1 rfl); cases this
    · obtain ⟨k, hk, rfl⟩ := i2 rfl
      obtain ⟨k', hk', rfl⟩ := j2 rfl
      rw [heldAt_one hk hk']
      exact ⟨rfl, rfl⟩
  · obtain ⟨rfl, rfl⟩ := h.1 q
    obtain ⟨rfl, rfl⟩ := h'.1 q
    exact ⟨rfl, rfl⟩
theorem rd_at {d : LegD} {L : List Nd} {t : Int} {k : Nat} (hr : RdN L d.t d.c d.s d.nH) (h : AtPos L t k) : HeldAt d t k := by
  have hl := hr.1
  refine ⟨by have := h.1; omega, fun i hi => ?_, fun hk => ?_⟩
  · have e := List.getElem?_eq_getElem (l := L) (i := i) (by have := h.1; omega)
    have := h.2.1 i _ hi e
    rwa [(hr.2 i _ e).1] at this
  · have e := List.getElem?_eq_getElem (l := L) (i := k) (by omega)
    have := h.2.2 _ e
    rwa [(hr.2 k _ e).1] at this
theorem has_iff {d : LegD} {L : List Nd} {t : Int} {k : Nat} (ho : HoldsOk d) (hr : RdN L d.t d.c d.s d.nH) (h : AtPos L t k) : (∃ n, L[k]? = some n ∧ n.t = t) ↔ ¬ ∀ i, i < d.nH → d.t i ≠ t := by
  have ha := rd_at hr h
  have hl := hr.1
  constructor
  · rintro ⟨n, hn, ht⟩ hall
    have hk : k < L.length := by
      rcases Nat.lt_or_ge k L.length with q | q
      · exact q
      · rw [List.getElem?_eq_none q] at hn; cases hn
    exact hall k (by omega) (by rw [← (hr.2 k n hn).1]; exact ht)
  · intro hno
    have : ∃ i, i < d.nH ∧ d.t i = t := by
      rcases Classical.em (∃ i, i < d.nH ∧ d.t i = t) with q | q
      · exact q
      · exact absurd (fun i hi he => q ⟨i, hi, he⟩) hno
    obtain ⟨i, hi, he⟩ := this
    have hki : k ≤ i := by
      rcases Nat.lt_or_ge i k with q | q
      · have := ha.2.1 i q; omega
      · exact q
    have e := List.getElem?_eq_getElem (l := L) (i := k) (by omega)
    refine ⟨_, e, ?_⟩
    rw [(hr.2 k _ e).1]
    have h2 := ha.2.2 (by omega)
    rcases Nat.lt_or_ge k i with q | q
    · have := asc_of ho q hi; omega
    · obtain rfl : k = i := by omega
      exact he
theorem with_same {d : LegD} {L : List Nd} (hr : RdN L d.t d.c d.s d.nH) : LegSame (withH d L) d :=
  ⟨rfl, rfl, rfl, rfl, rfl, rfl, rfl, rfl, rfl, hr.1, fun _ _ => rfl, fun _ _ => rfl, fun _ _ => rfl, fun i hi => hr.tN (by rw [← hr.1]; exact hi)⟩
theorem put_same {d : LegD} {L : List Nd} {t c s : Int} {k b : Nat} (hr : RdN L d.t d.c d.s d.nH) (h : AtPos L t k) : LegSame (withH d (L.insertIdx k ⟨b, t, c, s⟩)) (putD d k t c s) := by
  have hl := hr.1
  have hlen : (L.insertIdx k ⟨b, t, c, s⟩).length = d.nH + 1 := by rw [List.length_insertIdx_of_le_length h.1, hl]
  refine ⟨rfl, rfl, rfl, rfl, rfl, rfl, rfl, rfl, rfl, hlen, fun _ _ => rfl, fun _ _ => rfl, fun _ _ => rfl, fun i hi => ?_⟩
  have hi' : i < (L.insertIdx k ⟨b, t, c, s⟩).length := hi
  have e := List.getElem?_eq_getElem hi'
  have ev : tN (L.insertIdx k ⟨b, t, c, s⟩) i = (L.insertIdx k ⟨b, t, c, s⟩)[i].t ∧ cN (L.insertIdx k ⟨b, t, c, s⟩) i = (L.insertIdx k ⟨b, t, c, s⟩)[i].c ∧ sN (L.insertIdx k ⟨b, t, c, s⟩) i = (L.insertIdx k ⟨b, t, c, s⟩)[i].s := by
    simp [tN, cN, sN, List.getD_eq_getElem?_getD, List.getElem?_map, e]
  show tN _ i = putF d.t k t i ∧ cN _ i = putF d.c k c i ∧ sN _ i = putF d.s k s i
  rw [ev.1, ev.2.1, ev.2.2]
  unfold putF
  have e' := e
  rw [List.getElem?_insertIdx] at e'
  rcases Nat.lt_trichotomy i k with q | q | q
  · rw [if_pos q] at e'
    rw [if_pos q, if_pos q, if_pos q]
    exact hr.2 i _ e'
  · subst q
    rw [if_neg (by omega), if_pos rfl, if_pos h.1] at e'
    rw [if_neg (by omega), if_pos rfl, if_neg (by omega), if_pos rfl, if_neg (by omega), if_pos rfl]
    rw [← Option.some.inj e']
    exact ⟨rfl, rfl, rfl⟩
  · rw [if_neg (by omega), if_neg (by omega)] at e'
    rw [if_neg (by omega), if_neg (by omega), if_neg (by omega), if_neg (by omega), if_neg (by omega), if_neg (by omega)]
    exact hr.2 (i - 1) _ e'
end Go.Proofs.Ytmlkjlipjkmcfaa
