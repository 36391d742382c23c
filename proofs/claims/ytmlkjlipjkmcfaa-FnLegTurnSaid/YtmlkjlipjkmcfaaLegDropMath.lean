/-
  A leg from which what is held for a transaction is taken, in plain words.
-/
import Derived.Test.YtmlkjlipjkmcfaaLegWithout
namespace Go.Proofs.Ytmlkjlipjkmcfaa
open Go.RowKit
set_option linter.unusedVariables false
set_option linter.unusedSimpArgs false

/-- Two legs that no slice can tell apart. -/
structure LegSame (a b : LegD) : Prop where
  name : a.name = b.name
  fr : a.fr = b.fr
  to : a.to = b.to
  dep : a.dep = b.dep
  arr : a.arr = b.arr
  cap : a.cap = b.cap
  nL : a.nL = b.nL
  nS : a.nS = b.nS
  nB : a.nB = b.nB
  nH : a.nH = b.nH
  L : ∀ i, i < a.nL → a.L i = b.L i
  S : ∀ i, i < a.nS → a.S i = b.S i
  B : ∀ i, i < a.nB → a.B i = b.B i
  H : ∀ i, i < a.nH → a.t i = b.t i ∧ a.c i = b.c i ∧ a.s i = b.s i
theorem LegSame.refl (a : LegD) : LegSame a a := ⟨rfl, rfl, rfl, rfl, rfl, rfl, rfl, rfl, rfl, rfl, fun _ _ => rfl, fun _ _ => rfl, fun _ _ => rfl, fun _ _ => ⟨rfl, rfl, rfl⟩⟩
theorem Nums.same {w : World} {a : Option Addr} {len len' : Nat} {z z' : Nat → Int} (h : Nums w a len z) (e : len = len') (k : ∀ i, i < len → z i = z' i) : Nums w a len' z' := by
  subst e
  rcases h with h | ⟨b, off, h1, h2, h3⟩
  · exact .inl h
  · exact .inr ⟨b, off, h1, h2, fun i hi => by rw [← k i hi]; exact h3 i hi⟩
theorem NumsR.same {lo hi : Nat} {w : World} {a : Option Addr} {len len' : Nat} {z z' : Nat → Int} (h : NumsR lo hi w a len z) (e : len = len') (k : ∀ i, i < len → z i = z' i) : NumsR lo hi w a len' z' := by
  subst e
  rcases h with h | ⟨g, h1, h2, h3, h4, h5⟩
  · exact .inl h
  · exact .inr ⟨g, h1, h2, h3, h4, fun i hi => by rw [← k i hi]; exact h5 i hi⟩
theorem Holds.same {w : World} {a : Option Addr} {len len' : Nat} {t c s t' c' s' : Nat → Int} (h : Holds w a len t c s) (e : len = len') (k : ∀ i, i < len → t i = t' i ∧ c i = c' i ∧ s i = s' i) : Holds w a len' t' c' s' := by
  subst e
  rcases h with h | ⟨b, off, h1, h2, h3⟩
  · exact .inl h
  · exact .inr ⟨b, off, h1, h2, fun i hi => by rw [← (k i hi).1, ← (k i hi).2.1, ← (k i hi).2.2]; exact h3 i hi⟩
theorem HoldsR.same {lo hi : Nat} {w : World} {a : Option Addr} {len len' : Nat} {t c s t' c' s' : Nat → Int} (h : HoldsR lo hi w a len t c s) (e : len = len') (k : ∀ i, i < len → t i = t' i ∧ c i = c' i ∧ s i = s' i) : HoldsR lo hi w a len' t' c' s' := by
  subst e
  rcases h with h | ⟨g, h1, h2, h3, h4, h5⟩
  · exact .inl h
  · exact .inr ⟨g, h1, h2, h3, h4, fun i hi => by rw [← (k i hi).1, ← (k i hi).2.1, ← (k i hi).2.2]; exact h5 i hi⟩
theorem LegIn.same {w : World} {a b : LegD} {p : LegP} (h : LegIn w a p) (k : LegSame a b) : LegIn w b p := ⟨h.1.same k.nL k.L, h.2.1.same k.nS k.S, h.2.2.1.same k.nB k.B, h.2.2.2.same k.nH k.H⟩
theorem LegNew.same {B : Nat} {w : World} {a b : LegD} {p : LegP} (h : LegNew B w a p) (k : LegSame a b) : LegNew B w b p := by
  obtain ⟨hc, b1, b2, b3, b4, q1, q2, q3, q4, q5, h1, h2, h3, h4⟩ := h
  exact ⟨by rw [← k.nL, ← k.nS, ← k.nB, ← k.nH]; exact hc, b1, b2, b3, b4, q1, q2, q3, q4, q5, h1.same k.nL k.L, h2.same k.nS k.S, h3.same k.nB k.B, h4.same k.nH k.H⟩
theorem LegV.same {a b : LegD} (k : LegSame a b) (p : LegP) : LegV a p = LegV b p := by
  unfold LegV
  rw [k.name, k.fr, k.to, k.dep, k.arr, k.cap, k.nL, k.nS, k.nB, k.nH]

/-- A leg of its own, all of whose lists lie ahead of T. -/
def LegNewT (B T : Nat) (w : World) (d : LegD) (p : LegP) : Prop :=
  (d.nL ≤ p.cL ∧ d.nS ≤ p.cS ∧ d.nB ≤ p.cB ∧ d.nH ≤ p.cH) ∧ ∃ b1 b2 b3 b4, B ≤ b1 ∧ b1 ≤ b2 ∧ b2 ≤ b3 ∧ b3 ≤ b4 ∧ b4 ≤ T ∧ T ≤ w.heap.size ∧ NumsR B b1 w p.aL d.nL d.L ∧ NumsR b1 b2 w p.aS d.nS d.S ∧ NumsR b2 b3 w p.aB d.nB d.B ∧ HoldsR b3 b4 w p.aH d.nH d.t d.c d.s
theorem LegNew.toT {B : Nat} {w : World} {d : LegD} {p : LegP} (h : LegNew B w d p) : LegNewT B w.heap.size w d p := by
  obtain ⟨hc, b1, b2, b3, b4, q1, q2, q3, q4, q5, h1, h2, h3, h4⟩ := h
  exact ⟨hc, b1, b2, b3, b4, q1, q2, q3, q4, q5, Nat.le_refl _, h1, h2, h3, h4⟩
theorem LegNewT.new {B T : Nat} {w : World} {d : LegD} {p : LegP} (h : LegNewT B T w d p) : LegNew B w d p := by
  obtain ⟨hc, b1, b2, b3, b4, q1, q2, q3, q4, q5, q6, h1, h2, h3, h4⟩ := h
  exact ⟨hc, b1, b2, b3, b4, q1, q2, q3, q4, Nat.le_trans q5 q6, h1, h2, h3, h4⟩
theorem LegNewT.far {B T : Nat} {w w' : World} {d : LegD} {p : LegP} {row : Option Nat} (h : LegNewT B T w d p) (hg : w.grownBy w' row) (hr : ∀ k, row = some k → k < B ∨ T ≤ k) : LegNewT B T w' d p := by
  obtain ⟨hc, b1, b2, b3, b4, q1, q2, q3, q4, q5, q6, h1, h2, h3, h4⟩ := h
  exact ⟨hc, b1, b2, b3, b4, q1, q2, q3, q4, q5, Nat.le_trans q6 hg.size, h1.far hg (fun k e => by have := hr k e; omega), h2.far hg (fun k e => by have := hr k e; omega), h3.far hg (fun k e => by have := hr k e; omega), h4.far hg (fun k e => by have := hr k e; omega)⟩
theorem LegNewT.kept {B T : Nat} {w w' : World} {d : LegD} {p : LegP} (h : LegNewT B T w d p) (hb : Below w.heap.size w w') : LegNewT B T w' d p := h.far (toGr hb) (fun k e => by cases e)

def zeroD : LegD := ⟨⟨#[]⟩, ⟨#[]⟩, ⟨#[]⟩, 0, 0, 0, 0, fun _ => 0, 0, fun _ => 0, 0, fun _ => 0, 0, fun _ => 0, fun _ => 0, fun _ => 0⟩
def zeroP : LegP := ⟨none, 0, none, 0, none, 0, none, 0⟩
theorem zero_new (w : World) : LegNew w.heap.size w zeroD zeroP := ⟨⟨Nat.le_refl _, Nat.le_refl _, Nat.le_refl _, Nat.le_refl _⟩, _, _, _, _, Nat.le_refl _, Nat.le_refl _, Nat.le_refl _, Nat.le_refl _, Nat.le_refl _, .inl rfl, .inl rfl, .inl rfl, .inl rfl⟩

/-- The first place at which x stands, n if it stands nowhere. -/
def posT (t : Nat → Int) (x : Int) : Nat → Nat
  | 0 => 0
  | n + 1 => if posT t x n < n then posT t x n else if t n = x then n else n + 1
theorem posT_le (t : Nat → Int) (x : Int) : ∀ n, posT t x n ≤ n
  | 0 => Nat.le_refl _
  | n + 1 => by
    have := posT_le t x n
    simp only [posT]
    split
    · omega
    · split <;> omega
theorem posT_at {t : Nat → Int} {x : Int} {k : Nat} (hk : t k = x) (h : ∀ i, i < k → t i ≠ x) : ∀ n, posT t x n = min k n
  | 0 => by simp [posT]
  | n + 1 => by
    have ih := posT_at hk h n
    simp only [posT, ih]
    rcases Nat.lt_trichotomy k n with h1 | rfl | h1
    · rw [if_pos (by omega)]; omega
    · rw [if_neg (by omega), if_pos hk]; omega
    · rw [if_neg (by omega), if_neg (h n h1)]; omega
theorem posT_no {t : Nat → Int} {x : Int} : ∀ n, (∀ i, i < n → t i ≠ x) → posT t x n = n
  | 0, _ => rfl
  | n + 1, h => by
    have ih := posT_no n (fun i hi => h i (by omega))
    simp only [posT, ih]
    rw [if_neg (by omega), if_neg (h n (by omega))]
theorem posT_has {t : Nat → Int} {x : Int} : ∀ n, posT t x n < n → t (posT t x n) = x
  | 0, h => absurd h (Nat.not_lt_zero _)
  | n + 1, h => by
    simp only [posT] at h ⊢
    by_cases h1 : posT t x n < n
    · rw [if_pos h1]; exact posT_has n h1
    · rw [if_neg h1] at h ⊢
      by_cases h2 : t n = x
      · rw [if_pos h2]; exact h2
      · rw [if_neg h2] at h; omega
def sk (k i : Nat) : Nat := if i < k then i else i + 1
def delH (d : LegD) (k : Nat) : LegD := { d with nH := d.nH - 1, t := fun i => d.t (sk k i), c := fun i => d.c (sk k i), s := fun i => d.s (sk k i) }
def dropD (d : LegD) (txn : Int) : LegD := if posT d.t txn d.nH < d.nH then delH d (posT d.t txn d.nH) else d
def keepD (d : LegD) (txn : Int) : LegD := if posT d.t txn d.nH < d.nH then { delH d (posT d.t txn d.nH) with S := fun i => if (i : Int) = d.c (posT d.t txn d.nH) then d.S i + d.s (posT d.t txn d.nH) else d.S i } else d
theorem asc_of {d : LegD} (h : HoldsOk d) {i j : Nat} (hij : i < j) (hj : j < d.nH) : d.t i < d.t j := by
  have key : ∀ q, i + q + 1 < d.nH → d.t i < d.t (i + q + 1) := by
    intro q
    induction q with
    | zero => intro hq; have := (h.2 (i + 1) (by omega)).2; simpa using this
    | succ q ih =>
      intro hq
      have h1 := ih (by omega)
      have := (h.2 (i + (q + 1) + 1) (by omega)).2
      simp at this
      rw [show i + q + 1 = i + (q + 1) from by omega] at h1
      omega
  have := key (j - i - 1) (by omega)
  rwa [show i + (j - i - 1) + 1 = j from by omega] at this
/-- What was taken out of the list is what the leg has at that place. -/
theorem taken_drop {d : LegD} {L M : List Nd} {txn x y z : Int} (ho : HoldsOk d) (hr : RdN L d.t d.c d.s d.nH) (h : Taken L txn x y z M) :
    LegSame (withH d M) (dropD d txn) ∧ ((posT d.t txn d.nH < d.nH ∧ y = d.c (posT d.t txn d.nH) ∧ z = d.s (posT d.t txn d.nH)) ∨ (posT d.t txn d.nH = d.nH ∧ y = 0 ∧ z = 0)) := by
  obtain ⟨k, hp, h⟩ := h
  have hL := hr.1
  have hlt : ∀ i, i < k → d.t i < txn := fun i hi => by
    have e := List.getElem?_eq_getElem (l := L) (i := i) (by have := hp.1; omega)
    have := hp.2.1 i _ hi e
    rwa [(hr.2 i _ e).1] at this
  rcases h with ⟨n, hn, ht, rfl, rfl, rfl, rfl⟩ | ⟨hno, rfl, rfl, rfl, rfl⟩
  · have hkl : k < L.length := by
      rcases Nat.lt_or_ge k L.length with h1 | h1
      · exact h1
      · rw [List.getElem?_eq_none h1] at hn; cases hn
    obtain ⟨e1, e2, e3⟩ := hr.2 k n hn
    have hpos : posT d.t txn d.nH = k := by rw [posT_at (by rw [← e1]; exact ht) (fun i hi => by have := hlt i hi; omega)]; omega
    have hk : k < d.nH := by omega
    refine ⟨?_, .inl ⟨by omega, by rw [hpos, e2], by rw [hpos, e3]⟩⟩
    unfold dropD
    rw [hpos, if_pos hk]
    have hlen : (L.eraseIdx k).length = d.nH - 1 := by rw [List.length_eraseIdx, if_pos hkl, hL]
    refine ⟨rfl, rfl, rfl, rfl, rfl, rfl, rfl, rfl, rfl, hlen, fun _ _ => rfl, fun _ _ => rfl, fun _ _ => rfl, fun i hi => ?_⟩
    have hi' : i < (L.eraseIdx k).length := hi
    have e := List.getElem?_eq_getElem hi'
    have e' := e
    rw [List.getElem?_eraseIdx] at e'
    show tN _ i = d.t (sk k i) ∧ cN _ i = d.c (sk k i) ∧ sN _ i = d.s (sk k i)
    have ev : tN (L.eraseIdx k) i = (L.eraseIdx k)[i].t ∧ cN (L.eraseIdx k) i = (L.eraseIdx k)[i].c ∧ sN (L.eraseIdx k) i = (L.eraseIdx k)[i].s := by
      simp [tN, cN, sN, List.getD_eq_getElem?_getD, List.getElem?_map, e]
    rw [ev.1, ev.2.1, ev.2.2]
    unfold sk
    split at e'
    · rw [if_pos (by assumption)]; exact hr.2 i _ e'
    · rw [if_neg (by assumption)]; exact hr.2 (i + 1) _ e'
  · have hall : ∀ i, i < d.nH → d.t i ≠ txn := fun i hi => by
      rcases Nat.lt_trichotomy i k with h1 | rfl | h1
      · have := hlt i h1; omega
      · have e := List.getElem?_eq_getElem (l := M) (i := i) (by omega)
        have := hno _ e
        rwa [(hr.2 i _ e).1] at this
      · have e := List.getElem?_eq_getElem (l := M) (i := k) (by omega)
        have h2 := hp.2.2 _ e
        have h3 := asc_of ho h1 hi
        rw [(hr.2 k _ e).1] at h2
        omega
    have hpos := posT_no d.nH hall
    refine ⟨?_, .inr ⟨hpos, rfl, rfl⟩⟩
    unfold dropD
    rw [if_neg (by omega)]
    refine ⟨rfl, rfl, rfl, rfl, rfl, rfl, rfl, rfl, rfl, hL, fun _ _ => rfl, fun _ _ => rfl, fun _ _ => rfl, fun i hi => ?_⟩
    exact hr.tN (by rw [← hL]; exact hi)
end Go.Proofs.Ytmlkjlipjkmcfaa
