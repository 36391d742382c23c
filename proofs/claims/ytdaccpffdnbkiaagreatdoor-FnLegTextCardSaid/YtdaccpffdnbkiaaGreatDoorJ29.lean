/-
  A leg without what is held for a transaction, and that: the program's answer.
  A leg from which what is held for a transaction is taken, in plain words.
  The place of a transaction among what is held: the model's.
  Whether seats can be held: the program's answer.
  What is held more: the lists behind it.
  A leg that is ok stays so: behind what is held more, kept, or let go; and a leg that was just drawn is ok.
  What is held of a leg let go, or made sold: the program's answers.
-/
import Derived.Test.YtdaccpffdnbkiaaGreatDoorLegHolding
import Derived.Deep.RegionLaw
import Derived.BigQuiet
import Derived.Test.YtdaccpffdnbkiaaGreatDoorJ21
import Derived.Test.YtdaccpffdnbkiaaGreatDoorJ20
namespace Go.Proofs.YtdaccpffdnbkiaaGreatDoor
open Go.RowKit
set_option linter.unusedVariables false
set_option linter.unusedSimpArgs false

theorem run_storeRow {P : Program} (w : World) (g : Nat) (t : TypeId) (old cells : Array Value) (hg : w.heap[g]? = some (.cells old t (0, 0))) (ho : old.size = cells.size) (h1 : cells.all (·.oneCell') = true) :
    (storeCells ⟨g, 0, none⟩ cells.toList).run P w = .ok () (w.setRow g cells) := by
  have := run_storeCells_from (P := P) g t cells.toList 0 old w hg (by simp; omega) (fun v hv => (Array.all_eq_true_iff_forall_mem.1 h1) v (by simpa using hv))
  simpa [Addr.add, ho] using this
theorem fr3 {w : World} {b : Nat} {x y z : Value} {t : TypeId} (h : w.heap[b]? = some (.cells #[x, y, z] t (0, 0))) : w.frozen? ⟨b, 0, none⟩ = false ∧ w.frozen? ⟨b, 1, none⟩ = false ∧ w.frozen? ⟨b, 2, none⟩ = false := ⟨Lib.frozen_of_heap h 0, Lib.frozen_of_heap h 1, Lib.frozen_of_heap h 2⟩
theorem set3 {w : World} {b : Nat} {x y z x' y' z' : Value} {t : TypeId} (h : w.heap[b]? = some (.cells #[x, y, z] t (0, 0))) : (((w.setCell ⟨b, 0, none⟩ x').setCell ⟨b, 1, none⟩ y').setCell ⟨b, 2, none⟩ z').heap[b]? = some (.cells #[x', y', z'] t (0, 0)) := set_same (set_same (set_same h x') y') z'
theorem set3_other {w : World} {b b' : Nat} {x' y' z' : Value} (h : b ≠ b') : (((w.setCell ⟨b', 0, none⟩ x').setCell ⟨b', 1, none⟩ y').setCell ⟨b', 2, none⟩ z').heap[b]? = w.heap[b]? := by rw [set_other _ h, set_other _ h, set_other _ h]
theorem gr3 (w : World) (b : Nat) (x' y' z' : Value) : w.grownBy (((w.setCell ⟨b, 0, none⟩ x').setCell ⟨b, 1, none⟩ y').setCell ⟨b, 2, none⟩ z') (some b) := grown_trans (grown_trans (grown_set w ⟨b, 0, none⟩ x') (grown_set _ ⟨b, 1, none⟩ y')) (grown_set _ ⟨b, 2, none⟩ z')
theorem LegNew.mono {B B' : Nat} {w : World} {d : LegD} {p : LegP} (h : LegNew B w d p) (hB : B' ≤ B) : LegNew B' w d p := by
  obtain ⟨hc, b1, b2, b3, b4, q1, q2, q3, q4, q5, h1, h2, h3, h4⟩ := h
  exact ⟨hc, b1, b2, b3, b4, by omega, q2, q3, q4, q5, h1.mono hB (Nat.le_refl _), h2, h3, h4⟩
theorem Taken.len {L M : List Nd} {txn x y z : Int} (h : Taken L txn x y z M) : M.length ≤ L.length := by
  obtain ⟨k, -, h⟩ := h
  rcases h with ⟨n, -, -, -, -, -, rfl⟩ | ⟨-, -, -, -, rfl⟩
  · exact List.length_eraseIdx_le _ _
  · exact Nat.le_refl _

end Go.Proofs.YtdaccpffdnbkiaaGreatDoor

namespace Go.Proofs.YtdaccpffdnbkiaaGreatDoor
open Go.RowKit
set_option linter.unusedVariables false
set_option linter.unusedSimpArgs false

/-- Two legs that no slice can tell apart. -/
structure LegSame (a b : LegD) : Prop where
  name : a.name = b.name
  fr : a.fr = b.fr
  to : a.to = b.to
  dep : a.dep = b.dep
  arr : a.arr = b.arr
  cap : a.cap = b.cap
  nL : a.nL = b.nL
  nS : a.nS = b.nS
  nB : a.nB = b.nB
  nH : a.nH = b.nH
  L : ∀ i, i < a.nL → a.L i = b.L i
  S : ∀ i, i < a.nS → a.S i = b.S i
  B : ∀ i, i < a.nB → a.B i = b.B i
  H : ∀ i, i < a.nH → a.t i = b.t i ∧ a.c i = b.c i ∧ a.s i = b.s i
theorem LegSame.refl (a : LegD) : LegSame a a := ⟨rfl, rfl, rfl, rfl, rfl, rfl, rfl, rfl, rfl, rfl, fun _ _ => rfl, fun _ _ => rfl, fun _ _ => rfl, fun _ _ => ⟨rfl, rfl, rfl⟩⟩
theorem Nums.same {w : World} {a : Option Addr} {len len' : Nat} {z z' : Nat → Int} (h : Nums w a len z) (e : len = len') (k : ∀ i, i < len → z i = z' i) : Nums w a len' z' := by
  subst e
  rcases h with h | ⟨b, off, h1, h2, h3⟩
  · exact .inl h
  · exact .inr ⟨b, off, h1, h2, fun i hi => by rw [← k i hi]; exact h3 i hi⟩
theorem NumsR.same {lo hi : Nat} {w : World} {a : Option Addr} {len len' : Nat} {z z' : Nat → Int} (h : NumsR lo hi w a len z) (e : len = len') (k : ∀ i, i < len → z i = z' i) : NumsR lo hi w a len' z' := by
  subst e
  rcases h with h | ⟨g, h1, h2, h3, h4, h5⟩
  · exact .inl h
  · exact .inr ⟨g, h1, h2, h3, h4, fun i hi => by rw [← k i hi]; exact h5 i hi⟩
theorem Holds.same {w : World} {a : Option Addr} {len len' : Nat} {t c s t' c' s' : Nat → Int} (h : Holds w a len t c s) (e : len = len') (k : ∀ i, i < len → t i = t' i ∧ c i = c' i ∧ s i = s' i) : Holds w a len' t' c' s' := by
  subst e
  rcases h with h | ⟨b, off, h1, h2, h3⟩
  · exact .inl h
  · exact .inr ⟨b, off, h1, h2, fun i hi => by rw [← (k i hi).1, ← (k i hi).2.1, ← (k i hi).2.2]; exact h3 i hi⟩
theorem HoldsR.same {lo hi : Nat} {w : World} {a : Option Addr} {len len' : Nat} {t c s t' c' s' : Nat → Int} (h : HoldsR lo hi w a len t c s) (e : len = len') (k : ∀ i, i < len → t i = t' i ∧ c i = c' i ∧ s i = s' i) : HoldsR lo hi w a len' t' c' s' := by
  subst e
  rcases h with h | ⟨g, h1, h2, h3, h4, h5⟩
  · exact .inl h
  · exact .inr ⟨g, h1, h2, h3, h4, fun i hi => by rw [← (k i hi).1, ← (k i hi).2.1, ← (k i hi).2.2]; exact h5 i hi⟩
theorem LegIn.same {w : World} {a b : LegD} {p : LegP} (h : LegIn w a p) (k : LegSame a b) : LegIn w b p := ⟨h.1.same k.nL k.L, h.2.1.same k.nS k.S, h.2.2.1.same k.nB k.B, h.2.2.2.same k.nH k.H⟩
theorem LegNew.same {B : Nat} {w : World} {a b : LegD} {p : LegP} (h : LegNew B w a p) (k : LegSame a b) : LegNew B w b p := by
  obtain ⟨hc, b1, b2, b3, b4, q1, q2, q3, q4, q5, h1, h2, h3, h4⟩ := h
  exact ⟨by rw [← k.nL, ← k.nS, ← k.nB, ← k.nH]; exact hc, b1, b2, b3, b4, q1, q2, q3, q4, q5, h1.same k.nL k.L, h2.same k.nS k.S, h3.same k.nB k.B, h4.same k.nH k.H⟩
theorem LegV.same {a b : LegD} (k : LegSame a b) (p : LegP) : LegV a p = LegV b p := by
  unfold LegV
  rw [k.name, k.fr, k.to, k.dep, k.arr, k.cap, k.nL, k.nS, k.nB, k.nH]

/-- A leg of its own, all of whose lists lie ahead of T. -/
def LegNewT (B T : Nat) (w : World) (d : LegD) (p : LegP) : Prop :=
  (d.nL ≤ p.cL ∧ d.nS ≤ p.cS ∧ d.nB ≤ p.cB ∧ d.nH ≤ p.cH) ∧ ∃ b1 b2 b3 b4, B ≤ b1 ∧ b1 ≤ b2 ∧ b2 ≤ b3 ∧ b3 ≤ b4 ∧ b4 ≤ T ∧ T ≤ w.heap.size ∧ NumsR B b1 w p.aL d.nL d.L ∧ NumsR b1 b2 w p.aS d.nS d.S ∧ NumsR b2 b3 w p.aB d.nB d.B ∧ HoldsR b3 b4 w p.aH d.nH d.t d.c d.s
theorem LegNew.toT {B : Nat} {w : World} {d : LegD} {p : LegP} (h : LegNew B w d p) : LegNewT B w.heap.size w d p := by
  obtain ⟨hc, b1, b2, b3, b4, q1, q2, q3, q4, q5, h1, h2, h3, h4⟩ := h
  exact ⟨hc, b1, b2, b3, b4, q1, q2, q3, q4, q5, Nat.le_refl _, h1, h2, h3, h4⟩
theorem LegNewT.new {B T : Nat} {w : World} {d : LegD} {p : LegP} (h : LegNewT B T w d p) : LegNew B w d p := by
  obtain ⟨hc, b1, b2, b3, b4, q1, q2, q3, q4, q5, q6, h1, h2, h3, h4⟩ := h
  exact ⟨hc, b1, b2, b3, b4, q1, q2, q3, q4, Nat.le_trans q5 q6, h1, h2, h3, h4⟩
theorem LegNewT.far {B T : Nat} {w w' : World} {d : LegD} {p : LegP} {row : Option Nat} (h : LegNewT B T w d p) (hg : w.grownBy w' row) (hr : ∀ k, row = some k → k < B ∨ T ≤ k) : LegNewT B T w' d p := by
  obtain ⟨hc, b1, b2, b3, b4, q1, q2, q3, q4, q5, q6, h1, h2, h3, h4⟩ := h
  exact ⟨hc, b1, b2, b3, b4, q1, q2, q3, q4, q5, Nat.le_trans q6 hg.size, h1.far hg (fun k e => by have := hr k e; omega), h2.far hg (fun k e => by have := hr k e; omega), h3.far hg (fun k e => by have := hr k e; omega), h4.far hg (fun k e => by have := hr k e; omega)⟩
theorem LegNewT.kept {B T : Nat} {w w' : World} {d : LegD} {p : LegP} (h : LegNewT B T w d p) (hb : Below w.heap.size w w') : LegNewT B T w' d p := h.far (toGr hb) (fun k e => by cases e)

def zeroD : LegD := ⟨⟨#[]⟩, ⟨#[]⟩, ⟨#[]⟩, 0, 0, 0, 0, fun _ => 0, 0, fun _ => 0, 0, fun _ => 0, 0, fun _ => 0, fun _ => 0, fun _ => 0⟩
def zeroP : LegP := ⟨none, 0, none, 0, none, 0, none, 0⟩
theorem zero_new (w : World) : LegNew w.heap.size w zeroD zeroP := ⟨⟨Nat.le_refl _, Nat.le_refl _, Nat.le_refl _, Nat.le_refl _⟩, _, _, _, _, Nat.le_refl _, Nat.le_refl _, Nat.le_refl _, Nat.le_refl _, Nat.le_refl _, .inl rfl, .inl rfl, .inl rfl, .inl rfl⟩

/-- The first place at which x stands, n if it stands nowhere. -/
def posT (t : Nat → Int) (x : Int) : Nat → Nat
  | 0 => 0
  | n + 1 => if posT t x n < n then posT t x n else if t n = x then n else n + 1
theorem posT_le (t : Nat → Int) (x : Int) : ∀ n, posT t x n ≤ n
  | 0 => Nat.le_refl _
  | n + 1 => by
    have := posT_le t x n
    simp only [posT]
    split
    · omega
    · split <;> omega
theorem posT_at {t : Nat → Int} {x : Int} {k : Nat} (hk : t k = x) (h : ∀ i, i < k → t i ≠ x) : ∀ n, posT t x n = min k n
  | 0 => by simp [posT]
  | n + 1 => by
    have ih := posT_at hk h n
    simp only [posT, ih]
    rcases Nat.lt_trichotomy k n with h1 | rfl | h1
    · rw [if_pos (by omega)]; omega
    · rw [if_neg (by omega), if_pos hk]; omega
    · rw [if_neg (by omega), if_neg (h n h1)]; omega
theorem posT_no {t : Nat → Int} {x : Int} : ∀ n, (∀ i, i < n → t i ≠ x) → posT t x n = n
  | 0, _ => rfl
  | n + 1, h => by
    have ih := posT_no n (fun i hi => h i (by omega))
    simp only [posT, ih]
    rw [if_neg (by omega), if_neg (h n (by omega))]
theorem posT_has {t : Nat → Int} {x : Int} : ∀ n, posT t x n < n → t (posT t x n) = x
  | 0, h => absurd h (Nat.not_lt_zero _)
  | n + 1, h => by
    simp only [posT] at h ⊢
    by_cases h1 : posT t x n < n
    · rw [if_pos h1]; exact posT_has n h1
    · rw [if_neg h1] at h ⊢
      by_cases h2 : t n = x
      · rw [if_pos h2]; exact h2
      · rw [if_neg h2] at h; omega
def sk (k i : Nat) : Nat := if i < k then i else i + 1
def delH (d : LegD) (k : Nat) : LegD := { d with nH := d.nH - 1, t := fun i => d.t (sk k i), c := fun i => d.c (sk k i), s := fun i => d.s (sk k i) }
def dropD (d : LegD) (txn : Int) : LegD := if posT d.t txn d.nH < d.nH then delH d (posT d.t txn d.nH) else d
def keepD (d : LegD) (txn : Int) : LegD := if posT d.t txn d.nH < d.nH then { delH d (posT d.t txn d.nH) with S := fun i => if (i : Int) = d.c (posT d.t txn d.nH) then d.S i + d.s (posT d.t txn d.nH) else d.S i } else d
theorem asc_of {d : LegD} (h : HoldsOk d) {i j : Nat} (hij : i < j) (hj : j < d.nH) : d.t i < d.t j := by
  have key : ∀ q, i + q + 1 < d.nH → d.t i < d.t (i + q + 1) := by
    intro q
    induction q with
    | zero => intro hq; have := (h.2 (i + 1) (by omega)).2; simpa using this
    | succ q ih =>
      intro hq
      have h1 := ih (by omega)
      have := (h.2 (i + (q + 1) + 1) (by omega)).2
      simp at this
      rw [show i + q + 1 = i + (q + 1) from by omega] at h1
      omega
  have := key (j - i - 1) (by omega)
  rwa [show i + (j - i - 1) + 1 = j from by omega] at this
/-- What was taken out of the list is what the leg has at that place. -/
theorem taken_drop {d : LegD} {L M : List Nd} {txn x y z : Int} (ho : HoldsOk d) (hr : RdN L d.t d.c d.s d.nH) (h : Taken L txn x y z M) :
    LegSame (withH d M) (dropD d txn) ∧ ((posT d.t txn d.nH < d.nH ∧ y = d.c (posT d.t txn d.nH) ∧ z = d.s (posT d.t txn d.nH)) ∨ (posT d.t txn d.nH = d.nH ∧ y = 0 ∧ z = 0)) := by
  obtain ⟨k, hp, h⟩ := h
  have hL := hr.1
  have hlt : ∀ i, i < k → d.t i < txn := fun i hi => by
    have e := List.getElem?_eq_getElem (l := L) (i := i) (by have := hp.1; omega)
    have := hp.2.1 i _ hi e
    rwa [(hr.2 i _ e).1] at this
  rcases h with ⟨n, hn, ht, rfl, rfl, rfl, rfl⟩ | ⟨hno, rfl, rfl, rfl, rfl⟩
  · have hkl : k < L.length := by
      rcases Nat.lt_or_ge k L.length with h1 | h1
      · exact h1
      · rw [List.getElem?_eq_none h1] at hn; cases hn
    obtain ⟨e1, e2, e3⟩ := hr.2 k n hn
    have hpos : posT d.t txn d.nH = k := by rw [posT_at (by rw [← e1]; exact ht) (fun i hi => by have := hlt i hi; omega)]; omega
    have hk : k < d.nH := by omega
    refine ⟨?_, .inl ⟨by omega, by rw [hpos, e2], by rw [hpos, e3]⟩⟩
    unfold dropD
    rw [hpos, if_pos hk]
    have hlen : (L.eraseIdx k).length = d.nH - 1 := by rw [List.length_eraseIdx, if_pos hkl, hL]
    refine ⟨rfl, rfl, rfl, rfl, rfl, rfl, rfl, rfl, rfl, hlen, fun _ _ => rfl, fun _ _ => rfl, fun _ _ => rfl, fun i hi => ?_⟩
    have hi' : i < (L.eraseIdx k).length := hi
    have e := List.getElem?_eq_getElem hi'
    have e' := e
    rw [List.getElem?_eraseIdx] at e'
    show tN _ i = d.t (sk k i) ∧ cN _ i = d.c (sk k i) ∧ sN _ i = d.s (sk k i)
    have ev : tN (L.eraseIdx k) i = (L.eraseIdx k)[i].t ∧ cN (L.eraseIdx k) i = (L.eraseIdx k)[i].c ∧ sN (L.eraseIdx k) i = (L.eraseIdx k)[i].s := by
      simp [tN, cN, sN, List.getD_eq_getElem?_getD, List.getElem?_map, e]
    rw [ev.1, ev.2.1, ev.2.2]
    unfold sk
    split at e'
    · rw [if_pos (by assumption)]; exact hr.2 i _ e'
    · rw [if_neg (by assumption)]; exact hr.2 (i + 1) _ e'
  · have hall : ∀ i, i < d.nH → d.t i ≠ txn := fun i hi => by
      rcases Nat.lt_trichotomy i k with h1 | rfl | h1
      · have := hlt i h1; omega
      · have e := List.getElem?_eq_getElem (l := M) (i := i) (by omega)
        have := hno _ e
        rwa [(hr.2 i _ e).1] at this
      · have e := List.getElem?_eq_getElem (l := M) (i := k) (by omega)
        have h2 := hp.2.2 _ e
        have h3 := asc_of ho h1 hi
        rw [(hr.2 k _ e).1] at h2
        omega
    have hpos := posT_no d.nH hall
    refine ⟨?_, .inr ⟨hpos, rfl, rfl⟩⟩
    unfold dropD
    rw [if_neg (by omega)]
    refine ⟨rfl, rfl, rfl, rfl, rfl, rfl, rfl, rfl, rfl, hL, fun _ _ => rfl, fun _ _ => rfl, fun _ _ => rfl, fun i hi => ?_⟩
    exact hr.tN (by rw [← hL]; exact hi)
end Go.Proofs.YtdaccpffdnbkiaaGreatDoor

namespace Go.Proofs.YtdaccpffdnbkiaaGreatDoor
open Go.RowKit Go.BigFrame
set_option linter.unusedVariables false
set_option linter.unusedSimpArgs false

def HeldAt (d : LegD) (txn : Int) (k : Nat) : Prop := k ≤ d.nH ∧ (∀ i, i < k → d.t i < txn) ∧ (k < d.nH → txn ≤ d.t k)
theorem held_pos {d : LegD} {txn : Int} {k : Nat} (ho : HoldsOk d) (h : HeldAt d txn k) : (k < d.nH ∧ d.t k = txn → posT d.t txn d.nH = k) ∧ (¬ (k < d.nH ∧ d.t k = txn) → posT d.t txn d.nH = d.nH) := by
  constructor
  · rintro ⟨h1, h2⟩
    rw [posT_at h2 (fun i hi => by have := h.2.1 i hi; omega)]; omega
  · intro hn
    refine posT_no d.nH (fun i hi => ?_)
    rcases Nat.lt_trichotomy i k with q | rfl | q
    · have := h.2.1 i q; omega
    · exact fun e => hn ⟨hi, e⟩
    · have h1 := h.2.2 (by omega)
      have h2 := asc_of ho q hi
      omega
set_option maxHeartbeats 4000000 in
theorem heldM (d : LegD) (p : LegP) (txn : Int) (w : World) (hin : LegIn w d p) (hn : d.nH ≤ 10) :
    Calls Tryz.prog 76 #[LegV d p, .int .i64 txn] w fun e w' => (∃ k b, HeldAt d txn k ∧ e = .returned (.tuple #[.int .i64 (k : Int), .bool b]) ∧ Hid (b = true ↔ k < d.nH ∧ d.t k = txn)) ∧ Below w.heap.size w w' := by
  have hbA : Below w.heap.size w (w.alloc (.cells (LegC d p) 25)) := (Below.refl _ _).alloc (Nat.le_refl _) _
  have hA := LegBox.new w d p
  have b9 := hA.c9
  have HIn := Lib.hid (hin.2.2.2.kept hbA)
  have HbA := Lib.hid hbA
  rw [LegV_eq]
  generalize hLC : LegC d p = LC at *
  clear hbA hA hin hLC
  go_enter Tryz.func76, Tryz.ntmps76
  go_wp2_with fail
  generalize w.alloc (.cells LC 25) = W at *
  go_loopw [6] (fun v wr => ∃ k : Nat, k ≤ d.nH ∧ v = .int .i64 k ∧ Hid (∀ i, i < k → d.t i < txn) ∧ W = wr) (fun v _ => d.nH - (intOf v).toNat)
  case atStart => exact ⟨0, Nat.zero_le _, rfl, fun i hi => absurd hi (Nat.not_lt_zero _), rfl⟩
  case round =>
    obtain ⟨k, hk, rfl, hto, rfl⟩ := hrel
    rcases Nat.lt_or_ge k d.nH with hlt | hge
    · obtain ⟨bH, oH, eH, hbH, hcH⟩ := HIn.out.cells (by omega)
      rw [eH] at b9
      have c1 := (hcH k hlt).1
      have k1 : (k : Int) < d.nH := by omega
      have k0 : (0 : Int) ≤ k := by omega
      have zk : decide ((k : Int) < d.nH) = true := decide_eq_true k1
      clear hcH eH
      generalize hx : d.t k = x at *
      have HX := Lib.hid hx
      clear hx
      rcases Int.lt_or_le x txn with h1 | h1
      · have hnx : Hid (∀ i, i < k + 1 → d.t i < txn) := by
          intro i hi
          rcases Nat.lt_or_ge i k with q | q
          · exact hto.out i q
          · obtain rfl : i = k := by omega
            rw [HX.out]; exact h1
        have zx : decide (x < txn) = true := decide_eq_true h1
        go_wp2
        go_roundw
        case rel => exact ⟨k + 1, by omega, by go_num, hnx.out, (by first | rfl | trivial)⟩
        case measure => simp [intOf]; omega
      · have hat : Hid (HeldAt d txn k) := ⟨hk, hto.out, fun _ => by rw [HX.out]; exact h1⟩
        have zx : decide (x < txn) = false := decide_eq_false (by omega)
        by_cases he : x = txn
        · have hyes : Hid (k < d.nH ∧ d.t k = txn) := ⟨hlt, by rw [HX.out]; exact he⟩
          have ze : (x == txn) = true := by simpa using he
          have zd : decide (x = txn) = true := by simpa using he
          clear he
          go_wp2_with fail
          go_big_quiet (fail)
          go_wp2
          go_ret2
          exact ⟨⟨k, true, hat.out, rfl, ⟨fun _ => hyes.out, fun _ => rfl⟩⟩, belowN HbA.out _⟩
        · have hno : Hid (¬ (k < d.nH ∧ d.t k = txn)) := fun h => he (by rw [← HX.out]; exact h.2)
          have ze : (x == txn) = false := by simpa using he
          have zd : decide (x = txn) = false := by simpa using he
          clear he
          go_wp2_with fail
          go_big_quiet (fail)
          go_wp2
          go_ret2
          exact ⟨⟨k, false, hat.out, rfl, ⟨fun h => (by cases h), fun h => absurd h hno.out⟩⟩, belowN HbA.out _⟩
    · have hat : Hid (HeldAt d txn k) := ⟨hk, hto.out, fun h => by omega⟩
      have hno : Hid (¬ (k < d.nH ∧ d.t k = txn)) := fun h => by omega
      have zk : decide ((k : Int) < d.nH) = false := decide_eq_false (by omega)
      have zk2 : decide (k < d.nH) = false := decide_eq_false (by omega)
      have zk3 : ¬ ((k : Int) < d.nH) := by omega
      go_wp2_with fail
      go_big_quiet (fail)
      go_wp2
      go_ret2
      exact ⟨⟨k, false, hat.out, rfl, ⟨fun h => (by cases h), fun h => absurd h hno.out⟩⟩, belowN HbA.out _⟩
end Go.Proofs.YtdaccpffdnbkiaaGreatDoor

namespace Go.Proofs.YtdaccpffdnbkiaaGreatDoor
open Go.RowKit
set_option linter.unusedVariables false
set_option linter.unusedSimpArgs false

def CanH (d : LegD) (t c s share : Int) : Prop := Hold1 t c s d.cap ∧ (s < 0 → -s ≤ d.S c.toNat - backB d c.toNat) ∧ (0 ≤ s → s ≤ roomN d (c.toNat + 1) ∧ bidB d ≤ share)
end Go.Proofs.YtdaccpffdnbkiaaGreatDoor

namespace Go.Proofs.YtdaccpffdnbkiaaGreatDoor
open Go.RowKit
set_option linter.unusedVariables false
set_option linter.unusedSimpArgs false

def putF (f : Nat → Int) (k : Nat) (x : Int) (i : Nat) : Int := if i < k then f i else if i = k then x else f (i - 1)
def putD (d : LegD) (k : Nat) (t c s : Int) : LegD := { d with nH := d.nH + 1, t := putF d.t k t, c := putF d.c k c, s := putF d.s k s }
def CanPut (d : LegD) (t c s share : Int) : Prop := d.nH < 6 ∧ (∀ i, i < d.nH → d.t i ≠ t) ∧ CanH d t c s share
def HoldIs (d : LegD) (t c s share : Int) (d' : LegD) (b : Bool) : Prop :=
  (¬ OkLeg d → d' = zeroD ∧ b = false) ∧ (OkLeg d → (b = true ↔ CanPut d t c s share) ∧ (b = true → ∃ k, HeldAt d t k ∧ d' = putD d k t c s) ∧ (b = false → d' = d))
def HoldPost (d : LegD) (t c s share : Int) (w : World) (e : Ending) (w' : World) : Prop :=
  ∃ d' p' b, e = .returned (.tuple #[LegV d' p', .bool b]) ∧ Hid (HoldIs d t c s share d' b) ∧ LegNew w.heap.size w' d' p' ∧ Below w.heap.size w w'
theorem heldAt_one {d : LegD} {t : Int} {k k' : Nat} (h : HeldAt d t k) (h' : HeldAt d t k') : k = k' := by
  rcases Nat.lt_trichotomy k k' with q | q | q
  · have h1 := h'.2.1 k q
    have h2 := h.2.2 (by have := h'.1; omega)
    omega
  · exact q
  · have h1 := h.2.1 k' q
    have h2 := h'.2.2 (by have := h.1; omega)
    omega
theorem holdIs_one {d a b : LegD} {t c s share : Int} {x y : Bool} (h : HoldIs d t c s share a x) (h' : HoldIs d t c s share b y) : a = b ∧ x = y := by
  by_cases q : OkLeg d
  · obtain ⟨i1, i2, i3⟩ := h.2 q
    obtain ⟨j1, j2, j3⟩ := h'.2 q
    cases x <;> cases y
    · exact ⟨by rw [i3 rfl, j3 rfl], rfl⟩
    · have := i1.2 (j1.1 rfl); cases this
    · have := j1.2 (i1.1 rfl); cases this
    · obtain ⟨k, hk, rfl⟩ := i2 rfl
      obtain ⟨k', hk', rfl⟩ := j2 rfl
      rw [heldAt_one hk hk']
      exact ⟨rfl, rfl⟩
  · obtain ⟨rfl, rfl⟩ := h.1 q
    obtain ⟨rfl, rfl⟩ := h'.1 q
    exact ⟨rfl, rfl⟩
theorem rd_at {d : LegD} {L : List Nd} {t : Int} {k : Nat} (hr : RdN L d.t d.c d.s d.nH) (h : AtPos L t k) : HeldAt d t k := by
  have hl := hr.1
  refine ⟨by have := h.1; omega, fun i hi => ?_, fun hk => ?_⟩
  · have e := List.getElem?_eq_getElem (l := L) (i := i) (by have := h.1; omega)
    have := h.2.1 i _ hi e
    rwa [(hr.2 i _ e).1] at this
  · have e := List.getElem?_eq_getElem (l := L) (i := k) (by omega)
    have := h.2.2 _ e
    rwa [(hr.2 k _ e).1] at this
theorem has_iff {d : LegD} {L : List Nd} {t : Int} {k : Nat} (ho : HoldsOk d) (hr : RdN L d.t d.c d.s d.nH) (h : AtPos L t k) : (∃ n, L[k]? = some n ∧ n.t = t) ↔ ¬ ∀ i, i < d.nH → d.t i ≠ t := by
  have ha := rd_at hr h
  have hl := hr.1
  constructor
  · rintro ⟨n, hn, ht⟩ hall
    have hk : k < L.length := by
      rcases Nat.lt_or_ge k L.length with q | q
      · exact q
      · rw [List.getElem?_eq_none q] at hn; cases hn
    exact hall k (by omega) (by rw [← (hr.2 k n hn).1]; exact ht)
  · intro hno
    have : ∃ i, i < d.nH ∧ d.t i = t := by
      rcases Classical.em (∃ i, i < d.nH ∧ d.t i = t) with q | q
      · exact q
      · exact absurd (fun i hi he => q ⟨i, hi, he⟩) hno
    obtain ⟨i, hi, he⟩ := this
    have hki : k ≤ i := by
      rcases Nat.lt_or_ge i k with q | q
      · have := ha.2.1 i q; omega
      · exact q
    have e := List.getElem?_eq_getElem (l := L) (i := k) (by omega)
    refine ⟨_, e, ?_⟩
    rw [(hr.2 k _ e).1]
    have h2 := ha.2.2 (by omega)
    rcases Nat.lt_or_ge k i with q | q
    · have := asc_of ho q hi; omega
    · obtain rfl : k = i := by omega
      exact he
theorem with_same {d : LegD} {L : List Nd} (hr : RdN L d.t d.c d.s d.nH) : LegSame (withH d L) d :=
  ⟨rfl, rfl, rfl, rfl, rfl, rfl, rfl, rfl, rfl, hr.1, fun _ _ => rfl, fun _ _ => rfl, fun _ _ => rfl, fun i hi => hr.tN (by rw [← hr.1]; exact hi)⟩
theorem put_same {d : LegD} {L : List Nd} {t c s : Int} {k b : Nat} (hr : RdN L d.t d.c d.s d.nH) (h : AtPos L t k) : LegSame (withH d (L.insertIdx k ⟨b, t, c, s⟩)) (putD d k t c s) := by
  have hl := hr.1
  have hlen : (L.insertIdx k ⟨b, t, c, s⟩).length = d.nH + 1 := by rw [List.length_insertIdx_of_le_length h.1, hl]
  refine ⟨rfl, rfl, rfl, rfl, rfl, rfl, rfl, rfl, rfl, hlen, fun _ _ => rfl, fun _ _ => rfl, fun _ _ => rfl, fun i hi => ?_⟩
  have hi' : i < (L.insertIdx k ⟨b, t, c, s⟩).length := hi
  have e := List.getElem?_eq_getElem hi'
  have ev : tN (L.insertIdx k ⟨b, t, c, s⟩) i = (L.insertIdx k ⟨b, t, c, s⟩)[i].t ∧ cN (L.insertIdx k ⟨b, t, c, s⟩) i = (L.insertIdx k ⟨b, t, c, s⟩)[i].c ∧ sN (L.insertIdx k ⟨b, t, c, s⟩) i = (L.insertIdx k ⟨b, t, c, s⟩)[i].s := by
    simp [tN, cN, sN, List.getD_eq_getElem?_getD, List.getElem?_map, e]
  show tN _ i = putF d.t k t i ∧ cN _ i = putF d.c k c i ∧ sN _ i = putF d.s k s i
  rw [ev.1, ev.2.1, ev.2.2]
  unfold putF
  have e' := e
  rw [List.getElem?_insertIdx] at e'
  rcases Nat.lt_trichotomy i k with q | q | q
  · rw [if_pos q] at e'
    rw [if_pos q, if_pos q, if_pos q]
    exact hr.2 i _ e'
  · subst q
    rw [if_neg (by omega), if_pos rfl, if_pos h.1] at e'
    rw [if_neg (by omega), if_pos rfl, if_neg (by omega), if_pos rfl, if_neg (by omega), if_pos rfl]
    rw [← Option.some.inj e']
    exact ⟨rfl, rfl, rfl⟩
  · rw [if_neg (by omega), if_neg (by omega)] at e'
    rw [if_neg (by omega), if_neg (by omega), if_neg (by omega), if_neg (by omega), if_neg (by omega), if_neg (by omega)]
    exact hr.2 (i - 1) _ e'
end Go.Proofs.YtdaccpffdnbkiaaGreatDoor

namespace Go.Proofs.YtdaccpffdnbkiaaGreatDoor
open Go.RowKit
set_option linter.unusedVariables false
set_option linter.unusedSimpArgs false

def sumF (f : Nat → Int) : Nat → Int
  | 0 => 0
  | n + 1 => sumF f n + f n
theorem sumF_congr {f g : Nat → Int} : ∀ (n : Nat), (∀ i, i < n → f i = g i) → sumF f n = sumF g n
  | 0, _ => rfl
  | n + 1, h => by simp only [sumF]; rw [sumF_congr n (fun i hi => h i (by omega)), h n (by omega)]
theorem usedH_sum (c s : Nat → Int) (q : Int) : ∀ n, usedH c s q n = sumF (fun i => if q ≤ c i then max (s i) 0 else 0) n
  | 0 => rfl
  | n + 1 => by simp only [usedH, sumF]; rw [usedH_sum c s q n]
theorem backH_sum (c s : Nat → Int) (q : Int) : ∀ n, backH c s q n = sumF (fun i => if c i = q then max (-(s i)) 0 else 0) n
  | 0 => rfl
  | n + 1 => by simp only [backH, sumF]; rw [backH_sum c s q n]
theorem sumF_ins (f : Nat → Int) (k : Nat) (x : Int) : ∀ n, k ≤ n → sumF (putF f k x) (n + 1) = sumF f n + x
  | 0, h => by
    obtain rfl : k = 0 := by omega
    simp [sumF, putF]
  | n + 1, h => by
    have e : sumF (putF f k x) (n + 1 + 1) = sumF (putF f k x) (n + 1) + putF f k x (n + 1) := rfl
    rw [e]
    rcases Nat.lt_or_ge k (n + 1) with q | q
    · rw [sumF_ins f k x n (by omega)]
      have : putF f k x (n + 1) = f n := by simp [putF, show ¬ n + 1 < k by omega, show ¬ n + 1 = k by omega]
      rw [this]
      simp only [sumF]
      omega
    · obtain rfl : k = n + 1 := by omega
      have h1 : putF f (n + 1) x (n + 1) = x := by simp [putF]
      rw [h1, sumF_congr (g := f) (n + 1) (fun i hi => by simp [putF, hi])]
theorem sumF_del (f : Nat → Int) (k : Nat) : ∀ n, k ≤ n → sumF (fun i => f (sk k i)) n + f k = sumF f (n + 1)
  | 0, h => by
    obtain rfl : k = 0 := by omega
    simp [sumF]
  | n + 1, h => by
    rcases Nat.lt_or_ge k (n + 1) with q | q
    · have ih := sumF_del f k n (by omega)
      have e1 : sumF (fun i => f (sk k i)) (n + 1) = sumF (fun i => f (sk k i)) n + f (sk k n) := rfl
      have e2 : sumF f (n + 1 + 1) = sumF f (n + 1) + f (n + 1) := rfl
      have e3 : sk k n = n + 1 := by simp [sk, show ¬ n < k by omega]
      rw [e1, e2, e3]
      omega
    · obtain rfl : k = n + 1 := by omega
      rw [sumF_congr (g := f) (n + 1) (fun i hi => by simp [sk, hi])]
      rfl
theorem used_put (d : LegD) {k : Nat} (t c s : Int) (hk : k ≤ d.nH) (q : Nat) : usedB (putD d k t c s) q = usedB d q + (if (q : Int) ≤ c then max s 0 else 0) := by
  unfold usedB
  show sumS d.S q (3 - q) + usedH (putF d.c k c) (putF d.s k s) q (d.nH + 1) = _
  rw [usedH_sum, usedH_sum, sumF_congr (g := putF (fun i => if (q : Int) ≤ d.c i then max (d.s i) 0 else 0) k (if (q : Int) ≤ c then max s 0 else 0)) _ (fun i _ => ?_), sumF_ins _ _ _ _ hk]
  · omega
  · unfold putF; split
    · rfl
    · split <;> rfl
theorem back_put (d : LegD) {k : Nat} (t c s : Int) (hk : k ≤ d.nH) (q : Nat) : backB (putD d k t c s) q = backB d q + (if c = (q : Int) then max (-s) 0 else 0) := by
  unfold backB
  show backH (putF d.c k c) (putF d.s k s) q (d.nH + 1) = _
  rw [backH_sum, backH_sum, sumF_congr (g := putF (fun i => if d.c i = (q : Int) then max (-(d.s i)) 0 else 0) k (if c = (q : Int) then max (-s) 0 else 0)) _ (fun i _ => ?_), sumF_ins _ _ _ _ hk]
  unfold putF; split
  · rfl
  · split <;> rfl
theorem usedH_del (d : LegD) {k : Nat} (hk : k < d.nH) (q : Int) : usedH (fun i => d.c (sk k i)) (fun i => d.s (sk k i)) q (d.nH - 1) + (if q ≤ d.c k then max (d.s k) 0 else 0) = usedH d.c d.s q d.nH := by
  have := sumF_del (fun i => if q ≤ d.c i then max (d.s i) 0 else 0) k (d.nH - 1) (by omega)
  rw [usedH_sum, usedH_sum, show d.nH = d.nH - 1 + 1 from by omega]
  exact this
theorem backH_del (d : LegD) {k : Nat} (hk : k < d.nH) (q : Int) : backH (fun i => d.c (sk k i)) (fun i => d.s (sk k i)) q (d.nH - 1) + (if d.c k = q then max (-(d.s k)) 0 else 0) = backH d.c d.s q d.nH := by
  have := sumF_del (fun i => if d.c i = q then max (-(d.s i)) 0 else 0) k (d.nH - 1) (by omega)
  rw [backH_sum, backH_sum, show d.nH = d.nH - 1 + 1 from by omega]
  exact this
theorem room_le (d : LegD) : ∀ (m q : Nat), q ≤ m → roomN d (m + 1) ≤ leftB d q
  | 0, q, h => by
    obtain rfl : q = 0 := by omega
    simp only [roomN]; omega
  | m + 1, q, h => by
    rcases Nat.lt_or_ge q (m + 1) with r | r
    · have := room_le d m q (by omega)
      have e : roomN d (m + 1 + 1) = min (roomN d (m + 1)) (leftB d (m + 1)) := rfl
      omega
    · obtain rfl : q = m + 1 := by omega
      have e : roomN d (m + 1 + 1) = min (roomN d (m + 1)) (leftB d (m + 1)) := rfl
      omega
theorem holds_del {d : LegD} (h : HoldsOk d) {k : Nat} (hk : k < d.nH) (D : LegD) (hn : D.nH = d.nH - 1) (hc : D.cap = d.cap) (ht : D.t = fun i => d.t (sk k i)) (hcc : D.c = fun i => d.c (sk k i)) (hs : D.s = fun i => d.s (sk k i)) : HoldsOk D := by
  refine ⟨by have := h.1; omega, fun i hi => ?_⟩
  rw [ht, hcc, hs, hc]
  have hi2 : sk k i < d.nH := by unfold sk; split <;> omega
  refine ⟨(h.2 _ hi2).1, ?_⟩
  by_cases h0 : i = 0
  · rw [if_pos h0]
    have := (h.2 _ hi2).1.1
    show 0 < d.t (sk k i)
    omega
  · rw [if_neg h0]
    show d.t (sk k (i - 1)) < d.t (sk k i)
    refine asc_of h ?_ hi2
    unfold sk
    split <;> split <;> omega
theorem okLeg_put {d : LegD} (h : OkLeg d) {k : Nat} {t c s share : Int} (hk : HeldAt d t k) (hc : CanPut d t c s share) : OkLeg (putD d k t c s) := by
  obtain ⟨h1, h2, h3, h4⟩ := h
  obtain ⟨c1, c2, c3, c4, c5⟩ := hc
  refine ⟨h1, h2, ⟨by show d.nH + 1 ≤ 6; omega, fun i hi => ?_⟩, fun q hq => ?_⟩
  · have hi' : i < d.nH + 1 := hi
    show Hold1 (putF d.t k t i) (putF d.c k c i) (putF d.s k s i) d.cap ∧ (if i = 0 then 0 else putF d.t k t (i - 1)) < putF d.t k t i
    unfold putF
    rcases Nat.lt_trichotomy i k with r | r | r
    · rw [if_pos r, if_pos r, if_pos r]
      have := h3.2 i (by have := hk.1; omega)
      refine ⟨this.1, ?_⟩
      split
      · have := this.1.1; omega
      · rw [if_pos (by omega)]; exact asc_of h3 (by omega) (by have := hk.1; omega)
    · subst r
      rw [if_neg (by omega), if_pos rfl, if_neg (by omega), if_pos rfl, if_neg (by omega), if_pos rfl]
      refine ⟨c3, ?_⟩
      split
      · have := c3.1; omega
      · rw [if_pos (by omega)]; exact hk.2.1 _ (by omega)
    · rw [if_neg (by omega), if_neg (by omega), if_neg (by omega), if_neg (by omega), if_neg (by omega), if_neg (by omega)]
      have := h3.2 (i - 1) (by omega)
      refine ⟨this.1, ?_⟩
      rw [if_neg (by omega)]
      by_cases e : i - 1 = k
      · rw [if_neg (by omega), if_pos e]
        have h5 := hk.2.2 (by omega)
        have h6 := c2 k (by omega)
        rw [e]; omega
      · rw [if_neg (by omega), if_neg e]
        exact asc_of h3 (by omega) (by omega)
  · have hf := h4 q hq
    have hu := used_put d t c s hk.1 q
    have hb := back_put d t c s hk.1 q
    unfold fitK leftB at hf ⊢
    show 0 ≤ d.L q - usedB (putD d k t c s) q ∧ backB (putD d k t c s) q ≤ d.S q
    rw [hu, hb]
    have hcn : c.toNat = c := Int.toNat_of_nonneg c3.2.1.1
    constructor
    · split
      · rcases Int.lt_or_le s 0 with r | r
        · omega
        · have h5 := (c5 r).1
          have h6 := room_le d c.toNat q (by omega)
          unfold leftB at h6
          omega
      · omega
    · split
      · rename_i e
        rcases Int.lt_or_le s 0 with r | r
        · have h5 := c4 r
          have h6 : c.toNat = q := by omega
          rw [h6] at h5
          omega
        · omega
      · omega
theorem okLeg_del {d : LegD} (h : OkLeg d) {k : Nat} (hk : k < d.nH) : OkLeg (delH d k) := by
  obtain ⟨h1, h2, h3, h4⟩ := h
  refine ⟨h1, h2, holds_del h3 hk _ rfl rfl rfl rfl rfl, fun q hq => ?_⟩
  have hf := h4 q hq
  have hu := usedH_del d hk (q : Int)
  have hb := backH_del d hk (q : Int)
  unfold fitK leftB usedB backB at hf ⊢
  show 0 ≤ d.L q - (sumS d.S q (3 - q) + usedH (fun i => d.c (sk k i)) (fun i => d.s (sk k i)) q (d.nH - 1)) ∧ backH (fun i => d.c (sk k i)) (fun i => d.s (sk k i)) q (d.nH - 1) ≤ d.S q
  split at hu <;> split at hb <;> omega
theorem okLeg_drop {d : LegD} (h : OkLeg d) (txn : Int) : OkLeg (dropD d txn) := by
  unfold dropD
  split
  · exact okLeg_del h (by assumption)
  · exact h
theorem usedH_ge (c s : Nat → Int) (q : Int) {k : Nat} : ∀ n, k < n → (if q ≤ c k then max (s k) 0 else 0) ≤ usedH c s q n
  | 0, h => by omega
  | n + 1, h => by
    have h0 : ∀ n, 0 ≤ usedH c s q n := by
      intro n
      induction n with
      | zero => exact Int.le_refl _
      | succ n ih => simp only [usedH]; split <;> omega
    simp only [usedH]
    rcases Nat.lt_or_ge k n with r | r
    · have := usedH_ge c s q n r
      split <;> split at this <;> omega
    · obtain rfl : k = n := by omega
      have := h0 k
      omega
theorem backH_ge (c s : Nat → Int) (q : Int) {k : Nat} : ∀ n, k < n → (if c k = q then max (-(s k)) 0 else 0) ≤ backH c s q n
  | 0, h => by omega
  | n + 1, h => by
    have h0 : ∀ n, 0 ≤ backH c s q n := by
      intro n
      induction n with
      | zero => exact Int.le_refl _
      | succ n ih => simp only [backH]; split <;> omega
    simp only [backH]
    rcases Nat.lt_or_ge k n with r | r
    · have := backH_ge c s q n r
      split <;> split at this <;> omega
    · obtain rfl : k = n := by omega
      have := h0 k
      omega
theorem okLeg_keep {d : LegD} (h : OkLeg d) (txn : Int) : OkLeg (keepD d txn) := by
  unfold keepD
  split
  rotate_left
  · exact h
  rename_i hk
  generalize posT d.t txn d.nH = k at *
  obtain ⟨h1, h2, h3, h4⟩ := h
  have hK := (h3.2 k hk).1
  obtain ⟨m, hm⟩ := Int.eq_ofNat_of_zero_le hK.2.1.1
  have hm3 : m < 3 := by have := hK.2.1.2; omega
  have hsold := h2.2.2.2.1
  have hcap := h2.1
  have hlim := h2.2.2.2.2.2.2.2
  have s0 := hsold 0 (by omega)
  have s1 := hsold 1 (by omega)
  have s2 := hsold 2 (by omega)
  have fm := h4 m hm3
  have l0 := falls_top hlim m hm3
  have ug := usedH_ge d.c d.s (m : Int) d.nH hk
  have bg := backH_ge d.c d.s (m : Int) d.nH hk
  rw [hm, if_pos (Int.le_refl _)] at ug
  rw [hm, if_pos rfl] at bg
  have hS' : ∀ i : Nat, i < 3 → 0 ≤ (if (i : Int) = d.c k then d.S i + d.s k else d.S i) ∧ (if (i : Int) = d.c k then d.S i + d.s k else d.S i) ≤ d.cap := by
    intro i hi
    split
    · rename_i e
      obtain rfl : i = m := by omega
      unfold fitK leftB usedB backB at fm
      rcases (by omega : i = 0 ∨ i = 1 ∨ i = 2) with rfl | rfl | rfl <;> simp only [sumS] at fm <;> simp at fm <;> simp at ug bg l0 <;> omega
    · exact hsold i hi
  refine ⟨h1, ⟨h2.1, h2.2.1, h2.2.2.1, hS', h2.2.2.2.2⟩, holds_del h3 hk _ rfl rfl rfl rfl rfl, fun q hq => ?_⟩
  have hf := h4 q hq
  have hu := usedH_del d hk (q : Int)
  have hb := backH_del d hk (q : Int)
  unfold fitK leftB usedB backB at hf ⊢
  show 0 ≤ d.L q - (sumS (fun i => if (i : Int) = d.c k then d.S i + d.s k else d.S i) q (3 - q) + usedH (fun i => d.c (sk k i)) (fun i => d.s (sk k i)) q (d.nH - 1)) ∧ backH (fun i => d.c (sk k i)) (fun i => d.s (sk k i)) q (d.nH - 1) ≤ (if (q : Int) = d.c k then d.S q + d.s k else d.S q)
  rw [hm] at hu hb ⊢
  generalize usedH (fun i => d.c (sk k i)) (fun i => d.s (sk k i)) q (d.nH - 1) = U at *
  generalize backH (fun i => d.c (sk k i)) (fun i => d.s (sk k i)) q (d.nH - 1) = V at *
  rcases (by omega : q = 0 ∨ q = 1 ∨ q = 2) with rfl | rfl | rfl <;> rcases (by omega : m = 0 ∨ m = 1 ∨ m = 2) with rfl | rfl | rfl <;> simp only [sumS] at hf ⊢ <;> simp at hu hb hf ⊢ <;> omega
end Go.Proofs.YtdaccpffdnbkiaaGreatDoor

namespace Go.Proofs.YtdaccpffdnbkiaaGreatDoor
open Go.RowKit
set_option linter.unusedVariables false
set_option linter.unusedSimpArgs false

/-- A leg is handed back: the leg g if l is ok, nothing if not. -/
def LegPost (d g : LegD) (w : World) (e : Ending) (w' : World) : Prop :=
  ∃ d' p', e = .returned (LegV d' p') ∧ Hid ((OkLeg d → d' = g) ∧ (¬ OkLeg d → d' = zeroD)) ∧ LegNew w.heap.size w' d' p' ∧ Below w.heap.size w w'

/-- A store into what is sold. -/
theorem LegNewT.setS {B T : Nat} {w : World} {d : LegD} {p : LegP} (h : LegNewT B T w d p) {m : Nat} (hm : m < d.nS) (v : Int) :
    ∃ g, p.aS = some ⟨g, 0, none⟩ ∧ B ≤ g ∧ g < T ∧ w.cell? ⟨g, m, none⟩ = some (.int .i64 (d.S m)) ∧ w.frozen? ⟨g, m, none⟩ = false ∧ LegNewT B T (w.setCell ⟨g, m, none⟩ (.int .i64 v)) { d with S := fun i => if i = m then v else d.S i } p := by
  obtain ⟨hc, b1, b2, b3, b4, q1, q2, q3, q4, q5, q6, h1, h2, h3, h4⟩ := h
  rcases h2 with h2 | ⟨g, ha, r1, r2, r3, r4⟩
  · omega
  · have gs := grown_set w ⟨g, m, none⟩ (.int .i64 v)
    refine ⟨g, ha, by omega, by omega, (r4 m hm).1, (r4 m hm).2, hc, b1, b2, b3, b4, q1, q2, q3, q4, q5, Nat.le_trans q6 gs.size, h1.far gs (fun k e => by cases e; right; exact r1), ?_, h3.far gs (fun k e => by cases e; left; exact r2), h4.far gs (fun k e => by cases e; left; show g < _; omega)⟩
    refine .inr ⟨g, ha, r1, r2, Nat.lt_of_lt_of_le r3 gs.size, fun i hi => ?_⟩
    have r4i := r4 i hi
    refine ⟨?_, by simpa [go_sem] using r4i.2⟩
    by_cases e : i = m
    · subst e; simp [go_sem, r4i.1]
    · simp [go_sem, r4i.1, e]
theorem keep_same {d : LegD} {txn y z : Int} {D : LegD} (hs : LegSame D (dropD d txn)) {m : Nat} (hy : y = m) (h : (posT d.t txn d.nH < d.nH ∧ y = d.c (posT d.t txn d.nH) ∧ z = d.s (posT d.t txn d.nH)) ∨ (posT d.t txn d.nH = d.nH ∧ y = 0 ∧ z = 0)) :
    LegSame { D with S := fun i => if i = m then D.S m + z else D.S i } (keepD d txn) := by
  unfold keepD
  unfold dropD at hs
  rcases h with ⟨h1, h2, h3⟩ | ⟨h1, h2, h3⟩
  · rw [if_pos h1] at hs ⊢
    refine ⟨hs.name, hs.fr, hs.to, hs.dep, hs.arr, hs.cap, hs.nL, hs.nS, hs.nB, hs.nH, hs.L, fun i hi => ?_, hs.B, hs.H⟩
    have hS : D.S i = d.S i := hs.S i hi
    show (if i = m then D.S m + z else D.S i) = if (i : Int) = d.c _ then d.S i + d.s _ else d.S i
    rw [← h2, ← h3, hy]
    by_cases e : i = m
    · subst e; rw [if_pos rfl, if_pos rfl, hS]
    · rw [if_neg e, if_neg (by omega), hS]
  · rw [if_neg (by omega)] at hs ⊢
    refine ⟨hs.name, hs.fr, hs.to, hs.dep, hs.arr, hs.cap, hs.nL, hs.nS, hs.nB, hs.nH, hs.L, fun i hi => ?_, hs.B, hs.H⟩
    have hS : D.S i = d.S i := hs.S i hi
    show (if i = m then D.S m + z else D.S i) = d.S i
    by_cases e : i = m
    · subst e; rw [if_pos rfl, h3, hS]; omega
    · rw [if_neg e, hS]
theorem LegIn.nS {d : LegD} (h : OkLeg d) : d.nS = 3 := h.2.1.2.2.1

end Go.Proofs.YtdaccpffdnbkiaaGreatDoor
