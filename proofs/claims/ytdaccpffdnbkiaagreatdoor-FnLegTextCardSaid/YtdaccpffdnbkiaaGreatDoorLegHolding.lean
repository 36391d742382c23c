/-
  A leg of which just that is held, in new memory: the program's answer.
  A leg of which just that is held, in new memory: the program's answer.
-/
import Derived.Test.YtdaccpffdnbkiaaGreatDoorLink
import Derived.Test.YtdaccpffdnbkiaaGreatDoorShelf
namespace Go.Proofs.YtdaccpffdnbkiaaGreatDoor
open Go.RowKit
set_option linter.unusedVariables false
set_option linter.unusedSimpArgs false

/-- A slice of ints of its own whose block lies from lo on, ahead of hi. -/
def NumsR (lo hi : Nat) (w : World) (a : Option Addr) (len : Nat) (z : Nat → Int) : Prop :=
  len = 0 ∨ ∃ g, a = some ⟨g, 0, none⟩ ∧ lo ≤ g ∧ g < hi ∧ g < w.heap.size ∧ ∀ i, i < len → w.cell? ⟨g, i, none⟩ = some (.int .i64 (z i)) ∧ w.frozen? ⟨g, i, none⟩ = false
def HoldsR (lo hi : Nat) (w : World) (a : Option Addr) (len : Nat) (t c s : Nat → Int) : Prop :=
  len = 0 ∨ ∃ g, a = some ⟨g, 0, none⟩ ∧ lo ≤ g ∧ g < hi ∧ g < w.heap.size ∧ ∀ i, i < len → (w.cell? ⟨g, i * 3, none⟩ = some (.int .i64 (t i)) ∧ w.cell? ⟨g, i * 3 + 1, none⟩ = some (.int .i64 (c i)) ∧ w.cell? ⟨g, i * 3 + 2, none⟩ = some (.int .i64 (s i))) ∧ ∀ j, j < len * 3 → w.frozen? ⟨g, j, none⟩ = false
theorem NumsR.far {lo hi : Nat} {w w' : World} {a : Option Addr} {len : Nat} {z : Nat → Int} {row : Option Nat} (h : NumsR lo hi w a len z) (hg : w.grownBy w' row) (hr : ∀ k, row = some k → k < lo ∨ hi ≤ k) : NumsR lo hi w' a len z := by
  rcases h with h | ⟨g, h1, h2, h5, h3, h4⟩
  · exact Or.inl h
  · have hne : some g ≠ row := fun e => by have := hr g e.symm; omega
    exact Or.inr ⟨g, h1, h2, h5, Nat.lt_of_lt_of_le h3 hg.size, fun i hi => ⟨(hg.cell_far ⟨g, i, none⟩ h3 hne).trans (h4 i hi).1, (hg.frozen_far ⟨g, i, none⟩ h3 hne).trans (h4 i hi).2⟩⟩
theorem HoldsR.far {lo hi : Nat} {w w' : World} {a : Option Addr} {len : Nat} {t c s : Nat → Int} {row : Option Nat} (h : HoldsR lo hi w a len t c s) (hg : w.grownBy w' row) (hr : ∀ k, row = some k → k < lo ∨ hi ≤ k) : HoldsR lo hi w' a len t c s := by
  rcases h with h | ⟨g, h1, h2, h5, h3, h4⟩
  · exact Or.inl h
  · have hne : some g ≠ row := fun e => by have := hr g e.symm; omega
    exact Or.inr ⟨g, h1, h2, h5, Nat.lt_of_lt_of_le h3 hg.size, fun i hi => ⟨⟨(hg.cell_far ⟨g, i * 3, none⟩ h3 hne).trans (h4 i hi).1.1, (hg.cell_far ⟨g, i * 3 + 1, none⟩ h3 hne).trans (h4 i hi).1.2.1, (hg.cell_far ⟨g, i * 3 + 2, none⟩ h3 hne).trans (h4 i hi).1.2.2⟩, fun j hj => (hg.frozen_far ⟨g, j, none⟩ h3 hne).trans ((h4 i hi).2 j hj)⟩⟩
theorem NumsR.kept {lo hi : Nat} {w w' : World} {a : Option Addr} {len : Nat} {z : Nat → Int} (h : NumsR lo hi w a len z) (hb : Below w.heap.size w w') : NumsR lo hi w' a len z := h.far (toGr hb) (fun k e => by cases e)
theorem HoldsR.kept {lo hi : Nat} {w w' : World} {a : Option Addr} {len : Nat} {t c s : Nat → Int} (h : HoldsR lo hi w a len t c s) (hb : Below w.heap.size w w') : HoldsR lo hi w' a len t c s := h.far (toGr hb) (fun k e => by cases e)
theorem NumsR.nums {lo hi : Nat} {w : World} {a : Option Addr} {len : Nat} {z : Nat → Int} (h : NumsR lo hi w a len z) : Nums w a len z := by
  rcases h with h | ⟨g, h1, -, -, h3, h4⟩
  · exact Or.inl h
  · exact Or.inr ⟨g, 0, h1, h3, fun i hi => by rw [Nat.zero_add]; exact (h4 i hi).1⟩
theorem HoldsR.holds {lo hi : Nat} {w : World} {a : Option Addr} {len : Nat} {t c s : Nat → Int} (h : HoldsR lo hi w a len t c s) : Holds w a len t c s := by
  rcases h with h | ⟨g, h1, -, -, h3, h4⟩
  · exact Or.inl h
  · exact Or.inr ⟨g, 0, h1, h3, fun i hi => by rw [Nat.zero_add]; exact (h4 i hi).1⟩

/-- A leg of its own: each of its lists in a block of its own, from B on. -/
def LegNew (B : Nat) (w : World) (d : LegD) (p : LegP) : Prop :=
  (d.nL ≤ p.cL ∧ d.nS ≤ p.cS ∧ d.nB ≤ p.cB ∧ d.nH ≤ p.cH) ∧ ∃ b1 b2 b3 b4, B ≤ b1 ∧ b1 ≤ b2 ∧ b2 ≤ b3 ∧ b3 ≤ b4 ∧ b4 ≤ w.heap.size ∧ NumsR B b1 w p.aL d.nL d.L ∧ NumsR b1 b2 w p.aS d.nS d.S ∧ NumsR b2 b3 w p.aB d.nB d.B ∧ HoldsR b3 b4 w p.aH d.nH d.t d.c d.s
theorem LegNew.leg {B : Nat} {w : World} {d : LegD} {p : LegP} (h : LegNew B w d p) : LegIn w d p := by
  obtain ⟨-, b1, b2, b3, b4, -, -, -, -, -, h1, h2, h3, h4⟩ := h
  exact ⟨h1.nums, h2.nums, h3.nums, h4.holds⟩
theorem LegNew.kept {B : Nat} {w w' : World} {d : LegD} {p : LegP} (h : LegNew B w d p) (hb : Below w.heap.size w w') : LegNew B w' d p := by
  obtain ⟨hc, b1, b2, b3, b4, q1, q2, q3, q4, q5, h1, h2, h3, h4⟩ := h
  exact ⟨hc, b1, b2, b3, b4, q1, q2, q3, q4, Nat.le_trans q5 hb.size, h1.kept hb, h2.kept hb, h3.kept hb, h4.kept hb⟩
theorem LegNew.far {B : Nat} {w w' : World} {d : LegD} {p : LegP} {row : Option Nat} (h : LegNew B w d p) (hg : w.grownBy w' row) (hr : ∀ k, row = some k → k < B) : LegNew B w' d p := by
  obtain ⟨hc, b1, b2, b3, b4, q1, q2, q3, q4, q5, h1, h2, h3, h4⟩ := h
  exact ⟨hc, b1, b2, b3, b4, q1, q2, q3, q4, Nat.le_trans q5 hg.size, h1.far hg (fun k e => by have := hr k e; omega), h2.far hg (fun k e => by have := hr k e; omega), h3.far hg (fun k e => by have := hr k e; omega), h4.far hg (fun k e => by have := hr k e; omega)⟩

theorem own_nums {W : World} {base len : Nat} {v : Value} {xs : List Value} {z : Nat → Int} (h : W.ownsRow base 3 1 v len xs) (hz : ∀ i, i < len → xs[i]? = some (.int .i64 (z i))) :
    ∃ a cap, v = .slice a len cap ∧ len ≤ cap ∧ NumsR base W.heap.size W a len z := by
  rcases h.2 with ⟨rfl, h0⟩ | ⟨g, cap, cur, rfl, hb, hg, hc, -⟩
  · exact ⟨none, 0, by rw [h0], by omega, .inl h0⟩
  · exact ⟨some ⟨g, 0, none⟩, cap, rfl, hc, .inr ⟨g, rfl, hb, lt_heap hg, lt_heap hg, fun i hi => ⟨(h.cellAt i (by omega)).trans (hz i hi), h.frozenAt i⟩⟩⟩
theorem own_holdsR {W : World} {base : Nat} {v : Value} {L : List Nd} (h : W.ownsRow base 58 3 v L.length (flatN L)) :
    ∃ a cap, v = .slice a L.length cap ∧ L.length ≤ cap ∧ HoldsR base W.heap.size W a L.length (tN L) (cN L) (sN L) := by
  rcases h.2 with ⟨rfl, h0⟩ | ⟨g, cap, cur, rfl, hb, hg, hc, -⟩
  · exact ⟨none, 0, by rw [h0], by omega, .inl h0⟩
  · refine ⟨some ⟨g, 0, none⟩, cap, rfl, hc, .inr ⟨g, rfl, hb, lt_heap hg, lt_heap hg, fun i hi => ⟨?_, fun j _ => h.frozenAt j⟩⟩⟩
    have hf := flatN_at L i hi
    exact ⟨(h.cellAt (i * 3) (by omega)).trans hf.1, (h.cellAt (i * 3 + 1) (by omega)).trans hf.2.1, (h.cellAt (i * 3 + 2) (by omega)).trans hf.2.2⟩

def CloneP (len : Nat) (z : Nat → Int) (w : World) (e : Ending) (w' : World) : Prop :=
  ∃ a cap, e = .returned (.slice a len cap) ∧ len ≤ cap ∧ NumsR w.heap.size w'.heap.size w' a len z ∧ Below w.heap.size w w'
end Go.Proofs.YtdaccpffdnbkiaaGreatDoor
namespace Go.Proofs.YtdaccpffdnbkiaaGreatDoor
open Go.RowKit
set_option linter.unusedVariables false
set_option linter.unusedSimpArgs false
theorem NumsR.mono {lo hi lo' hi' : Nat} {w : World} {a : Option Addr} {len : Nat} {z : Nat → Int} (h : NumsR lo hi w a len z) (h1 : lo' ≤ lo) (h2 : hi ≤ hi') : NumsR lo' hi' w a len z := by
  rcases h with h | ⟨g, q1, q2, q3, q4⟩
  · exact .inl h
  · exact .inr ⟨g, q1, by omega, by omega, q4⟩
theorem HoldsR.mono {lo hi lo' hi' : Nat} {w : World} {a : Option Addr} {len : Nat} {t c s : Nat → Int} (h : HoldsR lo hi w a len t c s) (h1 : lo' ≤ lo) (h2 : hi ≤ hi') : HoldsR lo' hi' w a len t c s := by
  rcases h with h | ⟨g, q1, q2, q3, q4⟩
  · exact .inl h
  · exact .inr ⟨g, q1, by omega, by omega, q4⟩
def withH (d : LegD) (L : List Nd) : LegD := { d with nH := L.length, t := tN L, c := cN L, s := sN L }
theorem LegBox.set6 {w : World} {b : Nat} {d : LegD} {p : LegP} (h : LegBox w b d p) (a : Option Addr) (c : Nat) : LegBox (w.setCell ⟨b, 6, none⟩ (.slice a d.nL c)) b d { p with aL := a, cL := c } := set_same h _
theorem LegBox.set7 {w : World} {b : Nat} {d : LegD} {p : LegP} (h : LegBox w b d p) (a : Option Addr) (c : Nat) : LegBox (w.setCell ⟨b, 7, none⟩ (.slice a d.nS c)) b d { p with aS := a, cS := c } := set_same h _
theorem LegBox.set8 {w : World} {b : Nat} {d : LegD} {p : LegP} (h : LegBox w b d p) (a : Option Addr) (c : Nat) : LegBox (w.setCell ⟨b, 8, none⟩ (.slice a d.nB c)) b d { p with aB := a, cB := c } := set_same h _
theorem LegBox.set9 {w : World} {b : Nat} {d : LegD} {p : LegP} (h : LegBox w b d p) (L : List Nd) (a : Option Addr) (c : Nat) : LegBox (w.setCell ⟨b, 9, none⟩ (.slice a L.length c)) b (withH d L) { p with aH := a, cH := c } := set_same h _
theorem LegBox.fr {w : World} {b : Nat} {d : LegD} {p : LegP} (h : LegBox w b d p) (i : Nat) : w.frozen? ⟨b, i, none⟩ = false := Lib.frozen_of_heap h i
theorem leg_one1 (d : LegD) (p : LegP) : (LegC d p).all (·.oneCell') = true := by simp [LegC, Value.oneCell']
theorem LegV_eq (d : LegD) (p : LegP) : LegV d p = .agg (LegC d p) := rfl

end Go.Proofs.YtdaccpffdnbkiaaGreatDoor
