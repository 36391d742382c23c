/-
  A leg of which just that is held, in new memory: the program's answer.
  A leg of which just that is held, in new memory: the program's answer.
-/
import Derived.Test.YtmlkjlipjkmcfaaLink
import Derived.Test.YtmlkjlipjkmcfaaShelf
namespace Go.Proofs.Ytmlkjlipjkmcfaa
open Go.RowKit
set_option linter.unusedVariables false
set_option linter.unusedSimpArgs false

/-- A slice of ints of its own whose block lies from lo on, ahead of hi. -/
def NumsR (lo hi : Nat) (w : World) (a : Option Addr) (len : Nat) (z : Nat → Int) : Prop :=
  len = 0 ∨ ∃ g, a = some ⟨g, 0, none⟩ ∧ lo ≤ g ∧ g < hi ∧ g < w.heap.size ∧ ∀ i, i < len → w.cell? ⟨g, i, none⟩ = some (.int .i64 (z i)) ∧ w.frozen? ⟨g, i, none⟩ = false
def HoldsR (lo hi : Nat) (w : World) (a : Option Addr) (len : Nat) (t c s : Nat → Int) : Prop :=
  len = 0 ∨ ∃ g, a = some ⟨g, 0, none⟩ ∧ lo ≤ g ∧ g < hi ∧ g < w.heap.size ∧ ∀ i, i < len → (w.cell? ⟨g, i * 3, none⟩ = some (.int .i64 (t i)) ∧ w.cell? ⟨g, i * 3 + 1, none⟩ = some (.int .i64 (c i)) ∧ w.cell? ⟨g, i * 3 + 2, none⟩ = some (.int .i64 (s i))) ∧ ∀ j, j < len * 3 → w.frozen? ⟨g, j, none⟩ = false
theorem NumsR.far {lo hi : Nat} {w w' : World} {a : Option Addr} {len : Nat} {z : Nat → Int} {row : Option Nat} (h : NumsR lo hi w a len z) (hg : w.grownBy w' row) (hr : ∀ k, row = some k → k < lo ∨ hi ≤ k) : NumsR lo hi w' a len z := by
  rcases h with h | ⟨g, h1, h2, h5, h3, h4⟩
  · exact Or.inl h
  · have hne : some g ≠ row := fun e => by have := hr g e.symm; omega
    exact Or.inr ⟨g, h1, h2, h5, Nat.lt_of_lt_of_le h3 hg.size, fun i hi => ⟨(hg.cell_far ⟨g, i, none⟩ h3 hne).trans (h4 i hi).1, (hg.frozen_far ⟨g, i, none⟩ h3 hne).trans (h4 i hi).2⟩⟩
theorem HoldsR.far {lo hi : Nat} {w w' : World} {a : Option Addr} {len : Nat} {t c s : Nat → Int} {row : Option Nat} (h : HoldsR lo hi w a len t c s) (hg : w.grownBy w' row) (hr : ∀ k, row = some k → k < lo ∨ hi ≤ k) : HoldsR lo hi w' a len t c s := by
  rcases h with h | ⟨g, h1, h2, h5, h3, h4⟩
  · exact Or.inl h
  · have hne : some g ≠ row := fun e => by have := hr g e.symm; omega
    exact Or.inr ⟨g, h1, h2, h5, Nat.lt_of_lt_of_le h3 hg.size, fun i hi => ⟨⟨(hg.cell_far ⟨g, i * 3, none⟩ h3 hne).trans (h4 i hi).1.1, (hg.cell_far ⟨g, i * 3 + 1, none⟩ h3 hne).trans (h4 i hi).1.2.1, (hg.cell_far ⟨g, i * 3 + 2, none⟩ h3 hne).trans (h4 i hi).1.2.2⟩, fun j hj => (hg.frozen_far ⟨g, j, none⟩ h3 hne).trans ((h4 i hi).2 j hj)⟩⟩
theorem NumsR.kept {lo hi : Nat} {w w' : World} {a : Option Addr} {len : Nat} {z : Nat → Int} (h : NumsR lo hi w a len z) (hb : Below w.heap.size w w') : NumsR lo hi w' a len z := h.far (toGr hb) (fun k e => by cases e)
theorem HoldsR.kept {lo hi : Nat} {w w' : World} {a : Option Addr} {len : Nat} {t c s : Nat → Int} (h : HoldsR lo hi w a len t c s) (hb : Below w.heap.size w w') : HoldsR lo hi w' a len t c s := h.far (toGr hb) (fun k e => by cases e)
theorem NumsR.nums {lo hi : Nat} {w : World} {a : Option Addr} {len : Nat} {z : Nat → Int} (h : NumsR lo hi w a len z) : Nums w a len z := by
  rcases h with h | ⟨g, h1, -, -, h3, h4⟩
  · exact Or.inl h
  · exact Or.inr ⟨g, 0, h1, h3, fun i hi => by rw [Nat.zero_add]; exact (h4 i hi).1⟩
theorem HoldsR.holds {lo hi : Nat} {w : World} {a : Option Addr} {len : Nat} {t c s : Nat → Int} (h : HoldsR lo hi w a len t c s) : Holds w a len t c s := by
  rcases h with h | ⟨g, h1, -, -, h3, h4⟩
  · exact Or.inl h
  · exact Or.inr ⟨g, 0, h1, h3, fun i hi => by rw [Nat.zero_add]; exact (h4 i hi).1⟩

/-- A leg of its own: each of its lists in a block of its own, from B on. -/
def LegNew (B : Nat) (w : World) (d : LegD) (p : LegP) : Prop :=
  (d.nL ≤ p.cL ∧ d.nS ≤ p.cS ∧ d.nB ≤ p.cB ∧ d.nH ≤ p.cH) ∧ ∃ b1 b2 b3 b4, B ≤ b1 ∧ b1 ≤ b2 ∧ b2 ≤ b3 ∧ b3 ≤ b4 ∧ b4 ≤ w.heap.size ∧ NumsR B b1 w p.aL d.nL d.L ∧ NumsR b1 b2 w p.aS d.nS d.S ∧ NumsR b2 b3 w p.aB d.nB d.B ∧ HoldsR b3 b4 w p.aH d.nH d.t d.c d.s
theorem LegNew.leg {B : Nat} {w : World} {d : LegD} {p : LegP} (h : LegNew B w d p) : LegIn w d p := by
  obtain ⟨-, b1, b2, b3, b4, -, -, -, -, -, h1, h2, h3, h4⟩ := h
  exact ⟨h1.nums, h2.nums, h3.nums, h4.holds⟩
theorem LegNew.kept {B : Nat} {w w' : World} {d : LegD} {p : LegP} (h : LegNew B w d p) (hb : Below w.heap.size w w') : LegNew B w' d p := by
  obtain ⟨hc, b1, b2, b3, b4, q1, q2, q3, q4, q5, h1, h2, h3, h4⟩ := h
  exact ⟨hc, b1, b2, b3, b4, q1, q2, q3, q4, Nat.le_trans q5 hb.size, h1.kept hb, h2.kept hb, h3.kept hb, h4.kept hb⟩
theorem LegNew.far {B : Nat} {w w' : World} {d : LegD} {p : LegP} {row : Option Nat} (h : LegNew B w d p) (hg : w.grownBy w' row) (hr : ∀ k, row = some k → k < B) : LegNew B w' d p := by
  obtain ⟨hc, b1, b2, b3, b4, q1, q2, q3, q4, q5, h1, h2, h3, h4⟩ := h
  exact ⟨hc, b1, b2, b3, b4, q1, q2, q3, q4, Nat.le_trans q5 hg.size, h1.far hg (fun k e => by have := hr k e; omega), h2.far hg (fun k e => by have := hr k e; omega), h3.far hg (fun k e => by have := hr k e; omega), h4.far hg (fun k e => by have := hr k e; omega)⟩

theorem own_nums {W : World} {base len : Nat} {v : Value} {xs : List Value} {z : Nat → Int} (h : W.ownsRow base 3 1 v len xs) (hz : ∀ i, i < len → xs[i]? = some (.int .i64 (z i))) :
    ∃ a cap, v = .slice a len cap ∧ len ≤ cap ∧ NumsR base W.heap.size W a len z := by
  rcases h.2 with ⟨rfl, h0⟩ | ⟨g, cap, cur, rfl, hb, hg, hc, -⟩
  · exact ⟨none, 0, by rw [h0], by omega, .inl h0⟩
  · exact ⟨some ⟨g, 0, none⟩, cap, rfl, hc, .inr ⟨g, rfl, hb, lt_heap hg, lt_heap hg, fun i hi => ⟨(h.cellAt i (by omega)).trans (hz i hi), h.frozenAt i⟩⟩⟩
theorem own_holdsR {W : World} {base : Nat} {v : Value} {L : List Nd} (h : W.ownsRow base 35 3 v L.length (flatN L)) :
    ∃ a cap, v = .slice a L.length cap ∧ L.length ≤ cap ∧ HoldsR base W.heap.size W a L.length (tN L) (cN L) (sN L) := by
  rcases h.2 with ⟨rfl, h0⟩ | ⟨g, cap, cur, rfl, hb, hg, hc, -⟩
  · exact ⟨none, 0, by rw [h0], by omega, .inl h0⟩
  · refine ⟨some ⟨g, 0, none⟩, cap, rfl, hc, .inr ⟨g, rfl, hb, lt_heap hg, lt_heap hg, fun i hi => ⟨?_, fun j _ => h.frozenAt j⟩⟩⟩
    have hf := flatN_at L i hi
    exact ⟨(h.cellAt (i * 3) (by omega)).trans hf.1, (h.cellAt (i * 3 + 1) (by omega)).trans hf.2.1, (h.cellAt (i * 3 + 2) (by omega)).trans hf.2.2⟩

def CloneP (len : Nat) (z : Nat → Int) (w : World) (e : Ending) (w' : World) : Prop :=
  ∃ a cap, e = .returned (.slice a len cap) ∧ len ≤ cap ∧ NumsR w.heap.size w'.heap.size w' a len z ∧ Below w.heap.size w w'
theorem cloneI (a : Option Addr) (len cap : Nat) (z : Nat → Int) (w : World) (h : Nums w a len z) (hl : len ≤ 1048576) :
    Calls Try.prog 78 #[.slice a len cap] w (CloneP len z w) := by
  rcases Nat.eq_zero_or_pos len with h0 | hp
  · subst h0
    cases a with
    | none => exact (Try.slices_Clone_int_nil 0 cap w).mono fun e w' ⟨he, hw⟩ => ⟨none, 0, he, Nat.le_refl _, .inl rfl, by rw [hw]; exact Below.refl _ _⟩
    | some x =>
      refine (Try.slices_Clone_int_zero x cap w).mono fun e w' hq => ?_
      obtain ⟨v, he, hown, -, hb⟩ := hq
      obtain ⟨a', c', rfl, hc, hn⟩ := own_nums (z := z) hown (fun i hi => absurd hi (Nat.not_lt_zero _))
      exact ⟨a', c', he, hc, hn, hb⟩
  · obtain ⟨b, off, rfl, hbl, hc⟩ := h.cells hp
    have hzs : ∀ j, j < ((List.range len).map z).length → w.cell? ⟨b, off + j, none⟩ = some (.int .i64 (((List.range len).map z).getD j 0)) := fun j hj => by
      have hj' : j < len := by simpa using hj
      rw [hc j hj']
      simp [List.getD_eq_getElem?_getD, hj']
    refine (Try.slices_Clone_int b off len cap ((List.range len).map z) w (by simp) (by omega) hzs).mono fun e w' hq => ?_
    obtain ⟨v, he, hown, -, hb⟩ := hq
    obtain ⟨a', c', rfl, hc', hn⟩ := own_nums (z := z) hown (fun i hi => by
      rw [List.take_of_length_le (by simp)]
      simp [hi])
    exact ⟨a', c', he, hc', hn, hb⟩
end Go.Proofs.Ytmlkjlipjkmcfaa

namespace Go.Proofs.Ytmlkjlipjkmcfaa
open Go.RowKit
set_option linter.unusedVariables false
set_option linter.unusedSimpArgs false

theorem NumsR.mono {lo hi lo' hi' : Nat} {w : World} {a : Option Addr} {len : Nat} {z : Nat → Int} (h : NumsR lo hi w a len z) (h1 : lo' ≤ lo) (h2 : hi ≤ hi') : NumsR lo' hi' w a len z := by
  rcases h with h | ⟨g, q1, q2, q3, q4⟩
  · exact .inl h
  · exact .inr ⟨g, q1, by omega, by omega, q4⟩
theorem HoldsR.mono {lo hi lo' hi' : Nat} {w : World} {a : Option Addr} {len : Nat} {t c s : Nat → Int} (h : HoldsR lo hi w a len t c s) (h1 : lo' ≤ lo) (h2 : hi ≤ hi') : HoldsR lo' hi' w a len t c s := by
  rcases h with h | ⟨g, q1, q2, q3, q4⟩
  · exact .inl h
  · exact .inr ⟨g, q1, by omega, by omega, q4⟩
def withH (d : LegD) (L : List Nd) : LegD := { d with nH := L.length, t := tN L, c := cN L, s := sN L }
theorem LegBox.set6 {w : World} {b : Nat} {d : LegD} {p : LegP} (h : LegBox w b d p) (a : Option Addr) (c : Nat) : LegBox (w.setCell ⟨b, 6, none⟩ (.slice a d.nL c)) b d { p with aL := a, cL := c } := set_same h _
theorem LegBox.set7 {w : World} {b : Nat} {d : LegD} {p : LegP} (h : LegBox w b d p) (a : Option Addr) (c : Nat) : LegBox (w.setCell ⟨b, 7, none⟩ (.slice a d.nS c)) b d { p with aS := a, cS := c } := set_same h _
theorem LegBox.set8 {w : World} {b : Nat} {d : LegD} {p : LegP} (h : LegBox w b d p) (a : Option Addr) (c : Nat) : LegBox (w.setCell ⟨b, 8, none⟩ (.slice a d.nB c)) b d { p with aB := a, cB := c } := set_same h _
theorem LegBox.set9 {w : World} {b : Nat} {d : LegD} {p : LegP} (h : LegBox w b d p) (L : List Nd) (a : Option Addr) (c : Nat) : LegBox (w.setCell ⟨b, 9, none⟩ (.slice a L.length c)) b (withH d L) { p with aH := a, cH := c } := set_same h _
theorem LegBox.fr {w : World} {b : Nat} {d : LegD} {p : LegP} (h : LegBox w b d p) (i : Nat) : w.frozen? ⟨b, i, none⟩ = false := Lib.frozen_of_heap h i
theorem leg_one1 (d : LegD) (p : LegP) : (LegC d p).all (·.oneCell') = true := by simp [LegC, Value.oneCell']
theorem LegV_eq (d : LegD) (p : LegP) : LegV d p = .agg (LegC d p) := rfl

set_option maxRecDepth 100000 in
set_option maxHeartbeats 8000000 in
theorem legHoldingI (B h : Nat) (L : List Nd) (d : LegD) (p : LegP) (w : World) (hin : LegIn w d p) (hf : Fits d) (H : HList B w h L) (hL : L.length ≤ 1048576) :
    Calls Try.prog 47 #[LegV d p, .pointer (some ⟨h, 0, none⟩)] w fun e w' => ∃ p', e = .returned (LegV (withH d L) p') ∧ LegNew w.heap.size w' (withH d L) p' ∧ Below w.heap.size w w' := by
  have hbA : Below w.heap.size w (w.alloc (.cells (LegC d p) 31)) := (Below.refl _ _).alloc (Nat.le_refl _) _
  have hbB : Below w.heap.size w ((w.alloc (.cells (LegC d p) 31)).alloc (.cells #[.string ⟨#[]⟩, .string ⟨#[]⟩, .string ⟨#[]⟩, .int .i64 0, .int .i64 0, .int .i64 0, .slice none 0 0, .slice none 0 0, .slice none 0 0, .slice none 0 0] 31)) := hbA.alloc (by simp) _
  have hX : LegBox ((w.alloc (.cells (LegC d p) 31)).alloc (.cells #[.string ⟨#[]⟩, .string ⟨#[]⟩, .string ⟨#[]⟩, .int .i64 0, .int .i64 0, .int .i64 0, .slice none 0 0, .slice none 0 0, .slice none 0 0, .slice none 0 0] 31)) w.heap.size d p := (LegBox.new w d p).kept ((Below.refl _ _).alloc (Nat.le_refl _) _)
  have hR : ((w.alloc (.cells (LegC d p) 31)).alloc (.cells #[.string ⟨#[]⟩, .string ⟨#[]⟩, .string ⟨#[]⟩, .int .i64 0, .int .i64 0, .int .i64 0, .slice none 0 0, .slice none 0 0, .slice none 0 0, .slice none 0 0] 31)).heap[w.heap.size + 1]? = some (.cells #[.string ⟨#[]⟩, .string ⟨#[]⟩, .string ⟨#[]⟩, .int .i64 0, .int .i64 0, .int .i64 0, .slice none 0 0, .slice none 0 0, .slice none 0 0, .slice none 0 0] 31 (0, 0)) := by have := heap_alloc_new (w.alloc (.cells (LegC d p) 31)) (.cells #[.string ⟨#[]⟩, .string ⟨#[]⟩, .string ⟨#[]⟩, .int .i64 0, .int .i64 0, .int .i64 0, .slice none 0 0, .slice none 0 0, .slice none 0 0, .slice none 0 0] 31); rwa [World.size_alloc] at this
  have Hin := Lib.hid hin
  have HL := Lib.hid H
  have HF := Lib.hid hf
  have D0 := Lib.hid hbB
  have X0 := Lib.hid hX
  have R0 := Lib.hid hR
  have hs0 : w.heap.size + 1 < ((w.alloc (.cells (LegC d p) 31)).alloc (.cells #[.string ⟨#[]⟩, .string ⟨#[]⟩, .string ⟨#[]⟩, .int .i64 0, .int .i64 0, .int .i64 0, .slice none 0 0, .slice none 0 0, .slice none 0 0, .slice none 0 0] 31)).heap.size := by simp
  have b6 := hX.c6
  rw [LegV_eq]
  generalize hLC : LegC d p = LC at *
  clear hbA hbB hX hR hin H hf hLC
  go_enter Try.func47, Try.ntmps47
  go_wp2_with fail
  generalize (w.alloc (.cells LC 31)).alloc (.cells #[.string ⟨#[]⟩, .string ⟨#[]⟩, .string ⟨#[]⟩, .int .i64 0, .int .i64 0, .int .i64 0, .slice none 0 0, .slice none 0 0, .slice none 0 0, .slice none 0 0] 31) = W0 at *
  refine (cloneI p.aL d.nL p.cL d.L W0 (Hin.out.1.kept D0.out) HF.out.2.2.2.1).mono ?_
  rintro e w1 ⟨a1, c1, rfl, hc1, n1, d1⟩
  have X1' := X0.out.kept d1
  have R1' := (d1.block _ (lt_heap R0.out)).trans R0.out
  have D1' := bt D0.out d1
  have q1 := X1'.c6
  have f1 := X1'.fr 6
  have X1 := Lib.hid (X1'.set6 a1 c1)
  have R1 := Lib.hid ((set_other (Value.slice a1 d.nL c1) (show w.heap.size + 1 ≠ w.heap.size by omega) (i := 6)).trans R1')
  have gs1 := grown_set w1 ⟨w.heap.size, 6, none⟩ (Value.slice a1 d.nL c1)
  have N1_1 := Lib.hid (n1.far gs1 (fun q e => by cases e; left; show w.heap.size < _; omega))
  have sz1a := d1.size
  have sz1 : w1.heap.size = (w1.setCell ⟨w.heap.size, 6, none⟩ (Value.slice a1 d.nL c1)).heap.size := by simp [World.setCell]
  have D1 := Lib.hid (D1'.setCell (p := ⟨w.heap.size, 6, none⟩) (Nat.le_refl _) (Value.slice a1 d.nL c1))
  have b7 := X1.out.c7
  clear X1' R1' D1' b6 n1 d1 gs1
  go_wp2_with fail
  generalize hW1 : w1.setCell ⟨w.heap.size, 6, none⟩ (Value.slice a1 d.nL c1) = W1 at *
  clear hW1 q1 f1
  refine (cloneI p.aS d.nS p.cS d.S W1 (Hin.out.2.1.kept D1.out) HF.out.2.2.2.2.1).mono ?_
  rintro e w2 ⟨a2, c2, rfl, hc2, n2, d2⟩
  have X2' := X1.out.kept d2
  have R2' := (d2.block _ (lt_heap R1.out)).trans R1.out
  have D2' := bt D1.out d2
  have q2 := X2'.c7
  have f2 := X2'.fr 7
  have X2 := Lib.hid (X2'.set7 a2 c2)
  have R2 := Lib.hid ((set_other (Value.slice a2 d.nS c2) (show w.heap.size + 1 ≠ w.heap.size by omega) (i := 7)).trans R2')
  have gs2 := grown_set w2 ⟨w.heap.size, 7, none⟩ (Value.slice a2 d.nS c2)
  have N2_2 := Lib.hid (n2.far gs2 (fun q e => by cases e; left; show w.heap.size < _; omega))
  have N1_2 := Lib.hid ((N1_1.out.kept d2).far gs2 (fun q e => by cases e; left; show w.heap.size < _; have := hs0; omega))
  have sz2a := d2.size
  have sz2 : w2.heap.size = (w2.setCell ⟨w.heap.size, 7, none⟩ (Value.slice a2 d.nS c2)).heap.size := by simp [World.setCell]
  have D2 := Lib.hid (D2'.setCell (p := ⟨w.heap.size, 7, none⟩) (Nat.le_refl _) (Value.slice a2 d.nS c2))
  have b8 := X2.out.c8
  clear X2' R2' D2' b7 n2 d2 gs2
  go_wp2_with fail
  generalize hW2 : w2.setCell ⟨w.heap.size, 7, none⟩ (Value.slice a2 d.nS c2) = W2 at *
  clear hW2 q2 f2
  refine (cloneI p.aB d.nB p.cB d.B W2 (Hin.out.2.2.1.kept D2.out) HF.out.2.2.2.2.2.1).mono ?_
  rintro e w3 ⟨a3, c3, rfl, hc3, n3, d3⟩
  have X3' := X2.out.kept d3
  have R3' := (d3.block _ (lt_heap R2.out)).trans R2.out
  have D3' := bt D2.out d3
  have q3 := X3'.c8
  have f3 := X3'.fr 8
  have X3 := Lib.hid (X3'.set8 a3 c3)
  have R3 := Lib.hid ((set_other (Value.slice a3 d.nB c3) (show w.heap.size + 1 ≠ w.heap.size by omega) (i := 8)).trans R3')
  have gs3 := grown_set w3 ⟨w.heap.size, 8, none⟩ (Value.slice a3 d.nB c3)
  have N3_3 := Lib.hid (n3.far gs3 (fun q e => by cases e; left; show w.heap.size < _; omega))
  have N1_3 := Lib.hid ((N1_2.out.kept d3).far gs3 (fun q e => by cases e; left; show w.heap.size < _; have := hs0; omega))
  have N2_3 := Lib.hid ((N2_2.out.kept d3).far gs3 (fun q e => by cases e; left; show w.heap.size < _; have := hs0; have := sz1; have := sz1a; omega))
  have sz3a := d3.size
  have sz3 : w3.heap.size = (w3.setCell ⟨w.heap.size, 8, none⟩ (Value.slice a3 d.nB c3)).heap.size := by simp [World.setCell]
  have D3 := Lib.hid (D3'.setCell (p := ⟨w.heap.size, 8, none⟩) (Nat.le_refl _) (Value.slice a3 d.nB c3))
  clear X3' R3' D3' b8 n3 d3 gs3
  go_wp2_with fail
  generalize hW3 : w3.setCell ⟨w.heap.size, 8, none⟩ (Value.slice a3 d.nB c3) = W3 at *
  clear hW3 q3 f3
  refine (allFn h W3).mono ?_
  rintro e w' ⟨rfl, rfl⟩
  go_wp2_with fail
  have hb3 : Below W3.heap.size W3 (W3.alloc (.cells #[.pointer (some ⟨h, 0, none⟩)] 58)) := (Below.refl _ _).alloc (Nat.le_refl _) _
  refine (collectI B h W3.heap.size L _ (HL.out.kept (bt D3.out hb3)) (Boxed.new W3 _ _) hL).mono ?_
  rintro e w4 ⟨v, rfl, hown, -, d4⟩
  obtain ⟨a4, c4, rfl, hc4, n4⟩ := own_holdsR hown
  have d34 : Below W3.heap.size W3 w4 := bt hb3 d4
  have sz4b : (W3.alloc (.cells #[.pointer (some ⟨h, 0, none⟩)] 58)).heap.size = W3.heap.size + 1 := by simp
  have sz4a := d4.size
  have X4' := X3.out.kept d34
  have R4' := (d34.block _ (lt_heap R3.out)).trans R3.out
  have D4' := bt D3.out d34
  have q4 := X4'.c9
  have f4 := X4'.fr 9
  have X4 := X4'.set9 L a4 c4
  have R4 := (set_other (Value.slice a4 L.length c4) (show w.heap.size + 1 ≠ w.heap.size by omega) (i := 9)).trans R4'
  have gs4 := grown_set w4 ⟨w.heap.size, 9, none⟩ (Value.slice a4 L.length c4)
  have N4_4 := Lib.hid (n4.far gs4 (fun q e => by cases e; left; show w.heap.size < _; omega))
  have N1_4 := Lib.hid ((N1_3.out.kept d34).far gs4 (fun q e => by cases e; left; show w.heap.size < _; omega))
  have N2_4 := Lib.hid ((N2_3.out.kept d34).far gs4 (fun q e => by cases e; left; show w.heap.size < _; omega))
  have N3_4 := Lib.hid ((N3_3.out.kept d34).far gs4 (fun q e => by cases e; left; show w.heap.size < _; omega))
  have sz4 : w4.heap.size = (w4.setCell ⟨w.heap.size, 9, none⟩ (Value.slice a4 L.length c4)).heap.size := by simp [World.setCell]
  have D4 := Lib.hid (D4'.setCell (p := ⟨w.heap.size, 9, none⟩) (Nat.le_refl _) (Value.slice a4 L.length c4))
  have R4h := Lib.hid R4
  have hone := leg_one1 (withH d L) { { { { p with aL := a1, cL := c1 } with aS := a2, cS := c2 } with aB := a3, cB := c3 } with aH := a4, cH := c4 }
  have b0 := X4.c0
  have b1 := X4.c1
  have b2 := X4.c2
  have b3 := X4.c3
  have b4 := X4.c4
  have b5 := X4.c5
  have b6 := X4.c6
  have b7 := X4.c7
  have b8 := X4.c8
  have b9 := X4.c9
  clear X4 X4' R4 R4' D4' n4 d4 d34 gs4 hb3 hown
  go_wp2_with (first
    | (refine wpList_store_row rfl 31 _ _ rfl (w.heap.size + 1) (LegC (withH d L) { { { { p with aL := a1, cL := c1 } with aS := a2, cS := c2 } with aB := a3, cB := c3 } with aH := a4, cH := c4 }) rfl rfl 31 #[.string ⟨#[]⟩, .string ⟨#[]⟩, .string ⟨#[]⟩, .int .i64 0, .int .i64 0, .int .i64 0, .slice none 0 0, .slice none 0 0, .slice none 0 0, .slice none 0 0] R4h.out legSize rfl hone ?_)
    | fail)
  clear b0 b1 b2 b3 b4 b5 b6 b7 b8 b9 q4 f4
  generalize hW4 : w4.setCell ⟨w.heap.size, 9, none⟩ (Value.slice a4 L.length c4) = W4 at *
  clear hW4
  have hfin : LegBox (W4.setRow (w.heap.size + 1) (LegC (withH d L) { { { { p with aL := a1, cL := c1 } with aS := a2, cS := c2 } with aB := a3, cB := c3 } with aH := a4, cH := c4 })) (w.heap.size + 1) (withH d L) { { { { p with aL := a1, cL := c1 } with aS := a2, cS := c2 } with aB := a3, cB := c3 } with aH := a4, cH := c4 } := setRow_heap W4 (w.heap.size + 1) _ _ _ _ R4h.out
  have gr := grown_setRow W4 (w.heap.size + 1) (LegC (withH d L) { { { { p with aL := a1, cL := c1 } with aS := a2, cS := c2 } with aB := a3, cB := c3 } with aH := a4, cH := c4 })
  have l1 := N1_4.out.far gr (fun q e => by cases e; left; omega)
  have l2 := N2_4.out.far gr (fun q e => by cases e; left; omega)
  have l3 := N3_4.out.far gr (fun q e => by cases e; left; omega)
  have l4 := N4_4.out.far gr (fun q e => by cases e; left; omega)
  have bfin : Below w.heap.size w (W4.setRow (w.heap.size + 1) (LegC (withH d L) { { { { p with aL := a1, cL := c1 } with aS := a2, cS := c2 } with aB := a3, cB := c3 } with aH := a4, cH := c4 })) := D4.out.grown gr D4.out.size (fun q e => by cases e; omega)
  have sfin := gr.size
  generalize W4.setRow (w.heap.size + 1) (LegC (withH d L) { { { { p with aL := a1, cL := c1 } with aS := a2, cS := c2 } with aB := a3, cB := c3 } with aH := a4, cH := c4 }) = W5 at *
  have z0 := hfin.c0
  have z1 := hfin.c1
  have z2 := hfin.c2
  have z3 := hfin.c3
  have z4 := hfin.c4
  have z5 := hfin.c5
  have z6 := hfin.c6
  have z7 := hfin.c7
  have z8 := hfin.c8
  have z9 := hfin.c9
  have new : LegNew w.heap.size W5 (withH d L) { { { { p with aL := a1, cL := c1 } with aS := a2, cS := c2 } with aB := a3, cB := c3 } with aH := a4, cH := c4 } := by
    refine ⟨⟨hc1, hc2, hc3, hc4⟩, w1.heap.size, w2.heap.size, w3.heap.size, w4.heap.size, ?_, ?_, ?_, ?_, ?_, l1.mono ?_ ?_, l2.mono ?_ ?_, l3.mono ?_ ?_, l4.mono ?_ ?_⟩ <;> omega
  refine bodyPost_ret (v := LegV (withH d L) { { { { p with aL := a1, cL := c1 } with aS := a2, cS := c2 } with aB := a3, cB := c3 } with aH := a4, cH := c4 }) ?_ rfl ⟨_, rfl, new, bfin⟩
  rw [LegV_eq]
  unfold LegC
  rw [results_cell1 rfl]
  go_simp
end Go.Proofs.Ytmlkjlipjkmcfaa
