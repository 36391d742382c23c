/-
  A copy of a leg in new memory: the model's; its lists of least prices and of holds lie in memory of their own, and may grow.
-/
import Derived.Test.YtdaccpffdnbkiaaGreatDoorLegCopyM
import Derived.Test.YtdaccpffdnbkiaaGreatDoorAppendS
import Derived.Test.YtdaccpffdnbkiaaGreatDoorSoldMath
import Derived.OwnWalk
import Derived.Deep.DeepMust
namespace Go.Proofs.YtdaccpffdnbkiaaGreatDoor
open Go.RowKit
set_option linter.unusedVariables false
set_option linter.unusedSimpArgs false

def OwnB (N : Nat) (w : World) (d : LegD) (p : LegP) : Prop := w.ownsRow N 3 1 (.slice p.aB d.nB p.cB) d.nB (newsI d.B d.nB)
def OwnH (N : Nat) (w : World) (d : LegD) (p : LegP) : Prop := w.ownsRow N 58 3 (.slice p.aH d.nH p.cH) d.nH (flatN (ndsOf d.t d.c d.s d.nH))
def OffH (d : LegD) (p : LegP) : Prop := ∀ g, Value.ownBlock (.slice p.aH d.nH p.cH) = some g → (0 < d.nL → Off g p.aL) ∧ (0 < d.nS → Off g p.aS) ∧ (0 < d.nB → Off g p.aB)
theorem numsR_off {lo hi g : Nat} {w : World} {a : Option Addr} {len : Nat} {z : Nat → Int} (h : NumsR lo hi w a len z) (hg : hi ≤ g) : 0 < len → Off g a := by
  intro h0 x hx e
  rcases h with h | ⟨k, h1, h2, h3, -⟩
  · omega
  · rw [h1] at hx; cases hx; dsimp only at e; omega

set_option maxRecDepth 100000 in
set_option maxHeartbeats 8000000 in
theorem copyOpos (d : LegD) (p : LegP) (w : World) (hin : LegIn w d p) (hL : d.nL = 3) (hS : d.nS = 3) (hB : 1 ≤ d.nB) (hB4 : d.nB ≤ 8) (hH : 0 < d.nH) (hH10 : d.nH ≤ 10) :
    Calls Tryz.prog 57 #[LegV d p] w fun e w' => ∃ p', e = .returned (LegV d p') ∧ LegNew w.heap.size w' d p' ∧ Below w.heap.size w w' ∧ OwnB w.heap.size w' d p' ∧ OwnH w.heap.size w' d p' ∧ OffH d p' := by
  obtain ⟨i0, hi, hz0, hz1, hz2⟩ := info_parts infoInt
  obtain ⟨j0, ji, jz0, jz1, jz2⟩ := info_parts infoHold
  obtain ⟨bL, oL, eL, hbL, hcL⟩ := hin.1.cells (by omega)
  obtain ⟨bS, oS, eS, hbS, hcS⟩ := hin.2.1.cells (by omega)
  obtain ⟨bB, oB, eB, hbB, hcB⟩ := hin.2.2.1.cells (by omega)
  obtain ⟨bH, oH, eH, hbH, hcH⟩ := hin.2.2.2.cells (by omega)
  have hD : Below w.heap.size w ((w.alloc (.cells (LegC d p) 25)).alloc (.cells #[.string ⟨#[]⟩, .string ⟨#[]⟩, .string ⟨#[]⟩, .int .i64 0, .int .i64 0, .int .i64 0, .slice none 0 0, .slice none 0 0, .slice none 0 0, .slice none 0 0] 25)) := ((Below.refl _ _).alloc (Nat.le_refl _) _).alloc (by simp) _
  have hX : LegBox ((w.alloc (.cells (LegC d p) 25)).alloc (.cells #[.string ⟨#[]⟩, .string ⟨#[]⟩, .string ⟨#[]⟩, .int .i64 0, .int .i64 0, .int .i64 0, .slice none 0 0, .slice none 0 0, .slice none 0 0, .slice none 0 0] 25)) w.heap.size d p := (LegBox.new w d p).kept ((Below.refl _ _).alloc (Nat.le_refl _) _)
  have hR : ((w.alloc (.cells (LegC d p) 25)).alloc (.cells #[.string ⟨#[]⟩, .string ⟨#[]⟩, .string ⟨#[]⟩, .int .i64 0, .int .i64 0, .int .i64 0, .slice none 0 0, .slice none 0 0, .slice none 0 0, .slice none 0 0] 25)).heap[w.heap.size + 1]? = some (.cells #[.string ⟨#[]⟩, .string ⟨#[]⟩, .string ⟨#[]⟩, .int .i64 0, .int .i64 0, .int .i64 0, .slice none 0 0, .slice none 0 0, .slice none 0 0, .slice none 0 0] 25 (0, 0)) := by
    have := heap_alloc_new (w.alloc (.cells (LegC d p) 25)) (.cells #[.string ⟨#[]⟩, .string ⟨#[]⟩, .string ⟨#[]⟩, .int .i64 0, .int .i64 0, .int .i64 0, .slice none 0 0, .slice none 0 0, .slice none 0 0, .slice none 0 0] 25)
    rwa [World.size_alloc] at this
  have hs0 : ((w.alloc (.cells (LegC d p) 25)).alloc (.cells #[.string ⟨#[]⟩, .string ⟨#[]⟩, .string ⟨#[]⟩, .int .i64 0, .int .i64 0, .int .i64 0, .slice none 0 0, .slice none 0 0, .slice none 0 0, .slice none 0 0] 25)).heap.size = w.heap.size + 1 + 1 := by simp
  have D0 := Lib.hid hD
  have X0 := Lib.hid hX
  have R0 := Lib.hid hR
  have HL := Lib.hid hL
  have HS := Lib.hid hS
  have HE := Lib.hid (And.intro eL (And.intro eS eB))
  have b6 := hX.c6
  rw [eL] at b6
  rw [LegV_eq]
  generalize hLC : LegC d p = LC at *
  have HS0 := Lib.hid hs0
  have kL : ∀ W, Below w.heap.size w W → ∀ i, i < d.nL → W.cell? ⟨bL, oL + i, none⟩ = some (.int .i64 (d.L i)) := fun W hb i hi => cell_kept hb hbL (hcL i hi)
  have kS : ∀ W, Below w.heap.size w W → ∀ i, i < d.nS → W.cell? ⟨bS, oS + i, none⟩ = some (.int .i64 (d.S i)) := fun W hb i hi => cell_kept hb hbS (hcS i hi)
  have kB : ∀ W, Below w.heap.size w W → ∀ i, i < d.nB → W.cell? ⟨bB, oB + i, none⟩ = some (.int .i64 (d.B i)) := fun W hb i hi => cell_kept hb hbB (hcB i hi)
  have KL := Lib.hid kL
  have KS := Lib.hid kS
  have KB := Lib.hid kB
  have kH : ∀ W, Below w.heap.size w W → ∀ i, i < d.nH → W.cell? ⟨bH, oH + i * 3, none⟩ = some (.int .i64 (d.t i)) ∧ W.cell? ⟨bH, oH + i * 3 + 1, none⟩ = some (.int .i64 (d.c i)) ∧ W.cell? ⟨bH, oH + i * 3 + 2, none⟩ = some (.int .i64 (d.s i)) := fun W hb i hi => ⟨cell_kept hb hbH (hcH i hi).1, cell_kept hb hbH (hcH i hi).2.1, cell_kept hb hbH (hcH i hi).2.2⟩
  have KH := Lib.hid kH
  have HEH := Lib.hid eH
  clear kH hcH eH
  clear hin hD hX hR hs0 hcL hcS hcB kL kS kB hL hS eL eS eB hLC
  go_enter Tryz.func57, Tryz.ntmps57
  go_wp2_with (first
    | (at_builtin; refine wpList_append_own _ rfl _ _ 22 rfl (w.heap.size + 1 + 1) 3 i0 (.int .i64 0) 1 8 Tryz.underlying22 hi hz0 hz1 hz2 rfl (by decide) (.slice (some ⟨(w.heap.size + 1 + 1), 0, none⟩) 0 0) 0 [] rfl (own0 ((w.alloc (.cells LC 25)).alloc (.cells #[.string ⟨#[]⟩, .string ⟨#[]⟩, .string ⟨#[]⟩, .int .i64 0, .int .i64 0, .int .i64 0, .slice none 0 0, .slice none 0 0, .slice none 0 0, .slice none 0 0] 25)) _ HS0.out _ _) ⟨bL, oL, none⟩ d.nL p.cL (newsI d.L d.nL) rfl (newsI_len _ _) ?_ (newsI_one _ _) ?_ ?_ ?_ ?_; exact newsI_cells (KL.out _ (D0.out.alloc D0.out.size _)); (unfold maxLen; have := HL.out; have := HS.out; omega); (have := HL.out; have := HS.out; omega); (have q := HS0.out; simp only [World.size_alloc] at q ⊢; omega); intro v1 w1 ho1 hg1 _; obtain ⟨a1, c1, rfl, hc1, n1, d1⟩ := app_nums HS0.out ho1 hg1; have X1' := X0.out.kept d1; have R1' := (d1.block _ (lt_heap R0.out)).trans R0.out; have D1' := bt D0.out d1; have q1 := X1'.c6; have f1 := X1'.fr 6; have X1 := Lib.hid (X1'.set6 a1 c1); have R1 := Lib.hid ((set_other (Value.slice a1 d.nL c1) (show w.heap.size + 1 ≠ w.heap.size by omega) (i := 6)).trans R1'); have gs1 := grown_set w1 ⟨w.heap.size, 6, none⟩ (Value.slice a1 d.nL c1); have sd1 := d1.size; have sw1 := D0.out.size; have lt1 := lt_heap X0.out; have N1_1 := Lib.hid (n1.far gs1 (fun q e => by cases e; left; show w.heap.size < _; omega)); have HN1 := Lib.hid (sc_size w1 ⟨w.heap.size, 6, none⟩ (Value.slice a1 d.nL c1)); have sz1 := HN1.out; have D1 := Lib.hid (D1'.setCell (p := ⟨w.heap.size, 6, none⟩) (Nat.le_refl _) (Value.slice a1 d.nL c1)); have b7 := (X1.out.kept ((Below.refl _ _).alloc (Nat.le_refl _) (.cells #[] 3))).c7; rw [HE.out.2.1] at b7; clear X1' R1' D1' n1 d1 gs1 ho1 hg1 sz1)
    | (at_builtin; refine wpList_append_own _ rfl _ _ 22 rfl w1.heap.size 3 i0 (.int .i64 0) 1 8 Tryz.underlying22 hi hz0 hz1 hz2 rfl (by decide) (.slice (some ⟨w1.heap.size, 0, none⟩) 0 0) 0 [] rfl (own0 (w1.setCell ⟨w.heap.size, 6, none⟩ (Value.slice a1 d.nL c1)) _ HN1.out _ _) ⟨bS, oS, none⟩ d.nS p.cS (newsI d.S d.nS) rfl (newsI_len _ _) ?_ (newsI_one _ _) ?_ ?_ ?_ ?_; exact newsI_cells (KS.out _ (D1.out.alloc D1.out.size _)); (unfold maxLen; have := HL.out; have := HS.out; omega); (have := HL.out; have := HS.out; omega); (have q := HN1.out; simp only [World.size_alloc] at q ⊢; omega); intro v2 w2 ho2 hg2 _; obtain ⟨a2, c2, rfl, hc2, n2, d2⟩ := app_nums HN1.out ho2 hg2; have X2' := X1.out.kept d2; have R2' := (d2.block _ (lt_heap R1.out)).trans R1.out; have D2' := bt D1.out d2; have q2 := X2'.c7; have f2 := X2'.fr 7; have X2 := Lib.hid (X2'.set7 a2 c2); have R2 := Lib.hid ((set_other (Value.slice a2 d.nS c2) (show w.heap.size + 1 ≠ w.heap.size by omega) (i := 7)).trans R2'); have gs2 := grown_set w2 ⟨w.heap.size, 7, none⟩ (Value.slice a2 d.nS c2); have sd2 := d2.size; have sw2 := D1.out.size; have lt2 := lt_heap X1.out; have N2_2 := Lib.hid (n2.far gs2 (fun q e => by cases e; left; show w.heap.size < _; omega)); have N1_2 := Lib.hid ((N1_1.out.kept d2).far gs2 (fun q e => by cases e; left; show w.heap.size < _; omega)); have HN2 := Lib.hid (sc_size w2 ⟨w.heap.size, 7, none⟩ (Value.slice a2 d.nS c2)); have sz2 := HN2.out; have D2 := Lib.hid (D2'.setCell (p := ⟨w.heap.size, 7, none⟩) (Nat.le_refl _) (Value.slice a2 d.nS c2)); have b8 := (X2.out.kept ((Below.refl _ _).alloc (Nat.le_refl _) (.cells #[] 3))).c8; rw [HE.out.2.2] at b8; clear X2' R2' D2' n2 d2 gs2 ho2 hg2 sz2)
    | (at_builtin; refine wpList_append_own _ rfl _ _ 22 rfl w2.heap.size 3 i0 (.int .i64 0) 1 8 Tryz.underlying22 hi hz0 hz1 hz2 rfl (by decide) (.slice (some ⟨w2.heap.size, 0, none⟩) 0 0) 0 [] rfl (own0 (w2.setCell ⟨w.heap.size, 7, none⟩ (Value.slice a2 d.nS c2)) _ HN2.out _ _) ⟨bB, oB, none⟩ d.nB p.cB (newsI d.B d.nB) rfl (newsI_len _ _) ?_ (newsI_one _ _) ?_ ?_ ?_ ?_; exact newsI_cells (KB.out _ (D2.out.alloc D2.out.size _)); (unfold maxLen; have := HL.out; have := HS.out; omega); (have := HL.out; have := HS.out; omega); (have q := HN2.out; simp only [World.size_alloc] at q ⊢; omega); intro v3 w3 ho3 hg3 _; obtain ⟨a3, c3, rfl, hc3, n3, d3⟩ := app_nums HN2.out ho3 hg3; have X3' := X2.out.kept d3; have R3' := (d3.block _ (lt_heap R2.out)).trans R2.out; have D3' := bt D2.out d3; have q3 := X3'.c8; have f3 := X3'.fr 8; have X3 := Lib.hid (X3'.set8 a3 c3); have R3 := Lib.hid ((set_other (Value.slice a3 d.nB c3) (show w.heap.size + 1 ≠ w.heap.size by omega) (i := 8)).trans R3'); have gs3 := grown_set w3 ⟨w.heap.size, 8, none⟩ (Value.slice a3 d.nB c3); have sd3 := d3.size; have sw3 := D2.out.size; have lt3 := lt_heap X2.out; have N3_3 := Lib.hid (n3.far gs3 (fun q e => by cases e; left; show w.heap.size < _; omega)); have N1_3 := Lib.hid ((N1_2.out.kept d3).far gs3 (fun q e => by cases e; left; show w.heap.size < _; omega)); have N2_3 := Lib.hid ((N2_2.out.kept d3).far gs3 (fun q e => by cases e; left; show w.heap.size < _; omega)); have ho3' := ho3; rw [Nat.zero_add] at ho3'; have O3 := Lib.hid (ownsRow_setCell_below ho3' (a := ⟨w.heap.size, 8, none⟩) (by show w.heap.size < _; omega) (Value.slice a3 d.nB c3)); clear ho3'; have HN3 := Lib.hid (sc_size w3 ⟨w.heap.size, 8, none⟩ (Value.slice a3 d.nB c3)); have sz3 := HN3.out; have D3 := Lib.hid (D3'.setCell (p := ⟨w.heap.size, 8, none⟩) (Nat.le_refl _) (Value.slice a3 d.nB c3)); have b9 := (X3.out.kept ((Below.refl _ _).alloc (Nat.le_refl _) (.cells #[] 58))).c9; rw [HEH.out] at b9; clear X3' R3' D3' n3 d3 gs3 ho3 hg3 sz3)
    | (at_builtin; refine wpList_append_own _ rfl _ _ 23 rfl w3.heap.size 58 j0 (.agg #[.int .i64 0, .int .i64 0, .int .i64 0]) 3 24 Tryz.underlying23 ji jz0 jz1 jz2 rfl (by decide) (.slice (some ⟨w3.heap.size, 0, none⟩) 0 0) 0 [] rfl (own0 (w3.setCell ⟨w.heap.size, 8, none⟩ (Value.slice a3 d.nB c3)) _ HN3.out _ _) ⟨bH, oH, none⟩ d.nH p.cH (flatN (ndsOf d.t d.c d.s d.nH)) rfl ?_ ?_ (flatN_one _) ?_ ?_ ?_ ?_; rw [flatN_len, ndsOf_len]; exact newsH_cells (KH.out _ (D3.out.alloc D3.out.size _)); (unfold maxLen; omega); omega; (have q := HN3.out; simp only [World.size_alloc] at q ⊢; omega); intro v4 w4 ho4 hg4 _; obtain ⟨a4, c4, rfl, hc4, n4', d4⟩ := app_holds (ndsOf_len _ _ _ _) HN3.out ho4 hg4; have n4 := n4'.same rfl (fun i hi => ndsOf_at hi); have O34 := Lib.hid ((O3.out.alloc (.cells #[] 58)).kept hg4 (Or.inr (fun e => by have y1 := (O3.out.lt w3.heap.size e).2; have y2 := HN3.out; omega))); have O4' := ho4; rw [Nat.zero_add] at O4'; have O4h := Lib.hid O4'; clear O4'; clear n4' ho4 hg4; have X4' := X3.out.kept d4; have R4' := (d4.block _ (lt_heap R3.out)).trans R3.out; have D4' := bt D3.out d4; have q4 := X4'.c9; have f4 := X4'.fr 9; have X4 := X4'.set9' a4 c4; have R4 := Lib.hid ((set_other (Value.slice a4 d.nH c4) (show w.heap.size + 1 ≠ w.heap.size by omega) (i := 9)).trans R4'); have gs4 := grown_set w4 ⟨w.heap.size, 9, none⟩ (Value.slice a4 d.nH c4); have sd4 := d4.size; have sw4 := D3.out.size; have lt4 := lt_heap X3.out; have N4_4 := Lib.hid (n4.far gs4 (fun q e => by cases e; left; show w.heap.size < _; omega)); have N1_4 := Lib.hid ((N1_3.out.kept d4).far gs4 (fun q e => by cases e; left; show w.heap.size < _; omega)); have N2_4 := Lib.hid ((N2_3.out.kept d4).far gs4 (fun q e => by cases e; left; show w.heap.size < _; omega)); have N3_4 := Lib.hid ((N3_3.out.kept d4).far gs4 (fun q e => by cases e; left; show w.heap.size < _; omega)); have HN4 := Lib.hid (sc_size w4 ⟨w.heap.size, 9, none⟩ (Value.slice a4 d.nH c4)); have D4 := Lib.hid (D4'.setCell (p := ⟨w.heap.size, 9, none⟩) (Nat.le_refl _) (Value.slice a4 d.nH c4)); have B4 := Lib.hid (ownsRow_setCell_below O34.out (a := ⟨w.heap.size, 9, none⟩) (by show w.heap.size < _; omega) (Value.slice a4 d.nH c4)); have G4 := Lib.hid (ownsRow_setCell_below O4h.out (a := ⟨w.heap.size, 9, none⟩) (by show w.heap.size < _; omega) (Value.slice a4 d.nH c4)); have e0 := X4.c0; have e1 := X4.c1; have e2 := X4.c2; have e3 := X4.c3; have e4 := X4.c4; have e5 := X4.c5; have e6 := X4.c6; have e7 := X4.c7; have e8 := X4.c8; have e9 := X4.c9; clear X4' R4' D4' n4 d4 gs4 X4)
    | (refine wpList_store_row rfl 25 _ _ rfl (w.heap.size + 1) (LegC d { { { { p with aL := a1, cL := c1 } with aS := a2, cS := c2 } with aB := a3, cB := c3 } with aH := a4, cH := c4 }) rfl rfl 25 #[.string ⟨#[]⟩, .string ⟨#[]⟩, .string ⟨#[]⟩, .int .i64 0, .int .i64 0, .int .i64 0, .slice none 0 0, .slice none 0 0, .slice none 0 0, .slice none 0 0] R4.out legSize rfl (leg_one1 _ _) ?_)
    | fail)
  clear e0 e1 e2 e3 e4 e5 e6 e7 e8 e9 q4 f4
  generalize hW4 : (w4.setCell ⟨w.heap.size, 9, none⟩ (Value.slice a4 d.nH c4)) = W4 at *
  clear hW4
  have hfin : LegBox (W4.setRow (w.heap.size + 1) (LegC d { { { { p with aL := a1, cL := c1 } with aS := a2, cS := c2 } with aB := a3, cB := c3 } with aH := a4, cH := c4 })) (w.heap.size + 1) d { { { { p with aL := a1, cL := c1 } with aS := a2, cS := c2 } with aB := a3, cB := c3 } with aH := a4, cH := c4 } := setRow_heap W4 (w.heap.size + 1) _ _ _ _ R4.out
  have gr := grown_setRow W4 (w.heap.size + 1) (LegC d { { { { p with aL := a1, cL := c1 } with aS := a2, cS := c2 } with aB := a3, cB := c3 } with aH := a4, cH := c4 })
  have z1 := HN1.out
  have z2 := HN2.out
  have z3 := HN3.out
  have z4 := HN4.out
  have z0 := HS0.out
  have l1 := N1_4.out.far gr (fun q e => by cases e; left; omega)
  have l2 := N2_4.out.far gr (fun q e => by cases e; left; omega)
  have l3 := N3_4.out.far gr (fun q e => by cases e; left; omega)
  have l4 := N4_4.out.far gr (fun q e => by cases e; left; omega)
  have bfin : Below w.heap.size w (W4.setRow (w.heap.size + 1) (LegC d { { { { p with aL := a1, cL := c1 } with aS := a2, cS := c2 } with aB := a3, cB := c3 } with aH := a4, cH := c4 })) := D4.out.grown gr D4.out.size (fun q e => by cases e; omega)
  have sfin := gr.size
  have B5 := own_mono (base' := w.heap.size) (B4.out.kept gr (Or.inr (fun e => by have y1 := (B4.out.lt _ e).1; omega))) (by omega)
  have G5 := own_mono (base' := w.heap.size) (G4.out.kept gr (Or.inr (fun e => by have y1 := (G4.out.lt _ e).1; omega))) (by omega)
  generalize W4.setRow (w.heap.size + 1) (LegC d { { { { p with aL := a1, cL := c1 } with aS := a2, cS := c2 } with aB := a3, cB := c3 } with aH := a4, cH := c4 }) = W5 at *
  have y0 := hfin.c0
  have y1 := hfin.c1
  have y2 := hfin.c2
  have y3 := hfin.c3
  have y4 := hfin.c4
  have y5 := hfin.c5
  have y6 := hfin.c6
  have y7 := hfin.c7
  have y8 := hfin.c8
  have y9 := hfin.c9
  have new : LegNew w.heap.size W5 d { { { { p with aL := a1, cL := c1 } with aS := a2, cS := c2 } with aB := a3, cB := c3 } with aH := a4, cH := c4 } := by
    refine ⟨⟨hc1, hc2, hc3, hc4⟩, w1.heap.size, w2.heap.size, w3.heap.size, w4.heap.size, ?_, ?_, ?_, ?_, ?_, l1.mono ?_ ?_, l2.mono ?_ ?_, l3.mono ?_ ?_, l4.mono ?_ ?_⟩ <;> omega
  have bO : OffH d { { { { p with aL := a1, cL := c1 } with aS := a2, cS := c2 } with aB := a3, cB := c3 } with aH := a4, cH := c4 } := fun g e => by
    have y1 := (G4.out.lt g e).1
    exact ⟨numsR_off l1 (by omega), numsR_off l2 (by omega), numsR_off l3 (by omega)⟩
  have bB : OwnB w.heap.size W5 d { { { { p with aL := a1, cL := c1 } with aS := a2, cS := c2 } with aB := a3, cB := c3 } with aH := a4, cH := c4 } := B5
  have bG : OwnH w.heap.size W5 d { { { { p with aL := a1, cL := c1 } with aS := a2, cS := c2 } with aB := a3, cB := c3 } with aH := a4, cH := c4 } := G5
  refine bodyPost_ret (v := LegV d { { { { p with aL := a1, cL := c1 } with aS := a2, cS := c2 } with aB := a3, cB := c3 } with aH := a4, cH := c4 }) ?_ rfl ⟨_, rfl, new, bfin, bB, bG, bO⟩
  rw [LegV_eq]
  unfold LegC
  rw [results_cell1 rfl]
  go_simp

set_option maxRecDepth 100000 in
set_option maxHeartbeats 8000000 in
theorem copyOnone (d : LegD) (p : LegP) (w : World) (hin : LegIn w d p) (hL : d.nL = 3) (hS : d.nS = 3) (hB : 1 ≤ d.nB) (hB4 : d.nB ≤ 8) (hH : d.nH = 0) (ha : p.aH = none) :
    Calls Tryz.prog 57 #[LegV d p] w fun e w' => ∃ p', e = .returned (LegV d p') ∧ LegNew w.heap.size w' d p' ∧ Below w.heap.size w w' ∧ OwnB w.heap.size w' d p' ∧ OwnH w.heap.size w' d p' ∧ OffH d p' := by
  obtain ⟨i0, hi, hz0, hz1, hz2⟩ := info_parts infoInt
  obtain ⟨j0, ji, jz0, jz1, jz2⟩ := info_parts infoHold
  obtain ⟨bL, oL, eL, hbL, hcL⟩ := hin.1.cells (by omega)
  obtain ⟨bS, oS, eS, hbS, hcS⟩ := hin.2.1.cells (by omega)
  obtain ⟨bB, oB, eB, hbB, hcB⟩ := hin.2.2.1.cells (by omega)
  have hD : Below w.heap.size w ((w.alloc (.cells (LegC d p) 25)).alloc (.cells #[.string ⟨#[]⟩, .string ⟨#[]⟩, .string ⟨#[]⟩, .int .i64 0, .int .i64 0, .int .i64 0, .slice none 0 0, .slice none 0 0, .slice none 0 0, .slice none 0 0] 25)) := ((Below.refl _ _).alloc (Nat.le_refl _) _).alloc (by simp) _
  have hX : LegBox ((w.alloc (.cells (LegC d p) 25)).alloc (.cells #[.string ⟨#[]⟩, .string ⟨#[]⟩, .string ⟨#[]⟩, .int .i64 0, .int .i64 0, .int .i64 0, .slice none 0 0, .slice none 0 0, .slice none 0 0, .slice none 0 0] 25)) w.heap.size d p := (LegBox.new w d p).kept ((Below.refl _ _).alloc (Nat.le_refl _) _)
  have hR : ((w.alloc (.cells (LegC d p) 25)).alloc (.cells #[.string ⟨#[]⟩, .string ⟨#[]⟩, .string ⟨#[]⟩, .int .i64 0, .int .i64 0, .int .i64 0, .slice none 0 0, .slice none 0 0, .slice none 0 0, .slice none 0 0] 25)).heap[w.heap.size + 1]? = some (.cells #[.string ⟨#[]⟩, .string ⟨#[]⟩, .string ⟨#[]⟩, .int .i64 0, .int .i64 0, .int .i64 0, .slice none 0 0, .slice none 0 0, .slice none 0 0, .slice none 0 0] 25 (0, 0)) := by
    have := heap_alloc_new (w.alloc (.cells (LegC d p) 25)) (.cells #[.string ⟨#[]⟩, .string ⟨#[]⟩, .string ⟨#[]⟩, .int .i64 0, .int .i64 0, .int .i64 0, .slice none 0 0, .slice none 0 0, .slice none 0 0, .slice none 0 0] 25)
    rwa [World.size_alloc] at this
  have hs0 : ((w.alloc (.cells (LegC d p) 25)).alloc (.cells #[.string ⟨#[]⟩, .string ⟨#[]⟩, .string ⟨#[]⟩, .int .i64 0, .int .i64 0, .int .i64 0, .slice none 0 0, .slice none 0 0, .slice none 0 0, .slice none 0 0] 25)).heap.size = w.heap.size + 1 + 1 := by simp
  have D0 := Lib.hid hD
  have X0 := Lib.hid hX
  have R0 := Lib.hid hR
  have HL := Lib.hid hL
  have HS := Lib.hid hS
  have HE := Lib.hid (And.intro eL (And.intro eS eB))
  have b6 := hX.c6
  rw [eL] at b6
  rw [LegV_eq]
  generalize hLC : LegC d p = LC at *
  have HS0 := Lib.hid hs0
  have kL : ∀ W, Below w.heap.size w W → ∀ i, i < d.nL → W.cell? ⟨bL, oL + i, none⟩ = some (.int .i64 (d.L i)) := fun W hb i hi => cell_kept hb hbL (hcL i hi)
  have kS : ∀ W, Below w.heap.size w W → ∀ i, i < d.nS → W.cell? ⟨bS, oS + i, none⟩ = some (.int .i64 (d.S i)) := fun W hb i hi => cell_kept hb hbS (hcS i hi)
  have kB : ∀ W, Below w.heap.size w W → ∀ i, i < d.nB → W.cell? ⟨bB, oB + i, none⟩ = some (.int .i64 (d.B i)) := fun W hb i hi => cell_kept hb hbB (hcB i hi)
  have KL := Lib.hid kL
  have KS := Lib.hid kS
  have KB := Lib.hid kB
  have HH0 := Lib.hid hH
  have HA9 := Lib.hid ha
  clear hH ha
  clear hin hD hX hR hs0 hcL hcS hcB kL kS kB hL hS eL eS eB hLC
  go_enter Tryz.func57, Tryz.ntmps57
  go_wp2_with (first
    | (at_builtin; refine wpList_append_own _ rfl _ _ 22 rfl (w.heap.size + 1 + 1) 3 i0 (.int .i64 0) 1 8 Tryz.underlying22 hi hz0 hz1 hz2 rfl (by decide) (.slice (some ⟨(w.heap.size + 1 + 1), 0, none⟩) 0 0) 0 [] rfl (own0 ((w.alloc (.cells LC 25)).alloc (.cells #[.string ⟨#[]⟩, .string ⟨#[]⟩, .string ⟨#[]⟩, .int .i64 0, .int .i64 0, .int .i64 0, .slice none 0 0, .slice none 0 0, .slice none 0 0, .slice none 0 0] 25)) _ HS0.out _ _) ⟨bL, oL, none⟩ d.nL p.cL (newsI d.L d.nL) rfl (newsI_len _ _) ?_ (newsI_one _ _) ?_ ?_ ?_ ?_; exact newsI_cells (KL.out _ (D0.out.alloc D0.out.size _)); (unfold maxLen; have := HL.out; have := HS.out; omega); (have := HL.out; have := HS.out; omega); (have q := HS0.out; simp only [World.size_alloc] at q ⊢; omega); intro v1 w1 ho1 hg1 _; obtain ⟨a1, c1, rfl, hc1, n1, d1⟩ := app_nums HS0.out ho1 hg1; have X1' := X0.out.kept d1; have R1' := (d1.block _ (lt_heap R0.out)).trans R0.out; have D1' := bt D0.out d1; have q1 := X1'.c6; have f1 := X1'.fr 6; have X1 := Lib.hid (X1'.set6 a1 c1); have R1 := Lib.hid ((set_other (Value.slice a1 d.nL c1) (show w.heap.size + 1 ≠ w.heap.size by omega) (i := 6)).trans R1'); have gs1 := grown_set w1 ⟨w.heap.size, 6, none⟩ (Value.slice a1 d.nL c1); have sd1 := d1.size; have sw1 := D0.out.size; have lt1 := lt_heap X0.out; have N1_1 := Lib.hid (n1.far gs1 (fun q e => by cases e; left; show w.heap.size < _; omega)); have HN1 := Lib.hid (sc_size w1 ⟨w.heap.size, 6, none⟩ (Value.slice a1 d.nL c1)); have sz1 := HN1.out; have D1 := Lib.hid (D1'.setCell (p := ⟨w.heap.size, 6, none⟩) (Nat.le_refl _) (Value.slice a1 d.nL c1)); have b7 := (X1.out.kept ((Below.refl _ _).alloc (Nat.le_refl _) (.cells #[] 3))).c7; rw [HE.out.2.1] at b7; clear X1' R1' D1' n1 d1 gs1 ho1 hg1 sz1)
    | (at_builtin; refine wpList_append_own _ rfl _ _ 22 rfl w1.heap.size 3 i0 (.int .i64 0) 1 8 Tryz.underlying22 hi hz0 hz1 hz2 rfl (by decide) (.slice (some ⟨w1.heap.size, 0, none⟩) 0 0) 0 [] rfl (own0 (w1.setCell ⟨w.heap.size, 6, none⟩ (Value.slice a1 d.nL c1)) _ HN1.out _ _) ⟨bS, oS, none⟩ d.nS p.cS (newsI d.S d.nS) rfl (newsI_len _ _) ?_ (newsI_one _ _) ?_ ?_ ?_ ?_; exact newsI_cells (KS.out _ (D1.out.alloc D1.out.size _)); (unfold maxLen; have := HL.out; have := HS.out; omega); (have := HL.out; have := HS.out; omega); (have q := HN1.out; simp only [World.size_alloc] at q ⊢; omega); intro v2 w2 ho2 hg2 _; obtain ⟨a2, c2, rfl, hc2, n2, d2⟩ := app_nums HN1.out ho2 hg2; have X2' := X1.out.kept d2; have R2' := (d2.block _ (lt_heap R1.out)).trans R1.out; have D2' := bt D1.out d2; have q2 := X2'.c7; have f2 := X2'.fr 7; have X2 := Lib.hid (X2'.set7 a2 c2); have R2 := Lib.hid ((set_other (Value.slice a2 d.nS c2) (show w.heap.size + 1 ≠ w.heap.size by omega) (i := 7)).trans R2'); have gs2 := grown_set w2 ⟨w.heap.size, 7, none⟩ (Value.slice a2 d.nS c2); have sd2 := d2.size; have sw2 := D1.out.size; have lt2 := lt_heap X1.out; have N2_2 := Lib.hid (n2.far gs2 (fun q e => by cases e; left; show w.heap.size < _; omega)); have N1_2 := Lib.hid ((N1_1.out.kept d2).far gs2 (fun q e => by cases e; left; show w.heap.size < _; omega)); have HN2 := Lib.hid (sc_size w2 ⟨w.heap.size, 7, none⟩ (Value.slice a2 d.nS c2)); have sz2 := HN2.out; have D2 := Lib.hid (D2'.setCell (p := ⟨w.heap.size, 7, none⟩) (Nat.le_refl _) (Value.slice a2 d.nS c2)); have b8 := (X2.out.kept ((Below.refl _ _).alloc (Nat.le_refl _) (.cells #[] 3))).c8; rw [HE.out.2.2] at b8; clear X2' R2' D2' n2 d2 gs2 ho2 hg2 sz2)
    | (at_builtin; refine wpList_append_own _ rfl _ _ 22 rfl w2.heap.size 3 i0 (.int .i64 0) 1 8 Tryz.underlying22 hi hz0 hz1 hz2 rfl (by decide) (.slice (some ⟨w2.heap.size, 0, none⟩) 0 0) 0 [] rfl (own0 (w2.setCell ⟨w.heap.size, 7, none⟩ (Value.slice a2 d.nS c2)) _ HN2.out _ _) ⟨bB, oB, none⟩ d.nB p.cB (newsI d.B d.nB) rfl (newsI_len _ _) ?_ (newsI_one _ _) ?_ ?_ ?_ ?_; exact newsI_cells (KB.out _ (D2.out.alloc D2.out.size _)); (unfold maxLen; have := HL.out; have := HS.out; omega); (have := HL.out; have := HS.out; omega); (have q := HN2.out; simp only [World.size_alloc] at q ⊢; omega); intro v3 w3 ho3 hg3 _; obtain ⟨a3, c3, rfl, hc3, n3, d3⟩ := app_nums HN2.out ho3 hg3; have X3' := X2.out.kept d3; have R3' := (d3.block _ (lt_heap R2.out)).trans R2.out; have D3' := bt D2.out d3; have q3 := X3'.c8; have f3 := X3'.fr 8; have X3 := Lib.hid (X3'.set8 a3 c3); have R3 := Lib.hid ((set_other (Value.slice a3 d.nB c3) (show w.heap.size + 1 ≠ w.heap.size by omega) (i := 8)).trans R3'); have gs3 := grown_set w3 ⟨w.heap.size, 8, none⟩ (Value.slice a3 d.nB c3); have sd3 := d3.size; have sw3 := D2.out.size; have lt3 := lt_heap X2.out; have N3_3 := Lib.hid (n3.far gs3 (fun q e => by cases e; left; show w.heap.size < _; omega)); have N1_3 := Lib.hid ((N1_2.out.kept d3).far gs3 (fun q e => by cases e; left; show w.heap.size < _; omega)); have N2_3 := Lib.hid ((N2_2.out.kept d3).far gs3 (fun q e => by cases e; left; show w.heap.size < _; omega)); have ho3' := ho3; rw [Nat.zero_add] at ho3'; have O3 := Lib.hid (ownsRow_setCell_below ho3' (a := ⟨w.heap.size, 8, none⟩) (by show w.heap.size < _; omega) (Value.slice a3 d.nB c3)); clear ho3'; have HN3 := Lib.hid (sc_size w3 ⟨w.heap.size, 8, none⟩ (Value.slice a3 d.nB c3)); have sz3 := HN3.out; have D3 := Lib.hid (D3'.setCell (p := ⟨w.heap.size, 8, none⟩) (Nat.le_refl _) (Value.slice a3 d.nB c3)); have d4 : Below (w3.setCell ⟨w.heap.size, 8, none⟩ (Value.slice a3 d.nB c3)).heap.size (w3.setCell ⟨w.heap.size, 8, none⟩ (Value.slice a3 d.nB c3)) ((w3.setCell ⟨w.heap.size, 8, none⟩ (Value.slice a3 d.nB c3)).alloc (.cells #[] 58)) := (Below.refl _ _).alloc (Nat.le_refl _) _; have X4' := X3.out.kept d4; have R4' := (d4.block _ (lt_heap R3.out)).trans R3.out; have D4' := bt D3.out d4; have q4 := X4'.c9; have f4 := X4'.fr 9; have X4 := X4'.set90 HH0.out (some ⟨w3.heap.size, 0, none⟩) 0; have R4 := Lib.hid ((set_other (Value.slice (some ⟨w3.heap.size, 0, none⟩) 0 0) (show w.heap.size + 1 ≠ w.heap.size by omega) (i := 9)).trans R4'); have gs4 := grown_set ((w3.setCell ⟨w.heap.size, 8, none⟩ (Value.slice a3 d.nB c3)).alloc (.cells #[] 58)) ⟨w.heap.size, 9, none⟩ (Value.slice (some ⟨w3.heap.size, 0, none⟩) 0 0); have sd4 := d4.size; have sw4 := D3.out.size; have lt4 := lt_heap X3.out; have N4_4 : Hid (HoldsR (w3.setCell ⟨w.heap.size, 8, none⟩ (Value.slice a3 d.nB c3)).heap.size ((w3.setCell ⟨w.heap.size, 8, none⟩ (Value.slice a3 d.nB c3)).alloc (.cells #[] 58)).heap.size (((w3.setCell ⟨w.heap.size, 8, none⟩ (Value.slice a3 d.nB c3)).alloc (.cells #[] 58)).setCell ⟨w.heap.size, 9, none⟩ (Value.slice (some ⟨w3.heap.size, 0, none⟩) 0 0)) (some ⟨w3.heap.size, 0, none⟩) d.nH d.t d.c d.s) := Lib.hid (.inl HH0.out); have N1_4 := Lib.hid ((N1_3.out.kept d4).far gs4 (fun q e => by cases e; left; show w.heap.size < _; omega)); have N2_4 := Lib.hid ((N2_3.out.kept d4).far gs4 (fun q e => by cases e; left; show w.heap.size < _; omega)); have N3_4 := Lib.hid ((N3_3.out.kept d4).far gs4 (fun q e => by cases e; left; show w.heap.size < _; omega)); have HN4 := Lib.hid (sc_size ((w3.setCell ⟨w.heap.size, 8, none⟩ (Value.slice a3 d.nB c3)).alloc (.cells #[] 58)) ⟨w.heap.size, 9, none⟩ (Value.slice (some ⟨w3.heap.size, 0, none⟩) 0 0)); have hc4 : d.nH ≤ 0 := Nat.le_of_eq HH0.out; have D4 := Lib.hid (D4'.setCell (p := ⟨w.heap.size, 9, none⟩) (Nat.le_refl _) (Value.slice (some ⟨w3.heap.size, 0, none⟩) 0 0)); have HSD4 := Lib.hid sd4; have HC4 := Lib.hid hc4; have B4 := Lib.hid (ownsRow_setCell_below (O3.out.alloc (.cells #[] 58)) (a := ⟨w.heap.size, 9, none⟩) (by show w.heap.size < _; omega) (Value.slice (some ⟨w3.heap.size, 0, none⟩) 0 0)); have G4 := Lib.hid (ownsRow_setCell_below (own0 (w3.setCell ⟨w.heap.size, 8, none⟩ (Value.slice a3 d.nB c3)) w3.heap.size HN3.out 58 3) (a := ⟨w.heap.size, 9, none⟩) (by show w.heap.size < _; omega) (Value.slice (some ⟨w3.heap.size, 0, none⟩) 0 0)); have e0 := X4.c0; have e1 := X4.c1; have e2 := X4.c2; have e3 := X4.c3; have e4 := X4.c4; have e5 := X4.c5; have e6 := X4.c6; have e7 := X4.c7; have e8 := X4.c8; have e9 : _ := X4.c9; rw [HH0.out] at e9 q4; rw [HA9.out] at q4; clear X4' R4' D4' d4 gs4 X4 sd4 hc4; have b9 := (X3.out.kept ((Below.refl _ _).alloc (Nat.le_refl _) (.cells #[] 58))).c9; rw [HA9.out, HH0.out] at b9; clear X3' R3' D3' n3 d3 gs3 ho3 hg3 sz3)
    | (refine wpList_store_row rfl 25 _ _ rfl (w.heap.size + 1) (LegC0 d { { { { p with aL := a1, cL := c1 } with aS := a2, cS := c2 } with aB := a3, cB := c3 } with aH := some ⟨w3.heap.size, 0, none⟩, cH := 0 }) rfl rfl 25 #[.string ⟨#[]⟩, .string ⟨#[]⟩, .string ⟨#[]⟩, .int .i64 0, .int .i64 0, .int .i64 0, .slice none 0 0, .slice none 0 0, .slice none 0 0, .slice none 0 0] R4.out legSize rfl (leg_one0 _ _) ?_)
    | fail)
  clear e0 e1 e2 e3 e4 e5 e6 e7 e8 e9 q4 f4
  rw [LegC0_eq HH0.out]
  generalize hW4 : (((w3.setCell ⟨w.heap.size, 8, none⟩ (Value.slice a3 d.nB c3)).alloc (.cells #[] 58)).setCell ⟨w.heap.size, 9, none⟩ (Value.slice (some ⟨w3.heap.size, 0, none⟩) 0 0)) = W4 at *
  clear hW4
  have hfin : LegBox (W4.setRow (w.heap.size + 1) (LegC d { { { { p with aL := a1, cL := c1 } with aS := a2, cS := c2 } with aB := a3, cB := c3 } with aH := some ⟨w3.heap.size, 0, none⟩, cH := 0 })) (w.heap.size + 1) d { { { { p with aL := a1, cL := c1 } with aS := a2, cS := c2 } with aB := a3, cB := c3 } with aH := some ⟨w3.heap.size, 0, none⟩, cH := 0 } := setRow_heap W4 (w.heap.size + 1) _ _ _ _ R4.out
  have gr := grown_setRow W4 (w.heap.size + 1) (LegC d { { { { p with aL := a1, cL := c1 } with aS := a2, cS := c2 } with aB := a3, cB := c3 } with aH := some ⟨w3.heap.size, 0, none⟩, cH := 0 })
  have z1 := HN1.out
  have z2 := HN2.out
  have z3 := HN3.out
  have z4 := HN4.out
  have z0 := HS0.out
  have z5 := HSD4.out
  have l1 := N1_4.out.far gr (fun q e => by cases e; left; omega)
  have l2 := N2_4.out.far gr (fun q e => by cases e; left; omega)
  have l3 := N3_4.out.far gr (fun q e => by cases e; left; omega)
  have l4 := N4_4.out.far gr (fun q e => by cases e; left; omega)
  have bfin : Below w.heap.size w (W4.setRow (w.heap.size + 1) (LegC d { { { { p with aL := a1, cL := c1 } with aS := a2, cS := c2 } with aB := a3, cB := c3 } with aH := some ⟨w3.heap.size, 0, none⟩, cH := 0 })) := D4.out.grown gr D4.out.size (fun q e => by cases e; omega)
  have sfin := gr.size
  have B5 := own_mono (base' := w.heap.size) (B4.out.kept gr (Or.inr (fun e => by have y1 := (B4.out.lt _ e).1; omega))) (by omega)
  have G5 := own_mono (base' := w.heap.size) (G4.out.kept gr (Or.inr (fun e => by have y1 := (G4.out.lt _ e).1; omega))) (by omega)
  generalize W4.setRow (w.heap.size + 1) (LegC d { { { { p with aL := a1, cL := c1 } with aS := a2, cS := c2 } with aB := a3, cB := c3 } with aH := some ⟨w3.heap.size, 0, none⟩, cH := 0 }) = W5 at *
  have y0 := hfin.c0
  have y1 := hfin.c1
  have y2 := hfin.c2
  have y3 := hfin.c3
  have y4 := hfin.c4
  have y5 := hfin.c5
  have y6 := hfin.c6
  have y7 := hfin.c7
  have y8 := hfin.c8
  have y9 := hfin.c9
  have new : LegNew w.heap.size W5 d { { { { p with aL := a1, cL := c1 } with aS := a2, cS := c2 } with aB := a3, cB := c3 } with aH := some ⟨w3.heap.size, 0, none⟩, cH := 0 } := by
    refine ⟨⟨hc1, hc2, hc3, HC4.out⟩, w1.heap.size, w2.heap.size, w3.heap.size, ((w3.setCell ⟨w.heap.size, 8, none⟩ (Value.slice a3 d.nB c3)).alloc (.cells #[] 58)).heap.size, ?_, ?_, ?_, ?_, ?_, l1.mono ?_ ?_, l2.mono ?_ ?_, l3.mono ?_ ?_, l4.mono ?_ ?_⟩ <;> omega
  have bO : OffH d { { { { p with aL := a1, cL := c1 } with aS := a2, cS := c2 } with aB := a3, cB := c3 } with aH := some ⟨w3.heap.size, 0, none⟩, cH := 0 } := fun g e => by
    have y1 := (G4.out.lt g e).1
    exact ⟨numsR_off l1 (by omega), numsR_off l2 (by omega), numsR_off l3 (by omega)⟩
  have bB : OwnB w.heap.size W5 d { { { { p with aL := a1, cL := c1 } with aS := a2, cS := c2 } with aB := a3, cB := c3 } with aH := some ⟨w3.heap.size, 0, none⟩, cH := 0 } := B5
  have bG : OwnH w.heap.size W5 d { { { { p with aL := a1, cL := c1 } with aS := a2, cS := c2 } with aB := a3, cB := c3 } with aH := some ⟨w3.heap.size, 0, none⟩, cH := 0 } := by unfold OwnH; rw [HH0.out]; exact G5
  refine bodyPost_ret (v := LegV d { { { { p with aL := a1, cL := c1 } with aS := a2, cS := c2 } with aB := a3, cB := c3 } with aH := some ⟨w3.heap.size, 0, none⟩, cH := 0 }) ?_ rfl ⟨_, rfl, new, bfin, bB, bG, bO⟩
  rw [LegV_eq]
  unfold LegC
  rw [results_cell1 rfl]
  go_simp

set_option maxRecDepth 100000 in
set_option maxHeartbeats 8000000 in
theorem copyOsome (d : LegD) (p : LegP) (w : World) (hin : LegIn w d p) (hL : d.nL = 3) (hS : d.nS = 3) (hB : 1 ≤ d.nB) (hB4 : d.nB ≤ 8) (hH : d.nH = 0) (x9 : Addr) (ha : p.aH = some x9) :
    Calls Tryz.prog 57 #[LegV d p] w fun e w' => ∃ p', e = .returned (LegV d p') ∧ LegNew w.heap.size w' d p' ∧ Below w.heap.size w w' ∧ OwnB w.heap.size w' d p' ∧ OwnH w.heap.size w' d p' ∧ OffH d p' := by
  obtain ⟨i0, hi, hz0, hz1, hz2⟩ := info_parts infoInt
  obtain ⟨j0, ji, jz0, jz1, jz2⟩ := info_parts infoHold
  obtain ⟨bL, oL, eL, hbL, hcL⟩ := hin.1.cells (by omega)
  obtain ⟨bS, oS, eS, hbS, hcS⟩ := hin.2.1.cells (by omega)
  obtain ⟨bB, oB, eB, hbB, hcB⟩ := hin.2.2.1.cells (by omega)
  have hD : Below w.heap.size w ((w.alloc (.cells (LegC d p) 25)).alloc (.cells #[.string ⟨#[]⟩, .string ⟨#[]⟩, .string ⟨#[]⟩, .int .i64 0, .int .i64 0, .int .i64 0, .slice none 0 0, .slice none 0 0, .slice none 0 0, .slice none 0 0] 25)) := ((Below.refl _ _).alloc (Nat.le_refl _) _).alloc (by simp) _
  have hX : LegBox ((w.alloc (.cells (LegC d p) 25)).alloc (.cells #[.string ⟨#[]⟩, .string ⟨#[]⟩, .string ⟨#[]⟩, .int .i64 0, .int .i64 0, .int .i64 0, .slice none 0 0, .slice none 0 0, .slice none 0 0, .slice none 0 0] 25)) w.heap.size d p := (LegBox.new w d p).kept ((Below.refl _ _).alloc (Nat.le_refl _) _)
  have hR : ((w.alloc (.cells (LegC d p) 25)).alloc (.cells #[.string ⟨#[]⟩, .string ⟨#[]⟩, .string ⟨#[]⟩, .int .i64 0, .int .i64 0, .int .i64 0, .slice none 0 0, .slice none 0 0, .slice none 0 0, .slice none 0 0] 25)).heap[w.heap.size + 1]? = some (.cells #[.string ⟨#[]⟩, .string ⟨#[]⟩, .string ⟨#[]⟩, .int .i64 0, .int .i64 0, .int .i64 0, .slice none 0 0, .slice none 0 0, .slice none 0 0, .slice none 0 0] 25 (0, 0)) := by
    have := heap_alloc_new (w.alloc (.cells (LegC d p) 25)) (.cells #[.string ⟨#[]⟩, .string ⟨#[]⟩, .string ⟨#[]⟩, .int .i64 0, .int .i64 0, .int .i64 0, .slice none 0 0, .slice none 0 0, .slice none 0 0, .slice none 0 0] 25)
    rwa [World.size_alloc] at this
  have hs0 : ((w.alloc (.cells (LegC d p) 25)).alloc (.cells #[.string ⟨#[]⟩, .string ⟨#[]⟩, .string ⟨#[]⟩, .int .i64 0, .int .i64 0, .int .i64 0, .slice none 0 0, .slice none 0 0, .slice none 0 0, .slice none 0 0] 25)).heap.size = w.heap.size + 1 + 1 := by simp
  have D0 := Lib.hid hD
  have X0 := Lib.hid hX
  have R0 := Lib.hid hR
  have HL := Lib.hid hL
  have HS := Lib.hid hS
  have HE := Lib.hid (And.intro eL (And.intro eS eB))
  have b6 := hX.c6
  rw [eL] at b6
  rw [LegV_eq]
  generalize hLC : LegC d p = LC at *
  have HS0 := Lib.hid hs0
  have kL : ∀ W, Below w.heap.size w W → ∀ i, i < d.nL → W.cell? ⟨bL, oL + i, none⟩ = some (.int .i64 (d.L i)) := fun W hb i hi => cell_kept hb hbL (hcL i hi)
  have kS : ∀ W, Below w.heap.size w W → ∀ i, i < d.nS → W.cell? ⟨bS, oS + i, none⟩ = some (.int .i64 (d.S i)) := fun W hb i hi => cell_kept hb hbS (hcS i hi)
  have kB : ∀ W, Below w.heap.size w W → ∀ i, i < d.nB → W.cell? ⟨bB, oB + i, none⟩ = some (.int .i64 (d.B i)) := fun W hb i hi => cell_kept hb hbB (hcB i hi)
  have KL := Lib.hid kL
  have KS := Lib.hid kS
  have KB := Lib.hid kB
  have HH0 := Lib.hid hH
  have HA9 := Lib.hid ha
  clear hH ha
  clear hin hD hX hR hs0 hcL hcS hcB kL kS kB hL hS eL eS eB hLC
  go_enter Tryz.func57, Tryz.ntmps57
  go_wp2_with (first
    | (at_builtin; refine wpList_append_own _ rfl _ _ 22 rfl (w.heap.size + 1 + 1) 3 i0 (.int .i64 0) 1 8 Tryz.underlying22 hi hz0 hz1 hz2 rfl (by decide) (.slice (some ⟨(w.heap.size + 1 + 1), 0, none⟩) 0 0) 0 [] rfl (own0 ((w.alloc (.cells LC 25)).alloc (.cells #[.string ⟨#[]⟩, .string ⟨#[]⟩, .string ⟨#[]⟩, .int .i64 0, .int .i64 0, .int .i64 0, .slice none 0 0, .slice none 0 0, .slice none 0 0, .slice none 0 0] 25)) _ HS0.out _ _) ⟨bL, oL, none⟩ d.nL p.cL (newsI d.L d.nL) rfl (newsI_len _ _) ?_ (newsI_one _ _) ?_ ?_ ?_ ?_; exact newsI_cells (KL.out _ (D0.out.alloc D0.out.size _)); (unfold maxLen; have := HL.out; have := HS.out; omega); (have := HL.out; have := HS.out; omega); (have q := HS0.out; simp only [World.size_alloc] at q ⊢; omega); intro v1 w1 ho1 hg1 _; obtain ⟨a1, c1, rfl, hc1, n1, d1⟩ := app_nums HS0.out ho1 hg1; have X1' := X0.out.kept d1; have R1' := (d1.block _ (lt_heap R0.out)).trans R0.out; have D1' := bt D0.out d1; have q1 := X1'.c6; have f1 := X1'.fr 6; have X1 := Lib.hid (X1'.set6 a1 c1); have R1 := Lib.hid ((set_other (Value.slice a1 d.nL c1) (show w.heap.size + 1 ≠ w.heap.size by omega) (i := 6)).trans R1'); have gs1 := grown_set w1 ⟨w.heap.size, 6, none⟩ (Value.slice a1 d.nL c1); have sd1 := d1.size; have sw1 := D0.out.size; have lt1 := lt_heap X0.out; have N1_1 := Lib.hid (n1.far gs1 (fun q e => by cases e; left; show w.heap.size < _; omega)); have HN1 := Lib.hid (sc_size w1 ⟨w.heap.size, 6, none⟩ (Value.slice a1 d.nL c1)); have sz1 := HN1.out; have D1 := Lib.hid (D1'.setCell (p := ⟨w.heap.size, 6, none⟩) (Nat.le_refl _) (Value.slice a1 d.nL c1)); have b7 := (X1.out.kept ((Below.refl _ _).alloc (Nat.le_refl _) (.cells #[] 3))).c7; rw [HE.out.2.1] at b7; clear X1' R1' D1' n1 d1 gs1 ho1 hg1 sz1)
    | (at_builtin; refine wpList_append_own _ rfl _ _ 22 rfl w1.heap.size 3 i0 (.int .i64 0) 1 8 Tryz.underlying22 hi hz0 hz1 hz2 rfl (by decide) (.slice (some ⟨w1.heap.size, 0, none⟩) 0 0) 0 [] rfl (own0 (w1.setCell ⟨w.heap.size, 6, none⟩ (Value.slice a1 d.nL c1)) _ HN1.out _ _) ⟨bS, oS, none⟩ d.nS p.cS (newsI d.S d.nS) rfl (newsI_len _ _) ?_ (newsI_one _ _) ?_ ?_ ?_ ?_; exact newsI_cells (KS.out _ (D1.out.alloc D1.out.size _)); (unfold maxLen; have := HL.out; have := HS.out; omega); (have := HL.out; have := HS.out; omega); (have q := HN1.out; simp only [World.size_alloc] at q ⊢; omega); intro v2 w2 ho2 hg2 _; obtain ⟨a2, c2, rfl, hc2, n2, d2⟩ := app_nums HN1.out ho2 hg2; have X2' := X1.out.kept d2; have R2' := (d2.block _ (lt_heap R1.out)).trans R1.out; have D2' := bt D1.out d2; have q2 := X2'.c7; have f2 := X2'.fr 7; have X2 := Lib.hid (X2'.set7 a2 c2); have R2 := Lib.hid ((set_other (Value.slice a2 d.nS c2) (show w.heap.size + 1 ≠ w.heap.size by omega) (i := 7)).trans R2'); have gs2 := grown_set w2 ⟨w.heap.size, 7, none⟩ (Value.slice a2 d.nS c2); have sd2 := d2.size; have sw2 := D1.out.size; have lt2 := lt_heap X1.out; have N2_2 := Lib.hid (n2.far gs2 (fun q e => by cases e; left; show w.heap.size < _; omega)); have N1_2 := Lib.hid ((N1_1.out.kept d2).far gs2 (fun q e => by cases e; left; show w.heap.size < _; omega)); have HN2 := Lib.hid (sc_size w2 ⟨w.heap.size, 7, none⟩ (Value.slice a2 d.nS c2)); have sz2 := HN2.out; have D2 := Lib.hid (D2'.setCell (p := ⟨w.heap.size, 7, none⟩) (Nat.le_refl _) (Value.slice a2 d.nS c2)); have b8 := (X2.out.kept ((Below.refl _ _).alloc (Nat.le_refl _) (.cells #[] 3))).c8; rw [HE.out.2.2] at b8; clear X2' R2' D2' n2 d2 gs2 ho2 hg2 sz2)
    | (at_builtin; refine wpList_append_own _ rfl _ _ 22 rfl w2.heap.size 3 i0 (.int .i64 0) 1 8 Tryz.underlying22 hi hz0 hz1 hz2 rfl (by decide) (.slice (some ⟨w2.heap.size, 0, none⟩) 0 0) 0 [] rfl (own0 (w2.setCell ⟨w.heap.size, 7, none⟩ (Value.slice a2 d.nS c2)) _ HN2.out _ _) ⟨bB, oB, none⟩ d.nB p.cB (newsI d.B d.nB) rfl (newsI_len _ _) ?_ (newsI_one _ _) ?_ ?_ ?_ ?_; exact newsI_cells (KB.out _ (D2.out.alloc D2.out.size _)); (unfold maxLen; have := HL.out; have := HS.out; omega); (have := HL.out; have := HS.out; omega); (have q := HN2.out; simp only [World.size_alloc] at q ⊢; omega); intro v3 w3 ho3 hg3 _; obtain ⟨a3, c3, rfl, hc3, n3, d3⟩ := app_nums HN2.out ho3 hg3; have X3' := X2.out.kept d3; have R3' := (d3.block _ (lt_heap R2.out)).trans R2.out; have D3' := bt D2.out d3; have q3 := X3'.c8; have f3 := X3'.fr 8; have X3 := Lib.hid (X3'.set8 a3 c3); have R3 := Lib.hid ((set_other (Value.slice a3 d.nB c3) (show w.heap.size + 1 ≠ w.heap.size by omega) (i := 8)).trans R3'); have gs3 := grown_set w3 ⟨w.heap.size, 8, none⟩ (Value.slice a3 d.nB c3); have sd3 := d3.size; have sw3 := D2.out.size; have lt3 := lt_heap X2.out; have N3_3 := Lib.hid (n3.far gs3 (fun q e => by cases e; left; show w.heap.size < _; omega)); have N1_3 := Lib.hid ((N1_2.out.kept d3).far gs3 (fun q e => by cases e; left; show w.heap.size < _; omega)); have N2_3 := Lib.hid ((N2_2.out.kept d3).far gs3 (fun q e => by cases e; left; show w.heap.size < _; omega)); have ho3' := ho3; rw [Nat.zero_add] at ho3'; have O3 := Lib.hid (ownsRow_setCell_below ho3' (a := ⟨w.heap.size, 8, none⟩) (by show w.heap.size < _; omega) (Value.slice a3 d.nB c3)); clear ho3'; have HN3 := Lib.hid (sc_size w3 ⟨w.heap.size, 8, none⟩ (Value.slice a3 d.nB c3)); have sz3 := HN3.out; have D3 := Lib.hid (D3'.setCell (p := ⟨w.heap.size, 8, none⟩) (Nat.le_refl _) (Value.slice a3 d.nB c3)); have d4 : Below (w3.setCell ⟨w.heap.size, 8, none⟩ (Value.slice a3 d.nB c3)).heap.size (w3.setCell ⟨w.heap.size, 8, none⟩ (Value.slice a3 d.nB c3)) ((w3.setCell ⟨w.heap.size, 8, none⟩ (Value.slice a3 d.nB c3)).alloc (.cells #[] 58)) := (Below.refl _ _).alloc (Nat.le_refl _) _; have X4' := X3.out.kept d4; have R4' := (d4.block _ (lt_heap R3.out)).trans R3.out; have D4' := bt D3.out d4; have q4 := X4'.c9; have f4 := X4'.fr 9; have X4 := X4'.set90 HH0.out (some ⟨w3.heap.size, 0, none⟩) 0; have R4 := Lib.hid ((set_other (Value.slice (some ⟨w3.heap.size, 0, none⟩) 0 0) (show w.heap.size + 1 ≠ w.heap.size by omega) (i := 9)).trans R4'); have gs4 := grown_set ((w3.setCell ⟨w.heap.size, 8, none⟩ (Value.slice a3 d.nB c3)).alloc (.cells #[] 58)) ⟨w.heap.size, 9, none⟩ (Value.slice (some ⟨w3.heap.size, 0, none⟩) 0 0); have sd4 := d4.size; have sw4 := D3.out.size; have lt4 := lt_heap X3.out; have N4_4 : Hid (HoldsR (w3.setCell ⟨w.heap.size, 8, none⟩ (Value.slice a3 d.nB c3)).heap.size ((w3.setCell ⟨w.heap.size, 8, none⟩ (Value.slice a3 d.nB c3)).alloc (.cells #[] 58)).heap.size (((w3.setCell ⟨w.heap.size, 8, none⟩ (Value.slice a3 d.nB c3)).alloc (.cells #[] 58)).setCell ⟨w.heap.size, 9, none⟩ (Value.slice (some ⟨w3.heap.size, 0, none⟩) 0 0)) (some ⟨w3.heap.size, 0, none⟩) d.nH d.t d.c d.s) := Lib.hid (.inl HH0.out); have N1_4 := Lib.hid ((N1_3.out.kept d4).far gs4 (fun q e => by cases e; left; show w.heap.size < _; omega)); have N2_4 := Lib.hid ((N2_3.out.kept d4).far gs4 (fun q e => by cases e; left; show w.heap.size < _; omega)); have N3_4 := Lib.hid ((N3_3.out.kept d4).far gs4 (fun q e => by cases e; left; show w.heap.size < _; omega)); have HN4 := Lib.hid (sc_size ((w3.setCell ⟨w.heap.size, 8, none⟩ (Value.slice a3 d.nB c3)).alloc (.cells #[] 58)) ⟨w.heap.size, 9, none⟩ (Value.slice (some ⟨w3.heap.size, 0, none⟩) 0 0)); have hc4 : d.nH ≤ 0 := Nat.le_of_eq HH0.out; have D4 := Lib.hid (D4'.setCell (p := ⟨w.heap.size, 9, none⟩) (Nat.le_refl _) (Value.slice (some ⟨w3.heap.size, 0, none⟩) 0 0)); have HSD4 := Lib.hid sd4; have HC4 := Lib.hid hc4; have B4 := Lib.hid (ownsRow_setCell_below (O3.out.alloc (.cells #[] 58)) (a := ⟨w.heap.size, 9, none⟩) (by show w.heap.size < _; omega) (Value.slice (some ⟨w3.heap.size, 0, none⟩) 0 0)); have G4 := Lib.hid (ownsRow_setCell_below (own0 (w3.setCell ⟨w.heap.size, 8, none⟩ (Value.slice a3 d.nB c3)) w3.heap.size HN3.out 58 3) (a := ⟨w.heap.size, 9, none⟩) (by show w.heap.size < _; omega) (Value.slice (some ⟨w3.heap.size, 0, none⟩) 0 0)); have e0 := X4.c0; have e1 := X4.c1; have e2 := X4.c2; have e3 := X4.c3; have e4 := X4.c4; have e5 := X4.c5; have e6 := X4.c6; have e7 := X4.c7; have e8 := X4.c8; have e9 : _ := X4.c9; rw [HH0.out] at e9 q4; rw [HA9.out] at q4; clear X4' R4' D4' d4 gs4 X4 sd4 hc4; have b9 := (X3.out.kept ((Below.refl _ _).alloc (Nat.le_refl _) (.cells #[] 58))).c9; rw [HA9.out, HH0.out] at b9; clear X3' R3' D3' n3 d3 gs3 ho3 hg3 sz3)
    | (refine wpList_store_row rfl 25 _ _ rfl (w.heap.size + 1) (LegC0 d { { { { p with aL := a1, cL := c1 } with aS := a2, cS := c2 } with aB := a3, cB := c3 } with aH := some ⟨w3.heap.size, 0, none⟩, cH := 0 }) rfl rfl 25 #[.string ⟨#[]⟩, .string ⟨#[]⟩, .string ⟨#[]⟩, .int .i64 0, .int .i64 0, .int .i64 0, .slice none 0 0, .slice none 0 0, .slice none 0 0, .slice none 0 0] R4.out legSize rfl (leg_one0 _ _) ?_)
    | fail)
  clear e0 e1 e2 e3 e4 e5 e6 e7 e8 e9 q4 f4
  rw [LegC0_eq HH0.out]
  generalize hW4 : (((w3.setCell ⟨w.heap.size, 8, none⟩ (Value.slice a3 d.nB c3)).alloc (.cells #[] 58)).setCell ⟨w.heap.size, 9, none⟩ (Value.slice (some ⟨w3.heap.size, 0, none⟩) 0 0)) = W4 at *
  clear hW4
  have hfin : LegBox (W4.setRow (w.heap.size + 1) (LegC d { { { { p with aL := a1, cL := c1 } with aS := a2, cS := c2 } with aB := a3, cB := c3 } with aH := some ⟨w3.heap.size, 0, none⟩, cH := 0 })) (w.heap.size + 1) d { { { { p with aL := a1, cL := c1 } with aS := a2, cS := c2 } with aB := a3, cB := c3 } with aH := some ⟨w3.heap.size, 0, none⟩, cH := 0 } := setRow_heap W4 (w.heap.size + 1) _ _ _ _ R4.out
  have gr := grown_setRow W4 (w.heap.size + 1) (LegC d { { { { p with aL := a1, cL := c1 } with aS := a2, cS := c2 } with aB := a3, cB := c3 } with aH := some ⟨w3.heap.size, 0, none⟩, cH := 0 })
  have z1 := HN1.out
  have z2 := HN2.out
  have z3 := HN3.out
  have z4 := HN4.out
  have z0 := HS0.out
  have z5 := HSD4.out
  have l1 := N1_4.out.far gr (fun q e => by cases e; left; omega)
  have l2 := N2_4.out.far gr (fun q e => by cases e; left; omega)
  have l3 := N3_4.out.far gr (fun q e => by cases e; left; omega)
  have l4 := N4_4.out.far gr (fun q e => by cases e; left; omega)
  have bfin : Below w.heap.size w (W4.setRow (w.heap.size + 1) (LegC d { { { { p with aL := a1, cL := c1 } with aS := a2, cS := c2 } with aB := a3, cB := c3 } with aH := some ⟨w3.heap.size, 0, none⟩, cH := 0 })) := D4.out.grown gr D4.out.size (fun q e => by cases e; omega)
  have sfin := gr.size
  have B5 := own_mono (base' := w.heap.size) (B4.out.kept gr (Or.inr (fun e => by have y1 := (B4.out.lt _ e).1; omega))) (by omega)
  have G5 := own_mono (base' := w.heap.size) (G4.out.kept gr (Or.inr (fun e => by have y1 := (G4.out.lt _ e).1; omega))) (by omega)
  generalize W4.setRow (w.heap.size + 1) (LegC d { { { { p with aL := a1, cL := c1 } with aS := a2, cS := c2 } with aB := a3, cB := c3 } with aH := some ⟨w3.heap.size, 0, none⟩, cH := 0 }) = W5 at *
  have y0 := hfin.c0
  have y1 := hfin.c1
  have y2 := hfin.c2
  have y3 := hfin.c3
  have y4 := hfin.c4
  have y5 := hfin.c5
  have y6 := hfin.c6
  have y7 := hfin.c7
  have y8 := hfin.c8
  have y9 := hfin.c9
  have new : LegNew w.heap.size W5 d { { { { p with aL := a1, cL := c1 } with aS := a2, cS := c2 } with aB := a3, cB := c3 } with aH := some ⟨w3.heap.size, 0, none⟩, cH := 0 } := by
    refine ⟨⟨hc1, hc2, hc3, HC4.out⟩, w1.heap.size, w2.heap.size, w3.heap.size, ((w3.setCell ⟨w.heap.size, 8, none⟩ (Value.slice a3 d.nB c3)).alloc (.cells #[] 58)).heap.size, ?_, ?_, ?_, ?_, ?_, l1.mono ?_ ?_, l2.mono ?_ ?_, l3.mono ?_ ?_, l4.mono ?_ ?_⟩ <;> omega
  have bO : OffH d { { { { p with aL := a1, cL := c1 } with aS := a2, cS := c2 } with aB := a3, cB := c3 } with aH := some ⟨w3.heap.size, 0, none⟩, cH := 0 } := fun g e => by
    have y1 := (G4.out.lt g e).1
    exact ⟨numsR_off l1 (by omega), numsR_off l2 (by omega), numsR_off l3 (by omega)⟩
  have bB : OwnB w.heap.size W5 d { { { { p with aL := a1, cL := c1 } with aS := a2, cS := c2 } with aB := a3, cB := c3 } with aH := some ⟨w3.heap.size, 0, none⟩, cH := 0 } := B5
  have bG : OwnH w.heap.size W5 d { { { { p with aL := a1, cL := c1 } with aS := a2, cS := c2 } with aB := a3, cB := c3 } with aH := some ⟨w3.heap.size, 0, none⟩, cH := 0 } := by unfold OwnH; rw [HH0.out]; exact G5
  refine bodyPost_ret (v := LegV d { { { { p with aL := a1, cL := c1 } with aS := a2, cS := c2 } with aB := a3, cB := c3 } with aH := some ⟨w3.heap.size, 0, none⟩, cH := 0 }) ?_ rfl ⟨_, rfl, new, bfin, bB, bG, bO⟩
  rw [LegV_eq]
  unfold LegC
  rw [results_cell1 rfl]
  go_simp

theorem copyO (d : LegD) (p : LegP) (w : World) (hin : LegIn w d p) (hL : d.nL = 3) (hS : d.nS = 3) (hB : 1 ≤ d.nB) (hB4 : d.nB ≤ 8) (hH : d.nH ≤ 10) :
    Calls Tryz.prog 57 #[LegV d p] w fun e w' => ∃ p', e = .returned (LegV d p') ∧ LegNew w.heap.size w' d p' ∧ Below w.heap.size w w' ∧ OwnB w.heap.size w' d p' ∧ OwnH w.heap.size w' d p' ∧ OffH d p' := by
  rcases Nat.eq_zero_or_pos d.nH with h0 | hp
  · cases ha : p.aH with
    | none => exact copyOnone d p w hin hL hS hB hB4 h0 ha
    | some x => exact copyOsome d p w hin hL hS hB hB4 h0 x ha
  · exact copyOpos d p w hin hL hS hB hB4 hp hH
end Go.Proofs.YtdaccpffdnbkiaaGreatDoor
