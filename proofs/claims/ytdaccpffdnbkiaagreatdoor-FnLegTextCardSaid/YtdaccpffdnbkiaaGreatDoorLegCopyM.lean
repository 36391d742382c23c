/-
  A copy of a leg in new memory: the model's.
-/
import Derived.Test.YtdaccpffdnbkiaaGreatDoorJ29
import Derived.OwnWalk
import Derived.Deep.DeepMust
namespace Go.Proofs.YtdaccpffdnbkiaaGreatDoor
open Go.RowKit
set_option linter.unusedVariables false
set_option linter.unusedSimpArgs false

theorem own0 (W : World) (N : Nat) (hN : W.heap.size = N) (e : TypeId) (size : Nat) : (W.alloc (.cells #[] e)).ownsRow N e size (.slice (some ⟨N, 0, none⟩) 0 0) 0 [] := by
  subst hN
  have := World.ownsRow_lit (base := W.heap.size) (e := e) (size := size) W #[] 0 (Nat.le_refl _) (Nat.zero_le _) (by simp)
  simpa using this
def newsI (z : Nat → Int) (len : Nat) : List Value := (List.range len).map fun i => Value.int .i64 (z i)
theorem newsI_cells {W : World} {b off len : Nat} {z : Nat → Int} (h : ∀ i, i < len → W.cell? ⟨b, off + i, none⟩ = some (.int .i64 (z i))) : ∀ (j : Nat) (u : Value), (newsI z len)[j]? = some u → W.cell? ((⟨b, off, none⟩ : Addr).add j) = some u := by
  intro j u hu
  have hj : j < len := by
    rcases Nat.lt_or_ge j len with q | q
    · exact q
    · rw [List.getElem?_eq_none (by simpa [newsI] using q)] at hu; cases hu
  have e : (⟨b, off, none⟩ : Addr).add j = ⟨b, off + j, none⟩ := by by_cases h0 : j = 0 <;> simp [Addr.add, h0]
  rw [e, h j hj]
  simpa [newsI, hj] using hu
theorem newsI_one (z : Nat → Int) (len : Nat) : ∀ u ∈ newsI z len, u.oneCell' = true := by
  intro u hu
  simp [newsI] at hu
  obtain ⟨i, -, rfl⟩ := hu
  rfl
theorem sc_size (w : World) (a : Addr) (v : Value) : (w.setCell a v).heap.size = w.heap.size := by simp [World.setCell]
theorem newsI_len (z : Nat → Int) (len : Nat) : (newsI z len).length = len * 1 := by simp [newsI]
theorem app_nums {W w1 : World} {N len : Nat} {v : Value} {z : Nat → Int} (hN : W.heap.size = N) (h : w1.ownsRow N 3 1 v (0 + len) ([] ++ newsI z len)) (hg : (W.alloc (.cells #[] 3)).grownBy w1 (some N)) :
    ∃ a cap, v = .slice a len cap ∧ len ≤ cap ∧ NumsR W.heap.size w1.heap.size w1 a len z ∧ Below W.heap.size W w1 := by
  subst hN
  rw [Nat.zero_add] at h
  obtain ⟨a, cap, e, hc, hn⟩ := own_nums (z := z) h (fun i hi => by simp [newsI, hi])
  exact ⟨a, cap, e, hc, hn, ((Below.refl _ W).alloc (Nat.le_refl _) _).grown hg (by simp) (fun k e => by cases e; exact Nat.le_refl _)⟩
/-- What is held, as cells. -/
def ndsOf (t c s : Nat → Int) (len : Nat) : List Nd := (List.range len).map fun i => ⟨0, t i, c i, s i⟩
theorem ndsOf_len (t c s : Nat → Int) (len : Nat) : (ndsOf t c s len).length = len := by simp [ndsOf]
theorem ndsOf_at {t c s : Nat → Int} {len i : Nat} (h : i < len) : tN (ndsOf t c s len) i = t i ∧ cN (ndsOf t c s len) i = c i ∧ sN (ndsOf t c s len) i = s i := by
  simp [tN, cN, sN, ndsOf, List.getD_eq_getElem?_getD, h]
theorem newsH_cells {W : World} {b off len : Nat} {t c s : Nat → Int} (h : ∀ i, i < len → W.cell? ⟨b, off + i * 3, none⟩ = some (.int .i64 (t i)) ∧ W.cell? ⟨b, off + i * 3 + 1, none⟩ = some (.int .i64 (c i)) ∧ W.cell? ⟨b, off + i * 3 + 2, none⟩ = some (.int .i64 (s i))) :
    ∀ (j : Nat) (u : Value), (flatN (ndsOf t c s len))[j]? = some u → W.cell? ((⟨b, off, none⟩ : Addr).add j) = some u := by
  intro j u hu
  have hl := flatN_len (ndsOf t c s len)
  rw [ndsOf_len] at hl
  have hj : j < len * 3 := by
    rcases Nat.lt_or_ge j (len * 3) with q | q
    · exact q
    · rw [List.getElem?_eq_none (by omega)] at hu; cases hu
  have hq : j / 3 < len := by omega
  have hf := flatN_at (ndsOf t c s len) (j / 3) (by rw [ndsOf_len]; exact hq)
  have hn := ndsOf_at (t := t) (c := c) (s := s) hq
  rw [hn.1, hn.2.1, hn.2.2] at hf
  have hh := h (j / 3) hq
  have e : ∀ q, (⟨b, off, none⟩ : Addr).add q = ⟨b, off + q, none⟩ := fun q => by by_cases h0 : q = 0 <;> simp [Addr.add, h0]
  rw [e]
  rcases (by omega : j = j / 3 * 3 ∨ j = j / 3 * 3 + 1 ∨ j = j / 3 * 3 + 2) with q | q | q
  · rw [q] at hu ⊢; rw [hf.1] at hu; rw [hh.1]; exact hu
  · rw [q] at hu ⊢; rw [hf.2.1] at hu; rw [← Nat.add_assoc, hh.2.1]; exact hu
  · rw [q] at hu ⊢; rw [hf.2.2] at hu; rw [← Nat.add_assoc, hh.2.2]; exact hu
theorem flatN_one (L : List Nd) : ∀ u ∈ flatN L, u.oneCell' = true := by
  intro u hu
  simp [flatN] at hu
  obtain ⟨n, -, rfl | rfl | rfl⟩ := hu <;> rfl
theorem app_holds {W w1 : World} {N len : Nat} {v : Value} {L : List Nd} (hl : L.length = len) (hN : W.heap.size = N) (h : w1.ownsRow N 58 3 v (0 + len) ([] ++ flatN L)) (hg : (W.alloc (.cells #[] 58)).grownBy w1 (some N)) :
    ∃ a cap, v = .slice a len cap ∧ len ≤ cap ∧ HoldsR W.heap.size w1.heap.size w1 a len (tN L) (cN L) (sN L) ∧ Below W.heap.size W w1 := by
  subst hN hl
  rw [Nat.zero_add] at h
  obtain ⟨a, cap, e, hc, hn⟩ := own_holdsR h
  exact ⟨a, cap, e, hc, hn, ((Below.refl _ W).alloc (Nat.le_refl _) _).grown hg (by simp) (fun k e => by cases e; exact Nat.le_refl _)⟩
theorem LegBox.set90 {w : World} {b : Nat} {d : LegD} {p : LegP} (h : LegBox w b d p) (h0 : d.nH = 0) (a : Option Addr) (c : Nat) : LegBox (w.setCell ⟨b, 9, none⟩ (.slice a 0 c)) b d { p with aH := a, cH := c } := by
  have := set_same (i := 9) h (.slice a 0 c)
  unfold LegBox
  rw [this]
  simp [LegC, h0]
def LegC0 (d : LegD) (p : LegP) : Array Value := #[.string d.name, .string d.fr, .string d.to, .int .i64 d.dep, .int .i64 d.arr, .int .i64 d.cap, .slice p.aL d.nL p.cL, .slice p.aS d.nS p.cS, .slice p.aB d.nB p.cB, .slice p.aH 0 p.cH]
theorem LegC0_eq {d : LegD} {p : LegP} (h : d.nH = 0) : LegC0 d p = LegC d p := by unfold LegC0 LegC; rw [h]
theorem leg_one0 (d : LegD) (p : LegP) : (LegC0 d p).all (·.oneCell') = true := by simp [LegC0, Value.oneCell']
theorem LegBox.set9' {w : World} {b : Nat} {d : LegD} {p : LegP} (h : LegBox w b d p) (a : Option Addr) (c : Nat) : LegBox (w.setCell ⟨b, 9, none⟩ (.slice a d.nH c)) b d { p with aH := a, cH := c } := set_same h _

set_option maxRecDepth 100000 in
set_option maxHeartbeats 8000000 in
theorem copyMpos (d : LegD) (p : LegP) (w : World) (hin : LegIn w d p) (hL : d.nL = 3) (hS : d.nS = 3) (hB : 1 ≤ d.nB) (hB4 : d.nB ≤ 8) (hH : 0 < d.nH) (hH10 : d.nH ≤ 10) :
    Calls Tryz.prog 57 #[LegV d p] w fun e w' => ∃ p', e = .returned (LegV d p') ∧ LegNew w.heap.size w' d p' ∧ Below w.heap.size w w' := by
  obtain ⟨i0, hi, hz0, hz1, hz2⟩ := info_parts infoInt
  obtain ⟨j0, ji, jz0, jz1, jz2⟩ := info_parts infoHold
  obtain ⟨bL, oL, eL, hbL, hcL⟩ := hin.1.cells (by omega)
  obtain ⟨bS, oS, eS, hbS, hcS⟩ := hin.2.1.cells (by omega)
  obtain ⟨bB, oB, eB, hbB, hcB⟩ := hin.2.2.1.cells (by omega)
  obtain ⟨bH, oH, eH, hbH, hcH⟩ := hin.2.2.2.cells (by omega)
  have hD : Below w.heap.size w ((w.alloc (.cells (LegC d p) 25)).alloc (.cells #[.string ⟨#[]⟩, .string ⟨#[]⟩, .string ⟨#[]⟩, .int .i64 0, .int .i64 0, .int .i64 0, .slice none 0 0, .slice none 0 0, .slice none 0 0, .slice none 0 0] 25)) := ((Below.refl _ _).alloc (Nat.le_refl _) _).alloc (by simp) _
  have hX : LegBox ((w.alloc (.cells (LegC d p) 25)).alloc (.cells #[.string ⟨#[]⟩, .string ⟨#[]⟩, .string ⟨#[]⟩, .int .i64 0, .int .i64 0, .int .i64 0, .slice none 0 0, .slice none 0 0, .slice none 0 0, .slice none 0 0] 25)) w.heap.size d p := (LegBox.new w d p).kept ((Below.refl _ _).alloc (Nat.le_refl _) _)
  have hR : ((w.alloc (.cells (LegC d p) 25)).alloc (.cells #[.string ⟨#[]⟩, .string ⟨#[]⟩, .string ⟨#[]⟩, .int .i64 0, .int .i64 0, .int .i64 0, .slice none 0 0, .slice none 0 0, .slice none 0 0, .slice none 0 0] 25)).heap[w.heap.size + 1]? = some (.cells #[.string ⟨#[]⟩, .string ⟨#[]⟩, .string ⟨#[]⟩, .int .i64 0, .int .i64 0, .int .i64 0, .slice none 0 0, .slice none 0 0, .slice none 0 0, .slice none 0 0] 25 (0, 0)) := by
    have := heap_alloc_new (w.alloc (.cells (LegC d p) 25)) (.cells #[.string ⟨#[]⟩, .string ⟨#[]⟩, .string ⟨#[]⟩, .int .i64 0, .int .i64 0, .int .i64 0, .slice none 0 0, .slice none 0 0, .slice none 0 0, .slice none 0 0] 25)
    rwa [World.size_alloc] at this
  have hs0 : ((w.alloc (.cells (LegC d p) 25)).alloc (.cells #[.string ⟨#[]⟩, .string ⟨#[]⟩, .string ⟨#[]⟩, .int .i64 0, .int .i64 0, .int .i64 0, .slice none 0 0, .slice none 0 0, .slice none 0 0, .slice none 0 0] 25)).heap.size = w.heap.size + 1 + 1 := by simp
  have D0 := Lib.hid hD
  have X0 := Lib.hid hX
  have R0 := Lib.hid hR
  have HL := Lib.hid hL
  have HS := Lib.hid hS
  have HE := Lib.hid (And.intro eL (And.intro eS eB))
  have b6 := hX.c6
  rw [eL] at b6
  rw [LegV_eq]
  generalize hLC : LegC d p = LC at *
  have HS0 := Lib.hid hs0
  have kL : ∀ W, Below w.heap.size w W → ∀ i, i < d.nL → W.cell? ⟨bL, oL + i, none⟩ = some (.int .i64 (d.L i)) := fun W hb i hi => cell_kept hb hbL (hcL i hi)
  have kS : ∀ W, Below w.heap.size w W → ∀ i, i < d.nS → W.cell? ⟨bS, oS + i, none⟩ = some (.int .i64 (d.S i)) := fun W hb i hi => cell_kept hb hbS (hcS i hi)
  have kB : ∀ W, Below w.heap.size w W → ∀ i, i < d.nB → W.cell? ⟨bB, oB + i, none⟩ = some (.int .i64 (d.B i)) := fun W hb i hi => cell_kept hb hbB (hcB i hi)
  have KL := Lib.hid kL
  have KS := Lib.hid kS
  have KB := Lib.hid kB
  have kH : ∀ W, Below w.heap.size w W → ∀ i, i < d.nH → W.cell? ⟨bH, oH + i * 3, none⟩ = some (.int .i64 (d.t i)) ∧ W.cell? ⟨bH, oH + i * 3 + 1, none⟩ = some (.int .i64 (d.c i)) ∧ W.cell? ⟨bH, oH + i * 3 + 2, none⟩ = some (.int .i64 (d.s i)) := fun W hb i hi => ⟨cell_kept hb hbH (hcH i hi).1, cell_kept hb hbH (hcH i hi).2.1, cell_kept hb hbH (hcH i hi).2.2⟩
  have KH := Lib.hid kH
  have HEH := Lib.hid eH
  clear kH hcH eH
  clear hin hD hX hR hs0 hcL hcS hcB kL kS kB hL hS eL eS eB hLC
  go_enter Tryz.func57, Tryz.ntmps57
  go_wp2_with (first
    | (at_builtin; refine wpList_append_own _ rfl _ _ 22 rfl (w.heap.size + 1 + 1) 3 i0 (.int .i64 0) 1 8 Tryz.underlying22 hi hz0 hz1 hz2 rfl (by decide) (.slice (some ⟨(w.heap.size + 1 + 1), 0, none⟩) 0 0) 0 [] rfl (own0 ((w.alloc (.cells LC 25)).alloc (.cells #[.string ⟨#[]⟩, .string ⟨#[]⟩, .string ⟨#[]⟩, .int .i64 0, .int .i64 0, .int .i64 0, .slice none 0 0, .slice none 0 0, .slice none 0 0, .slice none 0 0] 25)) _ HS0.out _ _) ⟨bL, oL, none⟩ d.nL p.cL (newsI d.L d.nL) rfl (newsI_len _ _) ?_ (newsI_one _ _) ?_ ?_ ?_ ?_; exact newsI_cells (KL.out _ (D0.out.alloc D0.out.size _)); (unfold maxLen; have := HL.out; have := HS.out; omega); (have := HL.out; have := HS.out; omega); (have q := HS0.out; simp only [World.size_alloc] at q ⊢; omega); intro v1 w1 ho1 hg1 _; obtain ⟨a1, c1, rfl, hc1, n1, d1⟩ := app_nums HS0.out ho1 hg1; have X1' := X0.out.kept d1; have R1' := (d1.block _ (lt_heap R0.out)).trans R0.out; have D1' := bt D0.out d1; have q1 := X1'.c6; have f1 := X1'.fr 6; have X1 := Lib.hid (X1'.set6 a1 c1); have R1 := Lib.hid ((set_other (Value.slice a1 d.nL c1) (show w.heap.size + 1 ≠ w.heap.size by omega) (i := 6)).trans R1'); have gs1 := grown_set w1 ⟨w.heap.size, 6, none⟩ (Value.slice a1 d.nL c1); have sd1 := d1.size; have sw1 := D0.out.size; have lt1 := lt_heap X0.out; have N1_1 := Lib.hid (n1.far gs1 (fun q e => by cases e; left; show w.heap.size < _; omega)); have HN1 := Lib.hid (sc_size w1 ⟨w.heap.size, 6, none⟩ (Value.slice a1 d.nL c1)); have sz1 := HN1.out; have D1 := Lib.hid (D1'.setCell (p := ⟨w.heap.size, 6, none⟩) (Nat.le_refl _) (Value.slice a1 d.nL c1)); have b7 := (X1.out.kept ((Below.refl _ _).alloc (Nat.le_refl _) (.cells #[] 3))).c7; rw [HE.out.2.1] at b7; clear X1' R1' D1' n1 d1 gs1 ho1 hg1 sz1)
    | (at_builtin; refine wpList_append_own _ rfl _ _ 22 rfl w1.heap.size 3 i0 (.int .i64 0) 1 8 Tryz.underlying22 hi hz0 hz1 hz2 rfl (by decide) (.slice (some ⟨w1.heap.size, 0, none⟩) 0 0) 0 [] rfl (own0 (w1.setCell ⟨w.heap.size, 6, none⟩ (Value.slice a1 d.nL c1)) _ HN1.out _ _) ⟨bS, oS, none⟩ d.nS p.cS (newsI d.S d.nS) rfl (newsI_len _ _) ?_ (newsI_one _ _) ?_ ?_ ?_ ?_; exact newsI_cells (KS.out _ (D1.out.alloc D1.out.size _)); (unfold maxLen; have := HL.out; have := HS.out; omega); (have := HL.out; have := HS.out; omega); (have q := HN1.out; simp only [World.size_alloc] at q ⊢; omega); intro v2 w2 ho2 hg2 _; obtain ⟨a2, c2, rfl, hc2, n2, d2⟩ := app_nums HN1.out ho2 hg2; have X2' := X1.out.kept d2; have R2' := (d2.block _ (lt_heap R1.out)).trans R1.out; have D2' := bt D1.out d2; have q2 := X2'.c7; have f2 := X2'.fr 7; have X2 := Lib.hid (X2'.set7 a2 c2); have R2 := Lib.hid ((set_other (Value.slice a2 d.nS c2) (show w.heap.size + 1 ≠ w.heap.size by omega) (i := 7)).trans R2'); have gs2 := grown_set w2 ⟨w.heap.size, 7, none⟩ (Value.slice a2 d.nS c2); have sd2 := d2.size; have sw2 := D1.out.size; have lt2 := lt_heap X1.out; have N2_2 := Lib.hid (n2.far gs2 (fun q e => by cases e; left; show w.heap.size < _; omega)); have N1_2 := Lib.hid ((N1_1.out.kept d2).far gs2 (fun q e => by cases e; left; show w.heap.size < _; omega)); have HN2 := Lib.hid (sc_size w2 ⟨w.heap.size, 7, none⟩ (Value.slice a2 d.nS c2)); have sz2 := HN2.out; have D2 := Lib.hid (D2'.setCell (p := ⟨w.heap.size, 7, none⟩) (Nat.le_refl _) (Value.slice a2 d.nS c2)); have b8 := (X2.out.kept ((Below.refl _ _).alloc (Nat.le_refl _) (.cells #[] 3))).c8; rw [HE.out.2.2] at b8; clear X2' R2' D2' n2 d2 gs2 ho2 hg2 sz2)
    | (at_builtin; refine wpList_append_own _ rfl _ _ 22 rfl w2.heap.size 3 i0 (.int .i64 0) 1 8 Tryz.underlying22 hi hz0 hz1 hz2 rfl (by decide) (.slice (some ⟨w2.heap.size, 0, none⟩) 0 0) 0 [] rfl (own0 (w2.setCell ⟨w.heap.size, 7, none⟩ (Value.slice a2 d.nS c2)) _ HN2.out _ _) ⟨bB, oB, none⟩ d.nB p.cB (newsI d.B d.nB) rfl (newsI_len _ _) ?_ (newsI_one _ _) ?_ ?_ ?_ ?_; exact newsI_cells (KB.out _ (D2.out.alloc D2.out.size _)); (unfold maxLen; have := HL.out; have := HS.out; omega); (have := HL.out; have := HS.out; omega); (have q := HN2.out; simp only [World.size_alloc] at q ⊢; omega); intro v3 w3 ho3 hg3 _; obtain ⟨a3, c3, rfl, hc3, n3, d3⟩ := app_nums HN2.out ho3 hg3; have X3' := X2.out.kept d3; have R3' := (d3.block _ (lt_heap R2.out)).trans R2.out; have D3' := bt D2.out d3; have q3 := X3'.c8; have f3 := X3'.fr 8; have X3 := Lib.hid (X3'.set8 a3 c3); have R3 := Lib.hid ((set_other (Value.slice a3 d.nB c3) (show w.heap.size + 1 ≠ w.heap.size by omega) (i := 8)).trans R3'); have gs3 := grown_set w3 ⟨w.heap.size, 8, none⟩ (Value.slice a3 d.nB c3); have sd3 := d3.size; have sw3 := D2.out.size; have lt3 := lt_heap X2.out; have N3_3 := Lib.hid (n3.far gs3 (fun q e => by cases e; left; show w.heap.size < _; omega)); have N1_3 := Lib.hid ((N1_2.out.kept d3).far gs3 (fun q e => by cases e; left; show w.heap.size < _; omega)); have N2_3 := Lib.hid ((N2_2.out.kept d3).far gs3 (fun q e => by cases e; left; show w.heap.size < _; omega)); have HN3 := Lib.hid (sc_size w3 ⟨w.heap.size, 8, none⟩ (Value.slice a3 d.nB c3)); have sz3 := HN3.out; have D3 := Lib.hid (D3'.setCell (p := ⟨w.heap.size, 8, none⟩) (Nat.le_refl _) (Value.slice a3 d.nB c3)); have b9 := (X3.out.kept ((Below.refl _ _).alloc (Nat.le_refl _) (.cells #[] 58))).c9; rw [HEH.out] at b9; clear X3' R3' D3' n3 d3 gs3 ho3 hg3 sz3)
    | (at_builtin; refine wpList_append_own _ rfl _ _ 23 rfl w3.heap.size 58 j0 (.agg #[.int .i64 0, .int .i64 0, .int .i64 0]) 3 24 Tryz.underlying23 ji jz0 jz1 jz2 rfl (by decide) (.slice (some ⟨w3.heap.size, 0, none⟩) 0 0) 0 [] rfl (own0 (w3.setCell ⟨w.heap.size, 8, none⟩ (Value.slice a3 d.nB c3)) _ HN3.out _ _) ⟨bH, oH, none⟩ d.nH p.cH (flatN (ndsOf d.t d.c d.s d.nH)) rfl ?_ ?_ (flatN_one _) ?_ ?_ ?_ ?_; rw [flatN_len, ndsOf_len]; exact newsH_cells (KH.out _ (D3.out.alloc D3.out.size _)); (unfold maxLen; omega); omega; (have q := HN3.out; simp only [World.size_alloc] at q ⊢; omega); intro v4 w4 ho4 hg4 _; obtain ⟨a4, c4, rfl, hc4, n4', d4⟩ := app_holds (ndsOf_len _ _ _ _) HN3.out ho4 hg4; have n4 := n4'.same rfl (fun i hi => ndsOf_at hi); clear n4' ho4 hg4; have X4' := X3.out.kept d4; have R4' := (d4.block _ (lt_heap R3.out)).trans R3.out; have D4' := bt D3.out d4; have q4 := X4'.c9; have f4 := X4'.fr 9; have X4 := X4'.set9' a4 c4; have R4 := Lib.hid ((set_other (Value.slice a4 d.nH c4) (show w.heap.size + 1 ≠ w.heap.size by omega) (i := 9)).trans R4'); have gs4 := grown_set w4 ⟨w.heap.size, 9, none⟩ (Value.slice a4 d.nH c4); have sd4 := d4.size; have sw4 := D3.out.size; have lt4 := lt_heap X3.out; have N4_4 := Lib.hid (n4.far gs4 (fun q e => by cases e; left; show w.heap.size < _; omega)); have N1_4 := Lib.hid ((N1_3.out.kept d4).far gs4 (fun q e => by cases e; left; show w.heap.size < _; omega)); have N2_4 := Lib.hid ((N2_3.out.kept d4).far gs4 (fun q e => by cases e; left; show w.heap.size < _; omega)); have N3_4 := Lib.hid ((N3_3.out.kept d4).far gs4 (fun q e => by cases e; left; show w.heap.size < _; omega)); have HN4 := Lib.hid (sc_size w4 ⟨w.heap.size, 9, none⟩ (Value.slice a4 d.nH c4)); have D4 := Lib.hid (D4'.setCell (p := ⟨w.heap.size, 9, none⟩) (Nat.le_refl _) (Value.slice a4 d.nH c4)); have e0 := X4.c0; have e1 := X4.c1; have e2 := X4.c2; have e3 := X4.c3; have e4 := X4.c4; have e5 := X4.c5; have e6 := X4.c6; have e7 := X4.c7; have e8 := X4.c8; have e9 := X4.c9; clear X4' R4' D4' n4 d4 gs4 X4)
    | (refine wpList_store_row rfl 25 _ _ rfl (w.heap.size + 1) (LegC d { { { { p with aL := a1, cL := c1 } with aS := a2, cS := c2 } with aB := a3, cB := c3 } with aH := a4, cH := c4 }) rfl rfl 25 #[.string ⟨#[]⟩, .string ⟨#[]⟩, .string ⟨#[]⟩, .int .i64 0, .int .i64 0, .int .i64 0, .slice none 0 0, .slice none 0 0, .slice none 0 0, .slice none 0 0] R4.out legSize rfl (leg_one1 _ _) ?_)
    | fail)
  clear e0 e1 e2 e3 e4 e5 e6 e7 e8 e9 q4 f4
  generalize hW4 : (w4.setCell ⟨w.heap.size, 9, none⟩ (Value.slice a4 d.nH c4)) = W4 at *
  clear hW4
  have hfin : LegBox (W4.setRow (w.heap.size + 1) (LegC d { { { { p with aL := a1, cL := c1 } with aS := a2, cS := c2 } with aB := a3, cB := c3 } with aH := a4, cH := c4 })) (w.heap.size + 1) d { { { { p with aL := a1, cL := c1 } with aS := a2, cS := c2 } with aB := a3, cB := c3 } with aH := a4, cH := c4 } := setRow_heap W4 (w.heap.size + 1) _ _ _ _ R4.out
  have gr := grown_setRow W4 (w.heap.size + 1) (LegC d { { { { p with aL := a1, cL := c1 } with aS := a2, cS := c2 } with aB := a3, cB := c3 } with aH := a4, cH := c4 })
  have z1 := HN1.out
  have z2 := HN2.out
  have z3 := HN3.out
  have z4 := HN4.out
  have z0 := HS0.out
  have l1 := N1_4.out.far gr (fun q e => by cases e; left; omega)
  have l2 := N2_4.out.far gr (fun q e => by cases e; left; omega)
  have l3 := N3_4.out.far gr (fun q e => by cases e; left; omega)
  have l4 := N4_4.out.far gr (fun q e => by cases e; left; omega)
  have bfin : Below w.heap.size w (W4.setRow (w.heap.size + 1) (LegC d { { { { p with aL := a1, cL := c1 } with aS := a2, cS := c2 } with aB := a3, cB := c3 } with aH := a4, cH := c4 })) := D4.out.grown gr D4.out.size (fun q e => by cases e; omega)
  have sfin := gr.size
  generalize W4.setRow (w.heap.size + 1) (LegC d { { { { p with aL := a1, cL := c1 } with aS := a2, cS := c2 } with aB := a3, cB := c3 } with aH := a4, cH := c4 }) = W5 at *
  have y0 := hfin.c0
  have y1 := hfin.c1
  have y2 := hfin.c2
  have y3 := hfin.c3
  have y4 := hfin.c4
  have y5 := hfin.c5
  have y6 := hfin.c6
  have y7 := hfin.c7
  have y8 := hfin.c8
  have y9 := hfin.c9
  have new : LegNew w.heap.size W5 d { { { { p with aL := a1, cL := c1 } with aS := a2, cS := c2 } with aB := a3, cB := c3 } with aH := a4, cH := c4 } := by
    refine ⟨⟨hc1, hc2, hc3, hc4⟩, w1.heap.size, w2.heap.size, w3.heap.size, w4.heap.size, ?_, ?_, ?_, ?_, ?_, l1.mono ?_ ?_, l2.mono ?_ ?_, l3.mono ?_ ?_, l4.mono ?_ ?_⟩ <;> omega
  refine bodyPost_ret (v := LegV d { { { { p with aL := a1, cL := c1 } with aS := a2, cS := c2 } with aB := a3, cB := c3 } with aH := a4, cH := c4 }) ?_ rfl ⟨_, rfl, new, bfin⟩
  rw [LegV_eq]
  unfold LegC
  rw [results_cell1 rfl]
  go_simp

set_option maxRecDepth 100000 in
set_option maxHeartbeats 8000000 in
theorem copyMnone (d : LegD) (p : LegP) (w : World) (hin : LegIn w d p) (hL : d.nL = 3) (hS : d.nS = 3) (hB : 1 ≤ d.nB) (hB4 : d.nB ≤ 8) (hH : d.nH = 0) (ha : p.aH = none) :
    Calls Tryz.prog 57 #[LegV d p] w fun e w' => ∃ p', e = .returned (LegV d p') ∧ LegNew w.heap.size w' d p' ∧ Below w.heap.size w w' := by
  obtain ⟨i0, hi, hz0, hz1, hz2⟩ := info_parts infoInt
  obtain ⟨j0, ji, jz0, jz1, jz2⟩ := info_parts infoHold
  obtain ⟨bL, oL, eL, hbL, hcL⟩ := hin.1.cells (by omega)
  obtain ⟨bS, oS, eS, hbS, hcS⟩ := hin.2.1.cells (by omega)
  obtain ⟨bB, oB, eB, hbB, hcB⟩ := hin.2.2.1.cells (by omega)
  have hD : Below w.heap.size w ((w.alloc (.cells (LegC d p) 25)).alloc (.cells #[.string ⟨#[]⟩, .string ⟨#[]⟩, .string ⟨#[]⟩, .int .i64 0, .int .i64 0, .int .i64 0, .slice none 0 0, .slice none 0 0, .slice none 0 0, .slice none 0 0] 25)) := ((Below.refl _ _).alloc (Nat.le_refl _) _).alloc (by simp) _
  have hX : LegBox ((w.alloc (.cells (LegC d p) 25)).alloc (.cells #[.string ⟨#[]⟩, .string ⟨#[]⟩, .string ⟨#[]⟩, .int .i64 0, .int .i64 0, .int .i64 0, .slice none 0 0, .slice none 0 0, .slice none 0 0, .slice none 0 0] 25)) w.heap.size d p := (LegBox.new w d p).kept ((Below.refl _ _).alloc (Nat.le_refl _) _)
  have hR : ((w.alloc (.cells (LegC d p) 25)).alloc (.cells #[.string ⟨#[]⟩, .string ⟨#[]⟩, .string ⟨#[]⟩, .int .i64 0, .int .i64 0, .int .i64 0, .slice none 0 0, .slice none 0 0, .slice none 0 0, .slice none 0 0] 25)).heap[w.heap.size + 1]? = some (.cells #[.string ⟨#[]⟩, .string ⟨#[]⟩, .string ⟨#[]⟩, .int .i64 0, .int .i64 0, .int .i64 0, .slice none 0 0, .slice none 0 0, .slice none 0 0, .slice none 0 0] 25 (0, 0)) := by
    have := heap_alloc_new (w.alloc (.cells (LegC d p) 25)) (.cells #[.string ⟨#[]⟩, .string ⟨#[]⟩, .string ⟨#[]⟩, .int .i64 0, .int .i64 0, .int .i64 0, .slice none 0 0, .slice none 0 0, .slice none 0 0, .slice none 0 0] 25)
    rwa [World.size_alloc] at this
  have hs0 : ((w.alloc (.cells (LegC d p) 25)).alloc (.cells #[.string ⟨#[]⟩, .string ⟨#[]⟩, .string ⟨#[]⟩, .int .i64 0, .int .i64 0, .int .i64 0, .slice none 0 0, .slice none 0 0, .slice none 0 0, .slice none 0 0] 25)).heap.size = w.heap.size + 1 + 1 := by simp
  have D0 := Lib.hid hD
  have X0 := Lib.hid hX
  have R0 := Lib.hid hR
  have HL := Lib.hid hL
  have HS := Lib.hid hS
  have HE := Lib.hid (And.intro eL (And.intro eS eB))
  have b6 := hX.c6
  rw [eL] at b6
  rw [LegV_eq]
  generalize hLC : LegC d p = LC at *
  have HS0 := Lib.hid hs0
  have kL : ∀ W, Below w.heap.size w W → ∀ i, i < d.nL → W.cell? ⟨bL, oL + i, none⟩ = some (.int .i64 (d.L i)) := fun W hb i hi => cell_kept hb hbL (hcL i hi)
  have kS : ∀ W, Below w.heap.size w W → ∀ i, i < d.nS → W.cell? ⟨bS, oS + i, none⟩ = some (.int .i64 (d.S i)) := fun W hb i hi => cell_kept hb hbS (hcS i hi)
  have kB : ∀ W, Below w.heap.size w W → ∀ i, i < d.nB → W.cell? ⟨bB, oB + i, none⟩ = some (.int .i64 (d.B i)) := fun W hb i hi => cell_kept hb hbB (hcB i hi)
  have KL := Lib.hid kL
  have KS := Lib.hid kS
  have KB := Lib.hid kB
  have HH0 := Lib.hid hH
  have HA9 := Lib.hid ha
  clear hH ha
  clear hin hD hX hR hs0 hcL hcS hcB kL kS kB hL hS eL eS eB hLC
  go_enter Tryz.func57, Tryz.ntmps57
  go_wp2_with (first
    | (at_builtin; refine wpList_append_own _ rfl _ _ 22 rfl (w.heap.size + 1 + 1) 3 i0 (.int .i64 0) 1 8 Tryz.underlying22 hi hz0 hz1 hz2 rfl (by decide) (.slice (some ⟨(w.heap.size + 1 + 1), 0, none⟩) 0 0) 0 [] rfl (own0 ((w.alloc (.cells LC 25)).alloc (.cells #[.string ⟨#[]⟩, .string ⟨#[]⟩, .string ⟨#[]⟩, .int .i64 0, .int .i64 0, .int .i64 0, .slice none 0 0, .slice none 0 0, .slice none 0 0, .slice none 0 0] 25)) _ HS0.out _ _) ⟨bL, oL, none⟩ d.nL p.cL (newsI d.L d.nL) rfl (newsI_len _ _) ?_ (newsI_one _ _) ?_ ?_ ?_ ?_; exact newsI_cells (KL.out _ (D0.out.alloc D0.out.size _)); (unfold maxLen; have := HL.out; have := HS.out; omega); (have := HL.out; have := HS.out; omega); (have q := HS0.out; simp only [World.size_alloc] at q ⊢; omega); intro v1 w1 ho1 hg1 _; obtain ⟨a1, c1, rfl, hc1, n1, d1⟩ := app_nums HS0.out ho1 hg1; have X1' := X0.out.kept d1; have R1' := (d1.block _ (lt_heap R0.out)).trans R0.out; have D1' := bt D0.out d1; have q1 := X1'.c6; have f1 := X1'.fr 6; have X1 := Lib.hid (X1'.set6 a1 c1); have R1 := Lib.hid ((set_other (Value.slice a1 d.nL c1) (show w.heap.size + 1 ≠ w.heap.size by omega) (i := 6)).trans R1'); have gs1 := grown_set w1 ⟨w.heap.size, 6, none⟩ (Value.slice a1 d.nL c1); have sd1 := d1.size; have sw1 := D0.out.size; have lt1 := lt_heap X0.out; have N1_1 := Lib.hid (n1.far gs1 (fun q e => by cases e; left; show w.heap.size < _; omega)); have HN1 := Lib.hid (sc_size w1 ⟨w.heap.size, 6, none⟩ (Value.slice a1 d.nL c1)); have sz1 := HN1.out; have D1 := Lib.hid (D1'.setCell (p := ⟨w.heap.size, 6, none⟩) (Nat.le_refl _) (Value.slice a1 d.nL c1)); have b7 := (X1.out.kept ((Below.refl _ _).alloc (Nat.le_refl _) (.cells #[] 3))).c7; rw [HE.out.2.1] at b7; clear X1' R1' D1' n1 d1 gs1 ho1 hg1 sz1)
    | (at_builtin; refine wpList_append_own _ rfl _ _ 22 rfl w1.heap.size 3 i0 (.int .i64 0) 1 8 Tryz.underlying22 hi hz0 hz1 hz2 rfl (by decide) (.slice (some ⟨w1.heap.size, 0, none⟩) 0 0) 0 [] rfl (own0 (w1.setCell ⟨w.heap.size, 6, none⟩ (Value.slice a1 d.nL c1)) _ HN1.out _ _) ⟨bS, oS, none⟩ d.nS p.cS (newsI d.S d.nS) rfl (newsI_len _ _) ?_ (newsI_one _ _) ?_ ?_ ?_ ?_; exact newsI_cells (KS.out _ (D1.out.alloc D1.out.size _)); (unfold maxLen; have := HL.out; have := HS.out; omega); (have := HL.out; have := HS.out; omega); (have q := HN1.out; simp only [World.size_alloc] at q ⊢; omega); intro v2 w2 ho2 hg2 _; obtain ⟨a2, c2, rfl, hc2, n2, d2⟩ := app_nums HN1.out ho2 hg2; have X2' := X1.out.kept d2; have R2' := (d2.block _ (lt_heap R1.out)).trans R1.out; have D2' := bt D1.out d2; have q2 := X2'.c7; have f2 := X2'.fr 7; have X2 := Lib.hid (X2'.set7 a2 c2); have R2 := Lib.hid ((set_other (Value.slice a2 d.nS c2) (show w.heap.size + 1 ≠ w.heap.size by omega) (i := 7)).trans R2'); have gs2 := grown_set w2 ⟨w.heap.size, 7, none⟩ (Value.slice a2 d.nS c2); have sd2 := d2.size; have sw2 := D1.out.size; have lt2 := lt_heap X1.out; have N2_2 := Lib.hid (n2.far gs2 (fun q e => by cases e; left; show w.heap.size < _; omega)); have N1_2 := Lib.hid ((N1_1.out.kept d2).far gs2 (fun q e => by cases e; left; show w.heap.size < _; omega)); have HN2 := Lib.hid (sc_size w2 ⟨w.heap.size, 7, none⟩ (Value.slice a2 d.nS c2)); have sz2 := HN2.out; have D2 := Lib.hid (D2'.setCell (p := ⟨w.heap.size, 7, none⟩) (Nat.le_refl _) (Value.slice a2 d.nS c2)); have b8 := (X2.out.kept ((Below.refl _ _).alloc (Nat.le_refl _) (.cells #[] 3))).c8; rw [HE.out.2.2] at b8; clear X2' R2' D2' n2 d2 gs2 ho2 hg2 sz2)
    | (at_builtin; refine wpList_append_own _ rfl _ _ 22 rfl w2.heap.size 3 i0 (.int .i64 0) 1 8 Tryz.underlying22 hi hz0 hz1 hz2 rfl (by decide) (.slice (some ⟨w2.heap.size, 0, none⟩) 0 0) 0 [] rfl (own0 (w2.setCell ⟨w.heap.size, 7, none⟩ (Value.slice a2 d.nS c2)) _ HN2.out _ _) ⟨bB, oB, none⟩ d.nB p.cB (newsI d.B d.nB) rfl (newsI_len _ _) ?_ (newsI_one _ _) ?_ ?_ ?_ ?_; exact newsI_cells (KB.out _ (D2.out.alloc D2.out.size _)); (unfold maxLen; have := HL.out; have := HS.out; omega); (have := HL.out; have := HS.out; omega); (have q := HN2.out; simp only [World.size_alloc] at q ⊢; omega); intro v3 w3 ho3 hg3 _; obtain ⟨a3, c3, rfl, hc3, n3, d3⟩ := app_nums HN2.out ho3 hg3; have X3' := X2.out.kept d3; have R3' := (d3.block _ (lt_heap R2.out)).trans R2.out; have D3' := bt D2.out d3; have q3 := X3'.c8; have f3 := X3'.fr 8; have X3 := Lib.hid (X3'.set8 a3 c3); have R3 := Lib.hid ((set_other (Value.slice a3 d.nB c3) (show w.heap.size + 1 ≠ w.heap.size by omega) (i := 8)).trans R3'); have gs3 := grown_set w3 ⟨w.heap.size, 8, none⟩ (Value.slice a3 d.nB c3); have sd3 := d3.size; have sw3 := D2.out.size; have lt3 := lt_heap X2.out; have N3_3 := Lib.hid (n3.far gs3 (fun q e => by cases e; left; show w.heap.size < _; omega)); have N1_3 := Lib.hid ((N1_2.out.kept d3).far gs3 (fun q e => by cases e; left; show w.heap.size < _; omega)); have N2_3 := Lib.hid ((N2_2.out.kept d3).far gs3 (fun q e => by cases e; left; show w.heap.size < _; omega)); have HN3 := Lib.hid (sc_size w3 ⟨w.heap.size, 8, none⟩ (Value.slice a3 d.nB c3)); have sz3 := HN3.out; have D3 := Lib.hid (D3'.setCell (p := ⟨w.heap.size, 8, none⟩) (Nat.le_refl _) (Value.slice a3 d.nB c3)); have d4 : Below (w3.setCell ⟨w.heap.size, 8, none⟩ (Value.slice a3 d.nB c3)).heap.size (w3.setCell ⟨w.heap.size, 8, none⟩ (Value.slice a3 d.nB c3)) ((w3.setCell ⟨w.heap.size, 8, none⟩ (Value.slice a3 d.nB c3)).alloc (.cells #[] 58)) := (Below.refl _ _).alloc (Nat.le_refl _) _; have X4' := X3.out.kept d4; have R4' := (d4.block _ (lt_heap R3.out)).trans R3.out; have D4' := bt D3.out d4; have q4 := X4'.c9; have f4 := X4'.fr 9; have X4 := X4'.set90 HH0.out (some ⟨w3.heap.size, 0, none⟩) 0; have R4 := Lib.hid ((set_other (Value.slice (some ⟨w3.heap.size, 0, none⟩) 0 0) (show w.heap.size + 1 ≠ w.heap.size by omega) (i := 9)).trans R4'); have gs4 := grown_set ((w3.setCell ⟨w.heap.size, 8, none⟩ (Value.slice a3 d.nB c3)).alloc (.cells #[] 58)) ⟨w.heap.size, 9, none⟩ (Value.slice (some ⟨w3.heap.size, 0, none⟩) 0 0); have sd4 := d4.size; have sw4 := D3.out.size; have lt4 := lt_heap X3.out; have N4_4 : Hid (HoldsR (w3.setCell ⟨w.heap.size, 8, none⟩ (Value.slice a3 d.nB c3)).heap.size ((w3.setCell ⟨w.heap.size, 8, none⟩ (Value.slice a3 d.nB c3)).alloc (.cells #[] 58)).heap.size (((w3.setCell ⟨w.heap.size, 8, none⟩ (Value.slice a3 d.nB c3)).alloc (.cells #[] 58)).setCell ⟨w.heap.size, 9, none⟩ (Value.slice (some ⟨w3.heap.size, 0, none⟩) 0 0)) (some ⟨w3.heap.size, 0, none⟩) d.nH d.t d.c d.s) := Lib.hid (.inl HH0.out); have N1_4 := Lib.hid ((N1_3.out.kept d4).far gs4 (fun q e => by cases e; left; show w.heap.size < _; omega)); have N2_4 := Lib.hid ((N2_3.out.kept d4).far gs4 (fun q e => by cases e; left; show w.heap.size < _; omega)); have N3_4 := Lib.hid ((N3_3.out.kept d4).far gs4 (fun q e => by cases e; left; show w.heap.size < _; omega)); have HN4 := Lib.hid (sc_size ((w3.setCell ⟨w.heap.size, 8, none⟩ (Value.slice a3 d.nB c3)).alloc (.cells #[] 58)) ⟨w.heap.size, 9, none⟩ (Value.slice (some ⟨w3.heap.size, 0, none⟩) 0 0)); have hc4 : d.nH ≤ 0 := Nat.le_of_eq HH0.out; have D4 := Lib.hid (D4'.setCell (p := ⟨w.heap.size, 9, none⟩) (Nat.le_refl _) (Value.slice (some ⟨w3.heap.size, 0, none⟩) 0 0)); have HSD4 := Lib.hid sd4; have HC4 := Lib.hid hc4; have e0 := X4.c0; have e1 := X4.c1; have e2 := X4.c2; have e3 := X4.c3; have e4 := X4.c4; have e5 := X4.c5; have e6 := X4.c6; have e7 := X4.c7; have e8 := X4.c8; have e9 : _ := X4.c9; rw [HH0.out] at e9 q4; rw [HA9.out] at q4; clear X4' R4' D4' d4 gs4 X4 sd4 hc4; have b9 := (X3.out.kept ((Below.refl _ _).alloc (Nat.le_refl _) (.cells #[] 58))).c9; rw [HA9.out, HH0.out] at b9; clear X3' R3' D3' n3 d3 gs3 ho3 hg3 sz3)
    | (refine wpList_store_row rfl 25 _ _ rfl (w.heap.size + 1) (LegC0 d { { { { p with aL := a1, cL := c1 } with aS := a2, cS := c2 } with aB := a3, cB := c3 } with aH := some ⟨w3.heap.size, 0, none⟩, cH := 0 }) rfl rfl 25 #[.string ⟨#[]⟩, .string ⟨#[]⟩, .string ⟨#[]⟩, .int .i64 0, .int .i64 0, .int .i64 0, .slice none 0 0, .slice none 0 0, .slice none 0 0, .slice none 0 0] R4.out legSize rfl (leg_one0 _ _) ?_)
    | fail)
  clear e0 e1 e2 e3 e4 e5 e6 e7 e8 e9 q4 f4
  rw [LegC0_eq HH0.out]
  generalize hW4 : (((w3.setCell ⟨w.heap.size, 8, none⟩ (Value.slice a3 d.nB c3)).alloc (.cells #[] 58)).setCell ⟨w.heap.size, 9, none⟩ (Value.slice (some ⟨w3.heap.size, 0, none⟩) 0 0)) = W4 at *
  clear hW4
  have hfin : LegBox (W4.setRow (w.heap.size + 1) (LegC d { { { { p with aL := a1, cL := c1 } with aS := a2, cS := c2 } with aB := a3, cB := c3 } with aH := some ⟨w3.heap.size, 0, none⟩, cH := 0 })) (w.heap.size + 1) d { { { { p with aL := a1, cL := c1 } with aS := a2, cS := c2 } with aB := a3, cB := c3 } with aH := some ⟨w3.heap.size, 0, none⟩, cH := 0 } := setRow_heap W4 (w.heap.size + 1) _ _ _ _ R4.out
  have gr := grown_setRow W4 (w.heap.size + 1) (LegC d { { { { p with aL := a1, cL := c1 } with aS := a2, cS := c2 } with aB := a3, cB := c3 } with aH := some ⟨w3.heap.size, 0, none⟩, cH := 0 })
  have z1 := HN1.out
  have z2 := HN2.out
  have z3 := HN3.out
  have z4 := HN4.out
  have z0 := HS0.out
  have z5 := HSD4.out
  have l1 := N1_4.out.far gr (fun q e => by cases e; left; omega)
  have l2 := N2_4.out.far gr (fun q e => by cases e; left; omega)
  have l3 := N3_4.out.far gr (fun q e => by cases e; left; omega)
  have l4 := N4_4.out.far gr (fun q e => by cases e; left; omega)
  have bfin : Below w.heap.size w (W4.setRow (w.heap.size + 1) (LegC d { { { { p with aL := a1, cL := c1 } with aS := a2, cS := c2 } with aB := a3, cB := c3 } with aH := some ⟨w3.heap.size, 0, none⟩, cH := 0 })) := D4.out.grown gr D4.out.size (fun q e => by cases e; omega)
  have sfin := gr.size
  generalize W4.setRow (w.heap.size + 1) (LegC d { { { { p with aL := a1, cL := c1 } with aS := a2, cS := c2 } with aB := a3, cB := c3 } with aH := some ⟨w3.heap.size, 0, none⟩, cH := 0 }) = W5 at *
  have y0 := hfin.c0
  have y1 := hfin.c1
  have y2 := hfin.c2
  have y3 := hfin.c3
  have y4 := hfin.c4
  have y5 := hfin.c5
  have y6 := hfin.c6
  have y7 := hfin.c7
  have y8 := hfin.c8
  have y9 := hfin.c9
  have new : LegNew w.heap.size W5 d { { { { p with aL := a1, cL := c1 } with aS := a2, cS := c2 } with aB := a3, cB := c3 } with aH := some ⟨w3.heap.size, 0, none⟩, cH := 0 } := by
    refine ⟨⟨hc1, hc2, hc3, HC4.out⟩, w1.heap.size, w2.heap.size, w3.heap.size, ((w3.setCell ⟨w.heap.size, 8, none⟩ (Value.slice a3 d.nB c3)).alloc (.cells #[] 58)).heap.size, ?_, ?_, ?_, ?_, ?_, l1.mono ?_ ?_, l2.mono ?_ ?_, l3.mono ?_ ?_, l4.mono ?_ ?_⟩ <;> omega
  refine bodyPost_ret (v := LegV d { { { { p with aL := a1, cL := c1 } with aS := a2, cS := c2 } with aB := a3, cB := c3 } with aH := some ⟨w3.heap.size, 0, none⟩, cH := 0 }) ?_ rfl ⟨_, rfl, new, bfin⟩
  rw [LegV_eq]
  unfold LegC
  rw [results_cell1 rfl]
  go_simp

set_option maxRecDepth 100000 in
set_option maxHeartbeats 8000000 in
theorem copyMsome (d : LegD) (p : LegP) (w : World) (hin : LegIn w d p) (hL : d.nL = 3) (hS : d.nS = 3) (hB : 1 ≤ d.nB) (hB4 : d.nB ≤ 8) (hH : d.nH = 0) (x9 : Addr) (ha : p.aH = some x9) :
    Calls Tryz.prog 57 #[LegV d p] w fun e w' => ∃ p', e = .returned (LegV d p') ∧ LegNew w.heap.size w' d p' ∧ Below w.heap.size w w' := by
  obtain ⟨i0, hi, hz0, hz1, hz2⟩ := info_parts infoInt
  obtain ⟨j0, ji, jz0, jz1, jz2⟩ := info_parts infoHold
  obtain ⟨bL, oL, eL, hbL, hcL⟩ := hin.1.cells (by omega)
  obtain ⟨bS, oS, eS, hbS, hcS⟩ := hin.2.1.cells (by omega)
  obtain ⟨bB, oB, eB, hbB, hcB⟩ := hin.2.2.1.cells (by omega)
  have hD : Below w.heap.size w ((w.alloc (.cells (LegC d p) 25)).alloc (.cells #[.string ⟨#[]⟩, .string ⟨#[]⟩, .string ⟨#[]⟩, .int .i64 0, .int .i64 0, .int .i64 0, .slice none 0 0, .slice none 0 0, .slice none 0 0, .slice none 0 0] 25)) := ((Below.refl _ _).alloc (Nat.le_refl _) _).alloc (by simp) _
  have hX : LegBox ((w.alloc (.cells (LegC d p) 25)).alloc (.cells #[.string ⟨#[]⟩, .string ⟨#[]⟩, .string ⟨#[]⟩, .int .i64 0, .int .i64 0, .int .i64 0, .slice none 0 0, .slice none 0 0, .slice none 0 0, .slice none 0 0] 25)) w.heap.size d p := (LegBox.new w d p).kept ((Below.refl _ _).alloc (Nat.le_refl _) _)
  have hR : ((w.alloc (.cells (LegC d p) 25)).alloc (.cells #[.string ⟨#[]⟩, .string ⟨#[]⟩, .string ⟨#[]⟩, .int .i64 0, .int .i64 0, .int .i64 0, .slice none 0 0, .slice none 0 0, .slice none 0 0, .slice none 0 0] 25)).heap[w.heap.size + 1]? = some (.cells #[.string ⟨#[]⟩, .string ⟨#[]⟩, .string ⟨#[]⟩, .int .i64 0, .int .i64 0, .int .i64 0, .slice none 0 0, .slice none 0 0, .slice none 0 0, .slice none 0 0] 25 (0, 0)) := by
    have := heap_alloc_new (w.alloc (.cells (LegC d p) 25)) (.cells #[.string ⟨#[]⟩, .string ⟨#[]⟩, .string ⟨#[]⟩, .int .i64 0, .int .i64 0, .int .i64 0, .slice none 0 0, .slice none 0 0, .slice none 0 0, .slice none 0 0] 25)
    rwa [World.size_alloc] at this
  have hs0 : ((w.alloc (.cells (LegC d p) 25)).alloc (.cells #[.string ⟨#[]⟩, .string ⟨#[]⟩, .string ⟨#[]⟩, .int .i64 0, .int .i64 0, .int .i64 0, .slice none 0 0, .slice none 0 0, .slice none 0 0, .slice none 0 0] 25)).heap.size = w.heap.size + 1 + 1 := by simp
  have D0 := Lib.hid hD
  have X0 := Lib.hid hX
  have R0 := Lib.hid hR
  have HL := Lib.hid hL
  have HS := Lib.hid hS
  have HE := Lib.hid (And.intro eL (And.intro eS eB))
  have b6 := hX.c6
  rw [eL] at b6
  rw [LegV_eq]
  generalize hLC : LegC d p = LC at *
  have HS0 := Lib.hid hs0
  have kL : ∀ W, Below w.heap.size w W → ∀ i, i < d.nL → W.cell? ⟨bL, oL + i, none⟩ = some (.int .i64 (d.L i)) := fun W hb i hi => cell_kept hb hbL (hcL i hi)
  have kS : ∀ W, Below w.heap.size w W → ∀ i, i < d.nS → W.cell? ⟨bS, oS + i, none⟩ = some (.int .i64 (d.S i)) := fun W hb i hi => cell_kept hb hbS (hcS i hi)
  have kB : ∀ W, Below w.heap.size w W → ∀ i, i < d.nB → W.cell? ⟨bB, oB + i, none⟩ = some (.int .i64 (d.B i)) := fun W hb i hi => cell_kept hb hbB (hcB i hi)
  have KL := Lib.hid kL
  have KS := Lib.hid kS
  have KB := Lib.hid kB
  have HH0 := Lib.hid hH
  have HA9 := Lib.hid ha
  clear hH ha
  clear hin hD hX hR hs0 hcL hcS hcB kL kS kB hL hS eL eS eB hLC
  go_enter Tryz.func57, Tryz.ntmps57
  go_wp2_with (first
    | (at_builtin; refine wpList_append_own _ rfl _ _ 22 rfl (w.heap.size + 1 + 1) 3 i0 (.int .i64 0) 1 8 Tryz.underlying22 hi hz0 hz1 hz2 rfl (by decide) (.slice (some ⟨(w.heap.size + 1 + 1), 0, none⟩) 0 0) 0 [] rfl (own0 ((w.alloc (.cells LC 25)).alloc (.cells #[.string ⟨#[]⟩, .string ⟨#[]⟩, .string ⟨#[]⟩, .int .i64 0, .int .i64 0, .int .i64 0, .slice none 0 0, .slice none 0 0, .slice none 0 0, .slice none 0 0] 25)) _ HS0.out _ _) ⟨bL, oL, none⟩ d.nL p.cL (newsI d.L d.nL) rfl (newsI_len _ _) ?_ (newsI_one _ _) ?_ ?_ ?_ ?_; exact newsI_cells (KL.out _ (D0.out.alloc D0.out.size _)); (unfold maxLen; have := HL.out; have := HS.out; omega); (have := HL.out; have := HS.out; omega); (have q := HS0.out; simp only [World.size_alloc] at q ⊢; omega); intro v1 w1 ho1 hg1 _; obtain ⟨a1, c1, rfl, hc1, n1, d1⟩ := app_nums HS0.out ho1 hg1; have X1' := X0.out.kept d1; have R1' := (d1.block _ (lt_heap R0.out)).trans R0.out; have D1' := bt D0.out d1; have q1 := X1'.c6; have f1 := X1'.fr 6; have X1 := Lib.hid (X1'.set6 a1 c1); have R1 := Lib.hid ((set_other (Value.slice a1 d.nL c1) (show w.heap.size + 1 ≠ w.heap.size by omega) (i := 6)).trans R1'); have gs1 := grown_set w1 ⟨w.heap.size, 6, none⟩ (Value.slice a1 d.nL c1); have sd1 := d1.size; have sw1 := D0.out.size; have lt1 := lt_heap X0.out; have N1_1 := Lib.hid (n1.far gs1 (fun q e => by cases e; left; show w.heap.size < _; omega)); have HN1 := Lib.hid (sc_size w1 ⟨w.heap.size, 6, none⟩ (Value.slice a1 d.nL c1)); have sz1 := HN1.out; have D1 := Lib.hid (D1'.setCell (p := ⟨w.heap.size, 6, none⟩) (Nat.le_refl _) (Value.slice a1 d.nL c1)); have b7 := (X1.out.kept ((Below.refl _ _).alloc (Nat.le_refl _) (.cells #[] 3))).c7; rw [HE.out.2.1] at b7; clear X1' R1' D1' n1 d1 gs1 ho1 hg1 sz1)
    | (at_builtin; refine wpList_append_own _ rfl _ _ 22 rfl w1.heap.size 3 i0 (.int .i64 0) 1 8 Tryz.underlying22 hi hz0 hz1 hz2 rfl (by decide) (.slice (some ⟨w1.heap.size, 0, none⟩) 0 0) 0 [] rfl (own0 (w1.setCell ⟨w.heap.size, 6, none⟩ (Value.slice a1 d.nL c1)) _ HN1.out _ _) ⟨bS, oS, none⟩ d.nS p.cS (newsI d.S d.nS) rfl (newsI_len _ _) ?_ (newsI_one _ _) ?_ ?_ ?_ ?_; exact newsI_cells (KS.out _ (D1.out.alloc D1.out.size _)); (unfold maxLen; have := HL.out; have := HS.out; omega); (have := HL.out; have := HS.out; omega); (have q := HN1.out; simp only [World.size_alloc] at q ⊢; omega); intro v2 w2 ho2 hg2 _; obtain ⟨a2, c2, rfl, hc2, n2, d2⟩ := app_nums HN1.out ho2 hg2; have X2' := X1.out.kept d2; have R2' := (d2.block _ (lt_heap R1.out)).trans R1.out; have D2' := bt D1.out d2; have q2 := X2'.c7; have f2 := X2'.fr 7; have X2 := Lib.hid (X2'.set7 a2 c2); have R2 := Lib.hid ((set_other (Value.slice a2 d.nS c2) (show w.heap.size + 1 ≠ w.heap.size by omega) (i := 7)).trans R2'); have gs2 := grown_set w2 ⟨w.heap.size, 7, none⟩ (Value.slice a2 d.nS c2); have sd2 := d2.size; have sw2 := D1.out.size; have lt2 := lt_heap X1.out; have N2_2 := Lib.hid (n2.far gs2 (fun q e => by cases e; left; show w.heap.size < _; omega)); have N1_2 := Lib.hid ((N1_1.out.kept d2).far gs2 (fun q e => by cases e; left; show w.heap.size < _; omega)); have HN2 := Lib.hid (sc_size w2 ⟨w.heap.size, 7, none⟩ (Value.slice a2 d.nS c2)); have sz2 := HN2.out; have D2 := Lib.hid (D2'.setCell (p := ⟨w.heap.size, 7, none⟩) (Nat.le_refl _) (Value.slice a2 d.nS c2)); have b8 := (X2.out.kept ((Below.refl _ _).alloc (Nat.le_refl _) (.cells #[] 3))).c8; rw [HE.out.2.2] at b8; clear X2' R2' D2' n2 d2 gs2 ho2 hg2 sz2)
    | (at_builtin; refine wpList_append_own _ rfl _ _ 22 rfl w2.heap.size 3 i0 (.int .i64 0) 1 8 Tryz.underlying22 hi hz0 hz1 hz2 rfl (by decide) (.slice (some ⟨w2.heap.size, 0, none⟩) 0 0) 0 [] rfl (own0 (w2.setCell ⟨w.heap.size, 7, none⟩ (Value.slice a2 d.nS c2)) _ HN2.out _ _) ⟨bB, oB, none⟩ d.nB p.cB (newsI d.B d.nB) rfl (newsI_len _ _) ?_ (newsI_one _ _) ?_ ?_ ?_ ?_; exact newsI_cells (KB.out _ (D2.out.alloc D2.out.size _)); (unfold maxLen; have := HL.out; have := HS.out; omega); (have := HL.out; have := HS.out; omega); (have q := HN2.out; simp only [World.size_alloc] at q ⊢; omega); intro v3 w3 ho3 hg3 _; obtain ⟨a3, c3, rfl, hc3, n3, d3⟩ := app_nums HN2.out ho3 hg3; have X3' := X2.out.kept d3; have R3' := (d3.block _ (lt_heap R2.out)).trans R2.out; have D3' := bt D2.out d3; have q3 := X3'.c8; have f3 := X3'.fr 8; have X3 := Lib.hid (X3'.set8 a3 c3); have R3 := Lib.hid ((set_other (Value.slice a3 d.nB c3) (show w.heap.size + 1 ≠ w.heap.size by omega) (i := 8)).trans R3'); have gs3 := grown_set w3 ⟨w.heap.size, 8, none⟩ (Value.slice a3 d.nB c3); have sd3 := d3.size; have sw3 := D2.out.size; have lt3 := lt_heap X2.out; have N3_3 := Lib.hid (n3.far gs3 (fun q e => by cases e; left; show w.heap.size < _; omega)); have N1_3 := Lib.hid ((N1_2.out.kept d3).far gs3 (fun q e => by cases e; left; show w.heap.size < _; omega)); have N2_3 := Lib.hid ((N2_2.out.kept d3).far gs3 (fun q e => by cases e; left; show w.heap.size < _; omega)); have HN3 := Lib.hid (sc_size w3 ⟨w.heap.size, 8, none⟩ (Value.slice a3 d.nB c3)); have sz3 := HN3.out; have D3 := Lib.hid (D3'.setCell (p := ⟨w.heap.size, 8, none⟩) (Nat.le_refl _) (Value.slice a3 d.nB c3)); have d4 : Below (w3.setCell ⟨w.heap.size, 8, none⟩ (Value.slice a3 d.nB c3)).heap.size (w3.setCell ⟨w.heap.size, 8, none⟩ (Value.slice a3 d.nB c3)) ((w3.setCell ⟨w.heap.size, 8, none⟩ (Value.slice a3 d.nB c3)).alloc (.cells #[] 58)) := (Below.refl _ _).alloc (Nat.le_refl _) _; have X4' := X3.out.kept d4; have R4' := (d4.block _ (lt_heap R3.out)).trans R3.out; have D4' := bt D3.out d4; have q4 := X4'.c9; have f4 := X4'.fr 9; have X4 := X4'.set90 HH0.out (some ⟨w3.heap.size, 0, none⟩) 0; have R4 := Lib.hid ((set_other (Value.slice (some ⟨w3.heap.size, 0, none⟩) 0 0) (show w.heap.size + 1 ≠ w.heap.size by omega) (i := 9)).trans R4'); have gs4 := grown_set ((w3.setCell ⟨w.heap.size, 8, none⟩ (Value.slice a3 d.nB c3)).alloc (.cells #[] 58)) ⟨w.heap.size, 9, none⟩ (Value.slice (some ⟨w3.heap.size, 0, none⟩) 0 0); have sd4 := d4.size; have sw4 := D3.out.size; have lt4 := lt_heap X3.out; have N4_4 : Hid (HoldsR (w3.setCell ⟨w.heap.size, 8, none⟩ (Value.slice a3 d.nB c3)).heap.size ((w3.setCell ⟨w.heap.size, 8, none⟩ (Value.slice a3 d.nB c3)).alloc (.cells #[] 58)).heap.size (((w3.setCell ⟨w.heap.size, 8, none⟩ (Value.slice a3 d.nB c3)).alloc (.cells #[] 58)).setCell ⟨w.heap.size, 9, none⟩ (Value.slice (some ⟨w3.heap.size, 0, none⟩) 0 0)) (some ⟨w3.heap.size, 0, none⟩) d.nH d.t d.c d.s) := Lib.hid (.inl HH0.out); have N1_4 := Lib.hid ((N1_3.out.kept d4).far gs4 (fun q e => by cases e; left; show w.heap.size < _; omega)); have N2_4 := Lib.hid ((N2_3.out.kept d4).far gs4 (fun q e => by cases e; left; show w.heap.size < _; omega)); have N3_4 := Lib.hid ((N3_3.out.kept d4).far gs4 (fun q e => by cases e; left; show w.heap.size < _; omega)); have HN4 := Lib.hid (sc_size ((w3.setCell ⟨w.heap.size, 8, none⟩ (Value.slice a3 d.nB c3)).alloc (.cells #[] 58)) ⟨w.heap.size, 9, none⟩ (Value.slice (some ⟨w3.heap.size, 0, none⟩) 0 0)); have hc4 : d.nH ≤ 0 := Nat.le_of_eq HH0.out; have D4 := Lib.hid (D4'.setCell (p := ⟨w.heap.size, 9, none⟩) (Nat.le_refl _) (Value.slice (some ⟨w3.heap.size, 0, none⟩) 0 0)); have HSD4 := Lib.hid sd4; have HC4 := Lib.hid hc4; have e0 := X4.c0; have e1 := X4.c1; have e2 := X4.c2; have e3 := X4.c3; have e4 := X4.c4; have e5 := X4.c5; have e6 := X4.c6; have e7 := X4.c7; have e8 := X4.c8; have e9 : _ := X4.c9; rw [HH0.out] at e9 q4; rw [HA9.out] at q4; clear X4' R4' D4' d4 gs4 X4 sd4 hc4; have b9 := (X3.out.kept ((Below.refl _ _).alloc (Nat.le_refl _) (.cells #[] 58))).c9; rw [HA9.out, HH0.out] at b9; clear X3' R3' D3' n3 d3 gs3 ho3 hg3 sz3)
    | (refine wpList_store_row rfl 25 _ _ rfl (w.heap.size + 1) (LegC0 d { { { { p with aL := a1, cL := c1 } with aS := a2, cS := c2 } with aB := a3, cB := c3 } with aH := some ⟨w3.heap.size, 0, none⟩, cH := 0 }) rfl rfl 25 #[.string ⟨#[]⟩, .string ⟨#[]⟩, .string ⟨#[]⟩, .int .i64 0, .int .i64 0, .int .i64 0, .slice none 0 0, .slice none 0 0, .slice none 0 0, .slice none 0 0] R4.out legSize rfl (leg_one0 _ _) ?_)
    | fail)
  clear e0 e1 e2 e3 e4 e5 e6 e7 e8 e9 q4 f4
  rw [LegC0_eq HH0.out]
  generalize hW4 : (((w3.setCell ⟨w.heap.size, 8, none⟩ (Value.slice a3 d.nB c3)).alloc (.cells #[] 58)).setCell ⟨w.heap.size, 9, none⟩ (Value.slice (some ⟨w3.heap.size, 0, none⟩) 0 0)) = W4 at *
  clear hW4
  have hfin : LegBox (W4.setRow (w.heap.size + 1) (LegC d { { { { p with aL := a1, cL := c1 } with aS := a2, cS := c2 } with aB := a3, cB := c3 } with aH := some ⟨w3.heap.size, 0, none⟩, cH := 0 })) (w.heap.size + 1) d { { { { p with aL := a1, cL := c1 } with aS := a2, cS := c2 } with aB := a3, cB := c3 } with aH := some ⟨w3.heap.size, 0, none⟩, cH := 0 } := setRow_heap W4 (w.heap.size + 1) _ _ _ _ R4.out
  have gr := grown_setRow W4 (w.heap.size + 1) (LegC d { { { { p with aL := a1, cL := c1 } with aS := a2, cS := c2 } with aB := a3, cB := c3 } with aH := some ⟨w3.heap.size, 0, none⟩, cH := 0 })
  have z1 := HN1.out
  have z2 := HN2.out
  have z3 := HN3.out
  have z4 := HN4.out
  have z0 := HS0.out
  have z5 := HSD4.out
  have l1 := N1_4.out.far gr (fun q e => by cases e; left; omega)
  have l2 := N2_4.out.far gr (fun q e => by cases e; left; omega)
  have l3 := N3_4.out.far gr (fun q e => by cases e; left; omega)
  have l4 := N4_4.out.far gr (fun q e => by cases e; left; omega)
  have bfin : Below w.heap.size w (W4.setRow (w.heap.size + 1) (LegC d { { { { p with aL := a1, cL := c1 } with aS := a2, cS := c2 } with aB := a3, cB := c3 } with aH := some ⟨w3.heap.size, 0, none⟩, cH := 0 })) := D4.out.grown gr D4.out.size (fun q e => by cases e; omega)
  have sfin := gr.size
  generalize W4.setRow (w.heap.size + 1) (LegC d { { { { p with aL := a1, cL := c1 } with aS := a2, cS := c2 } with aB := a3, cB := c3 } with aH := some ⟨w3.heap.size, 0, none⟩, cH := 0 }) = W5 at *
  have y0 := hfin.c0
  have y1 := hfin.c1
  have y2 := hfin.c2
  have y3 := hfin.c3
  have y4 := hfin.c4
  have y5 := hfin.c5
  have y6 := hfin.c6
  have y7 := hfin.c7
  have y8 := hfin.c8
  have y9 := hfin.c9
  have new : LegNew w.heap.size W5 d { { { { p with aL := a1, cL := c1 } with aS := a2, cS := c2 } with aB := a3, cB := c3 } with aH := some ⟨w3.heap.size, 0, none⟩, cH := 0 } := by
    refine ⟨⟨hc1, hc2, hc3, HC4.out⟩, w1.heap.size, w2.heap.size, w3.heap.size, ((w3.setCell ⟨w.heap.size, 8, none⟩ (Value.slice a3 d.nB c3)).alloc (.cells #[] 58)).heap.size, ?_, ?_, ?_, ?_, ?_, l1.mono ?_ ?_, l2.mono ?_ ?_, l3.mono ?_ ?_, l4.mono ?_ ?_⟩ <;> omega
  refine bodyPost_ret (v := LegV d { { { { p with aL := a1, cL := c1 } with aS := a2, cS := c2 } with aB := a3, cB := c3 } with aH := some ⟨w3.heap.size, 0, none⟩, cH := 0 }) ?_ rfl ⟨_, rfl, new, bfin⟩
  rw [LegV_eq]
  unfold LegC
  rw [results_cell1 rfl]
  go_simp

theorem copyM (d : LegD) (p : LegP) (w : World) (hin : LegIn w d p) (hL : d.nL = 3) (hS : d.nS = 3) (hB : 1 ≤ d.nB) (hB4 : d.nB ≤ 8) (hH : d.nH ≤ 10) :
    Calls Tryz.prog 57 #[LegV d p] w fun e w' => ∃ p', e = .returned (LegV d p') ∧ LegNew w.heap.size w' d p' ∧ Below w.heap.size w w' := by
  rcases Nat.eq_zero_or_pos d.nH with h0 | hp
  · cases ha : p.aH with
    | none => exact copyMnone d p w hin hL hS hB hB4 h0 ha
    | some x => exact copyMsome d p w hin hL hS hB hB4 h0 x ha
  · exact copyMpos d p w hin hL hS hB hB4 hp hH
end Go.Proofs.YtdaccpffdnbkiaaGreatDoor
