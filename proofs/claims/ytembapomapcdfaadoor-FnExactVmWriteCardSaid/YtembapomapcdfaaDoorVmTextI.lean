/-
  A program's text: the program's answer.
-/
import Derived.Test.YtembapomapcdfaaDoorVmLine
import Derived.Test.YtembapomapcdfaaDoorBuilderK
import Derived.Test.YtembapomapcdfaaDoorRuleTextI
import Derived.Test.YtembapomapcdfaaDoorVmHeights
namespace Go.Proofs.YtembapomapcdfaaDoor
open Go.RowKit
set_option linter.unusedVariables false
set_option linter.unusedSimpArgs false

theorem wordV_op {o : Int} (h : o = 3 ∨ o = 4 ∨ o = 5 ∨ o = 6 ∨ o = 7 ∨ o = 8 ∨ o = 10) : wordV o = wordT o := by
  unfold wordV
  rw [if_neg (by omega), if_neg (by omega), if_neg (by omega), if_neg (by omega)]
set_option maxHeartbeats 8000000 in
theorem vmWordI (o : Int) (w : World) (h : 1 ≤ o ∧ o ≤ 11) : Calls Tryd.prog 76 #[.int .i64 o] w fun e w' => e = .returned (.string ⟨(wordV o).toArray⟩) ∧ Below w.heap.size w w' := by
  by_cases h4 : o = 1 ∨ o = 2 ∨ o = 9 ∨ o = 11
  · rcases h4 with rfl | rfl | rfl | rfl
    all_goals
      clear h
      go_enter Tryd.func76, Tryd.ntmps76
      go_wp2
      go_ret
      exact ⟨rfl, Below.refl _ _⟩
  have b1 : (o == 1) = false := by simp; omega
  have b2 : (o == 2) = false := by simp; omega
  have b9 : (o == 9) = false := by simp; omega
  have b11 : (o == 11) = false := by simp; omega
  have Hop : Hid (1 ≤ o ∧ o ≤ 10) := by refine Lib.hid ?_; omega
  rw [wordV_op (by omega)]
  have mk := fun W => meth_word o Hop.out W
  have nk := fun W => nil_word o Hop.out W
  have fk := fun a W => call_word o Hop.out a W
  have cW : Hid (∀ W, Calls Tryd.prog (wordF o) #[.agg #[]] W fun e w' => e = .returned (.string ⟨(wordT o).toArray⟩) ∧ Below W.heap.size W w') := fun W => wordI o Hop.out W
  clear h h4
  generalize (⟨(wordT o).toArray⟩ : ByteArray) = WB at *
  go_enter Tryd.func76, Tryd.ntmps76
  go_wp2_with fail
  refine (opOf o _ Hop.out).mono ?_
  rintro e w2 ⟨rfl, d2⟩
  have HB := Lib.hid d2
  clear d2
  go_wp2_with fail
  refine (cW.out _).mono ?_
  rintro e w3 ⟨rfl, d3⟩
  go_wp2
  go_ret
  exact ⟨rfl, HB.out.trans (d3.mono HB.out.size)⟩
theorem sp_cons (s : ByteArray) : ((⟨#[32]⟩ : ByteArray) ++ s).data.toList = 32 :: s.data.toList := by simp
set_option maxRecDepth 100000 in
set_option maxHeartbeats 32000000 in
theorem vmTextIC (a0 : Option Addr) (n cap : Nat) (ds : List Pl) (w : World) (h : PlsN All w a0 n ds) (hsm : ∀ d ∈ ds, SmV d) (hL : Laid w) (h80 : n ≤ 80) :
    Calls Tryd.prog 58 #[.slice a0 n cap] w (TextVP ds w) := by
  have H := Lib.hid h.lt
  have HSM := Lib.hid hsm
  have HL := Lib.hid hL
  have HN : Hid (n = ds.length) := h.1
  clear h hsm hL
  unfold TextVP
  go_enter Tryd.func58, Tryd.ntmps58
  go_upto_region 2 with fail
  have hF := Lib.hid (Tryd.fresh_bldF w)
  have hB0 : Hid (Below w.heap.size w (w.alloc (.cells #[.pointer none, .slice none 0 0] 100))) := (Below.refl _ _).alloc (Nat.le_refl _) _
  have hS0 : Hid (w.heap.size < (w.alloc (.cells #[.pointer none, .slice none 0 0] 100)).heap.size) := by refine Lib.hid ?_; simp only [World.size_alloc]; omega
  generalize w.alloc (.cells #[.pointer none, .slice none 0 0] 100) = W0 at *
  go_wp2_with fail
  go_loopw [8] (fun vi wr => ∃ k : Nat, k ≤ n ∧ vi = .int .i64 k ∧ Lib.IsBuilderF 100 5 w.heap.size w.heap.size (Lib.byteCells (textV (ds.take k))) wr ∧ w.heap.size < wr.heap.size ∧ Below w.heap.size w wr) (fun vi _ => n - (intOf vi).toNat)
  case atStart => exact ⟨0, Nat.zero_le _, rfl, hF.out, hS0.out, hB0.out⟩
  case round =>
    obtain ⟨k, hk, rfl, hbd, hsz, hb⟩ := hrel
    have HBD := Lib.hid hbd
    have HB := Lib.hid hb
    have hszr := hb.size
    clear hbd hb
    rcases Nat.lt_or_ge k n with hlt | hge
    · have hkl : k < ds.length := by have := HN.out; omega
      have k1 : (k : Int) < n := by omega
      have k0 : (0 : Int) ≤ k := by omega
      have HSd := Lib.hid (HSM.out ds[k] (List.getElem_mem _))
      have HTS := Lib.hid (textV_snoc hkl)
      have hTL : (textV (ds.take k)).length ≤ 19200 := by
        have := textV_len (ds := ds.take k) (fun d hd => HSM.out d (List.mem_of_mem_take hd))
        rw [List.length_take] at this
        omega
      have hAL := argV_len HSd.out
      obtain ⟨b, off, rfl, hbn, hbl, hrow⟩ := H.out.cells (by omega)
      obtain ⟨f, hcf, ht⟩ := hrow k hkl
      obtain ⟨e1, e2, e3, hm, hc2⟩ := ht
      generalize hd : ds[k] = d at *
      obtain ⟨o, nn, s, ms⟩ := d
      obtain ⟨fo, fn, fs, ma, ml, mc⟩ := f
      dsimp only at e1 e2 e3 hm hc2
      have q1 := e1.symm
      have q2 := e2.symm
      have q3 := e3.symm
      clear e1 e2 e3
      subst q1 q2 q3
      obtain rfl := hm.1
      have HC : Hid (∀ W, Below w.heap.size w W → CellsI W b (off + k * 4) ⟨o, nn, s, ma, ms.length, mc⟩) := fun W hW => hcf.kept (hW.block b hbn)
      have HM : Hid (∀ W, Below w.heap.size w W → MarksN All W ma ms.length ms) := fun W hW => (hm.kept (same_lt hW (Nat.le_refl _))).mono (fun _ _ => trivial)
      have HO : Hid (1 ≤ o ∧ o ≤ 11) := HSd.out.1
      have hnb : -1000000000 ≤ nn ∧ nn ≤ 1000000000 := HSd.out.2.1
      have hs8 : s.size ≤ 8 := HSd.out.2.2.1
      clear hrow hcf hm hc2 hd hbl
      obtain ⟨y0, y1, y2, y3⟩ := HC.out wr HB.out
      dsimp only at y0 y1 y2 y3
      go_upto_region 5 with fail
      have hWA : Below wr.heap.size wr (wr.alloc (.cells #[.int .i64 o, .int .i64 nn, .string s, .slice ma ms.length mc] 61)) := (Below.refl _ _).alloc (Nat.le_refl _) _
      have HX : Hid ((wr.alloc (.cells #[.int .i64 o, .int .i64 nn, .string s, .slice ma ms.length mc] 61)).heap[wr.heap.size]? = some (.cells #[.int .i64 o, .int .i64 nn, .string s, .slice ma ms.length mc] 61 (0, 0))) := heap_alloc_new wr _
      have HB1 := Lib.hid (HB.out.trans (hWA.mono hszr))
      have HD1 := Lib.hid (Tryd.bldF_kept HBD.out hWA)
      have HBG : Hid (wr.heap.size ≠ w.heap.size) := by refine Lib.hid ?_; omega
      clear y0 y1 y2 y3 hWA HB HBD
      generalize (wr.alloc (.cells #[.int .i64 o, .int .i64 nn, .string s, .slice ma ms.length mc] 61)) = W1 at *
      generalize wr.heap.size = bx at *
      have sz1 := (Array.getElem?_eq_some_iff.1 HX.out).1
      have c0 : W1.cell? ⟨bx, 0, none⟩ = some (.int .i64 o) := by rw [Lib.cell_of_heap HX.out]; rfl
      have hwl := wordV_len o
      have HCW : Hid (∀ W, Calls Tryd.prog 76 #[.int .i64 o] W fun e w' => e = .returned (.string ⟨(wordV o).toArray⟩) ∧ Below W.heap.size W w') := fun W => vmWordI o W HO.out
      have hWz : (⟨(wordV o).toArray⟩ : ByteArray).size = (wordV o).length := bszV _
      have HWD : Hid ((⟨(wordV o).toArray⟩ : ByteArray).data.toList = wordV o) := rfl
      generalize (⟨(wordV o).toArray⟩ : ByteArray) = WB at *
      go_wp2_with fail
      refine (HCW.out W1).mono ?_
      rintro e W2 ⟨rfl, d2⟩
      have HB2 := Lib.hid (HB1.out.trans (d2.mono HB1.out.size))
      have HX2 := Lib.hid ((d2.block _ sz1).trans HX.out)
      have HD2 := Lib.hid (Tryd.bldF_kept HD1.out d2)
      clear d2 c0
      go_wp2_with fail
      refine (Tryd.Builder_WriteStringK _ _ _ WB W2 HD2.out (by rw [Lib.byteCells_length]; omega) HB2.out.size).mono ?_
      rintro e W3 ⟨rfl, hA, d3, ok3⟩
      have HB3 := Lib.hid (HB2.out.trans d3)
      have HX3 := Lib.hid (others_block ok3 HX2.out HBG.out (by decide))
      have HD3 : Hid (Lib.IsBuilderF 100 5 w.heap.size w.heap.size (Lib.byteCells (textV (ds.take k) ++ wordV o)) W3) := Tryd.bldF_next hA (Lib.hid (by rw [HWD.out]))
      clear hA d3 ok3 HX HX2 HB1 HB2 HD1 HD2
      have sz3 := (Array.getElem?_eq_some_iff.1 HX3.out).1
      have c0 : W3.cell? ⟨bx, 0, none⟩ = some (.int .i64 o) := by rw [Lib.cell_of_heap HX3.out]; rfl
      have hLB : Hid (lineV ⟨o, nn, s, ms⟩ = wordV o ++ (argV ⟨o, nn, s, ms⟩ ++ [10])) := rfl
      have hTW : (textV (ds.take k) ++ wordV o).length ≤ 19205 := by rw [List.length_append]; omega
      by_cases h1 : o = 1
      · have HARG : Hid (argV ⟨o, nn, s, ms⟩ = 32 :: (intB nn).data.toList) := by refine Lib.hid ?_; unfold argV; rw [if_pos (show o = 1 ∨ o = 9 ∨ o = 11 by omega)]
        have b1 : (o == 1) = true := by simp; omega
        have c1 : W3.cell? ⟨bx, 1, none⟩ = some (.int .i64 nn) := by rw [Lib.cell_of_heap HX3.out]; rfl
        have hsz := intB_size (x := nn) (by omega) (by omega)
        have hI := Lib.hid (itoaZ nn W3 (laid_stays HL.out HB3.out) (by omega) (by omega))
        have hIL : (intB nn).data.toList.length = (intB nn).size := by simp
        unfold IntPost at hI
        generalize intB nn = IB at *
        have m1 : ¬ 9223372036854775807 < 1 + IB.size := by omega
        have e32 : (⟨#[32]⟩ : ByteArray).size = 1 := rfl
        clear h1
        go_wp2_with fail
        refine hI.out.mono ?_
        rintro e W4 ⟨rfl, d4⟩
        have HB4 := Lib.hid (HB3.out.trans (d4.mono HB3.out.size))
        have HD4 := Lib.hid (Tryd.bldF_kept HD3.out d4)
        clear d4 c0 c1
        go_wp2_with fail
        have hsz2 : ((⟨#[32]⟩ : ByteArray) ++ IB).size ≤ 30 := by rw [ByteArray.size_append]; omega

        refine (Tryd.Builder_WriteStringK _ _ _ _ W4 HD4.out (by rw [Lib.byteCells_length]; omega) HB4.out.size).mono ?_
        rintro e W5 ⟨rfl, hA, d5, ok5⟩
        have HB5 := Lib.hid (HB4.out.trans d5)
        have HD5 : Hid (Lib.IsBuilderF 100 5 w.heap.size w.heap.size (Lib.byteCells (textV (ds.take k) ++ wordV o ++ 32 :: IB.data.toList)) W5) := Tryd.bldF_next hA (Lib.hid (by rw [sp_cons]))
        clear hA d5 ok5
        have hTX : (textV (ds.take k) ++ wordV o ++ 32 :: IB.data.toList).length ≤ 19500 := by rw [List.length_append]; simp only [List.length_cons]; omega
        go_wp2_with fail

        refine (Tryd.Builder_WriteByteK _ _ _ 10 W5 HD5.out (by rw [Lib.byteCells_length]; omega) HB5.out.size).mono ?_
        rintro e W9 ⟨rfl, hA, d9, ok9⟩
        have HB9 := HB5.out.trans d9
        have HD9 : Lib.IsBuilderF 100 5 w.heap.size w.heap.size (Lib.byteCells (textV (ds.take (k + 1)))) W9 := Tryd.bldF_byte (c := 10) hA (Lib.hid (by rw [HTS.out, hLB.out, HARG.out]; simp))
        have sz9 : w.heap.size < W9.heap.size := by
          have := HB9.size
          have h9 := ok9
          rcases HD9 with ⟨-, v, hv, -⟩ | ⟨-, v, hv, -⟩
          · exact (Array.getElem?_eq_some_iff.1 hv).1
          · exact (Array.getElem?_eq_some_iff.1 hv).1
        clear hA d9 ok9
        go_wp2
        go_roundw
        case rel => exact ⟨k + 1, by omega, by go_num, HD9, sz9, HB9⟩
        case measure => simp [intOf]; omega
      by_cases h9 : o = 9
      · have HARG : Hid (argV ⟨o, nn, s, ms⟩ = 32 :: (intB nn).data.toList) := by refine Lib.hid ?_; unfold argV; rw [if_pos (show o = 1 ∨ o = 9 ∨ o = 11 by omega)]
        have b1 : (o == 1) = false := by simp; omega
        have b9 : (o == 9) = true := by simp; omega
        have c1 : W3.cell? ⟨bx, 1, none⟩ = some (.int .i64 nn) := by rw [Lib.cell_of_heap HX3.out]; rfl
        have hsz := intB_size (x := nn) (by omega) (by omega)
        have hI := Lib.hid (itoaZ nn W3 (laid_stays HL.out HB3.out) (by omega) (by omega))
        have hIL : (intB nn).data.toList.length = (intB nn).size := by simp
        unfold IntPost at hI
        generalize intB nn = IB at *
        have m1 : ¬ 9223372036854775807 < 1 + IB.size := by omega
        have e32 : (⟨#[32]⟩ : ByteArray).size = 1 := rfl
        clear h9
        go_wp2_with fail
        refine hI.out.mono ?_
        rintro e W4 ⟨rfl, d4⟩
        have HB4 := Lib.hid (HB3.out.trans (d4.mono HB3.out.size))
        have HD4 := Lib.hid (Tryd.bldF_kept HD3.out d4)
        clear d4 c0 c1
        go_wp2_with fail
        have hsz2 : ((⟨#[32]⟩ : ByteArray) ++ IB).size ≤ 30 := by rw [ByteArray.size_append]; omega

        refine (Tryd.Builder_WriteStringK _ _ _ _ W4 HD4.out (by rw [Lib.byteCells_length]; omega) HB4.out.size).mono ?_
        rintro e W5 ⟨rfl, hA, d5, ok5⟩
        have HB5 := Lib.hid (HB4.out.trans d5)
        have HD5 : Hid (Lib.IsBuilderF 100 5 w.heap.size w.heap.size (Lib.byteCells (textV (ds.take k) ++ wordV o ++ 32 :: IB.data.toList)) W5) := Tryd.bldF_next hA (Lib.hid (by rw [sp_cons]))
        clear hA d5 ok5
        have hTX : (textV (ds.take k) ++ wordV o ++ 32 :: IB.data.toList).length ≤ 19500 := by rw [List.length_append]; simp only [List.length_cons]; omega
        go_wp2_with fail

        refine (Tryd.Builder_WriteByteK _ _ _ 10 W5 HD5.out (by rw [Lib.byteCells_length]; omega) HB5.out.size).mono ?_
        rintro e W9 ⟨rfl, hA, d9, ok9⟩
        have HB9 := HB5.out.trans d9
        have HD9 : Lib.IsBuilderF 100 5 w.heap.size w.heap.size (Lib.byteCells (textV (ds.take (k + 1)))) W9 := Tryd.bldF_byte (c := 10) hA (Lib.hid (by rw [HTS.out, hLB.out, HARG.out]; simp))
        have sz9 : w.heap.size < W9.heap.size := by
          have := HB9.size
          have h9 := ok9
          rcases HD9 with ⟨-, v, hv, -⟩ | ⟨-, v, hv, -⟩
          · exact (Array.getElem?_eq_some_iff.1 hv).1
          · exact (Array.getElem?_eq_some_iff.1 hv).1
        clear hA d9 ok9
        go_wp2
        go_roundw
        case rel => exact ⟨k + 1, by omega, by go_num, HD9, sz9, HB9⟩
        case measure => simp [intOf]; omega
      by_cases h11 : o = 11
      · have HARG : Hid (argV ⟨o, nn, s, ms⟩ = 32 :: (intB nn).data.toList) := by refine Lib.hid ?_; unfold argV; rw [if_pos (show o = 1 ∨ o = 9 ∨ o = 11 by omega)]
        have b1 : (o == 1) = false := by simp; omega
        have b9 : (o == 9) = false := by simp; omega
        have b11 : (o == 11) = true := by simp; omega
        have c1 : W3.cell? ⟨bx, 1, none⟩ = some (.int .i64 nn) := by rw [Lib.cell_of_heap HX3.out]; rfl
        have hsz := intB_size (x := nn) (by omega) (by omega)
        have hI := Lib.hid (itoaZ nn W3 (laid_stays HL.out HB3.out) (by omega) (by omega))
        have hIL : (intB nn).data.toList.length = (intB nn).size := by simp
        unfold IntPost at hI
        generalize intB nn = IB at *
        have m1 : ¬ 9223372036854775807 < 1 + IB.size := by omega
        have e32 : (⟨#[32]⟩ : ByteArray).size = 1 := rfl
        clear h11
        go_wp2_with fail
        refine hI.out.mono ?_
        rintro e W4 ⟨rfl, d4⟩
        have HB4 := Lib.hid (HB3.out.trans (d4.mono HB3.out.size))
        have HD4 := Lib.hid (Tryd.bldF_kept HD3.out d4)
        clear d4 c0 c1
        go_wp2_with fail
        have hsz2 : ((⟨#[32]⟩ : ByteArray) ++ IB).size ≤ 30 := by rw [ByteArray.size_append]; omega

        refine (Tryd.Builder_WriteStringK _ _ _ _ W4 HD4.out (by rw [Lib.byteCells_length]; omega) HB4.out.size).mono ?_
        rintro e W5 ⟨rfl, hA, d5, ok5⟩
        have HB5 := Lib.hid (HB4.out.trans d5)
        have HD5 : Hid (Lib.IsBuilderF 100 5 w.heap.size w.heap.size (Lib.byteCells (textV (ds.take k) ++ wordV o ++ 32 :: IB.data.toList)) W5) := Tryd.bldF_next hA (Lib.hid (by rw [sp_cons]))
        clear hA d5 ok5
        have hTX : (textV (ds.take k) ++ wordV o ++ 32 :: IB.data.toList).length ≤ 19500 := by rw [List.length_append]; simp only [List.length_cons]; omega
        go_wp2_with fail

        refine (Tryd.Builder_WriteByteK _ _ _ 10 W5 HD5.out (by rw [Lib.byteCells_length]; omega) HB5.out.size).mono ?_
        rintro e W9 ⟨rfl, hA, d9, ok9⟩
        have HB9 := HB5.out.trans d9
        have HD9 : Lib.IsBuilderF 100 5 w.heap.size w.heap.size (Lib.byteCells (textV (ds.take (k + 1)))) W9 := Tryd.bldF_byte (c := 10) hA (Lib.hid (by rw [HTS.out, hLB.out, HARG.out]; simp))
        have sz9 : w.heap.size < W9.heap.size := by
          have := HB9.size
          have h9 := ok9
          rcases HD9 with ⟨-, v, hv, -⟩ | ⟨-, v, hv, -⟩
          · exact (Array.getElem?_eq_some_iff.1 hv).1
          · exact (Array.getElem?_eq_some_iff.1 hv).1
        clear hA d9 ok9
        go_wp2
        go_roundw
        case rel => exact ⟨k + 1, by omega, by go_num, HD9, sz9, HB9⟩
        case measure => simp [intOf]; omega
      have b1 : (o == 1) = false := by simpa using h1
      have b9 : (o == 9) = false := by simpa using h9
      have b11 : (o == 11) = false := by simpa using h11
      by_cases h2 : o = 2
      · have b2 : (o == 2) = true := by simpa using h2
        have HARG : Hid (argV ⟨o, nn, s, ms⟩ = 32 :: s.data.toList) := by refine Lib.hid ?_; unfold argV; rw [if_neg (show ¬ (o = 1 ∨ o = 9 ∨ o = 11) by omega), if_pos (show o = 2 from h2)]
        have c2 : W3.cell? ⟨bx, 2, none⟩ = some (.string s) := by rw [Lib.cell_of_heap HX3.out]; rfl
        have hIL : s.data.toList.length = s.size := by simp
        have m1 : ¬ 9223372036854775807 < 1 + s.size := by omega
        have e32 : (⟨#[32]⟩ : ByteArray).size = 1 := rfl
        clear h1 h9 h11 h2
        go_wp2_with fail
        have hsz2 : ((⟨#[32]⟩ : ByteArray) ++ s).size ≤ 30 := by rw [ByteArray.size_append]; omega

        refine (Tryd.Builder_WriteStringK _ _ _ _ W3 HD3.out (by rw [Lib.byteCells_length]; omega) HB3.out.size).mono ?_
        rintro e W5 ⟨rfl, hA, d5, ok5⟩
        have HB5 := Lib.hid (HB3.out.trans d5)
        have HD5 : Hid (Lib.IsBuilderF 100 5 w.heap.size w.heap.size (Lib.byteCells (textV (ds.take k) ++ wordV o ++ 32 :: s.data.toList)) W5) := Tryd.bldF_next hA (Lib.hid (by rw [sp_cons]))
        clear hA d5 ok5
        have hTX : (textV (ds.take k) ++ wordV o ++ 32 :: s.data.toList).length ≤ 19500 := by rw [List.length_append]; simp only [List.length_cons]; omega
        go_wp2_with fail

        refine (Tryd.Builder_WriteByteK _ _ _ 10 W5 HD5.out (by rw [Lib.byteCells_length]; omega) HB5.out.size).mono ?_
        rintro e W9 ⟨rfl, hA, d9, ok9⟩
        have HB9 := HB5.out.trans d9
        have HD9 : Lib.IsBuilderF 100 5 w.heap.size w.heap.size (Lib.byteCells (textV (ds.take (k + 1)))) W9 := Tryd.bldF_byte (c := 10) hA (Lib.hid (by rw [HTS.out, hLB.out, HARG.out]; simp))
        have sz9 : w.heap.size < W9.heap.size := by
          have := HB9.size
          have h9 := ok9
          rcases HD9 with ⟨-, v, hv, -⟩ | ⟨-, v, hv, -⟩
          · exact (Array.getElem?_eq_some_iff.1 hv).1
          · exact (Array.getElem?_eq_some_iff.1 hv).1
        clear hA d9 ok9
        go_wp2
        go_roundw
        case rel => exact ⟨k + 1, by omega, by go_num, HD9, sz9, HB9⟩
        case measure => simp [intOf]; omega
      have b2 : (o == 2) = false := by simpa using h2
      by_cases h10 : o = 10
      · have b10 : (o == 10) = true := by simpa using h10
        have HARG : Hid (argV ⟨o, nn, s, ms⟩ = 32 :: marksT 32 ms) := by refine Lib.hid ?_; unfold argV; rw [if_neg (show ¬ (o = 1 ∨ o = 9 ∨ o = 11) by omega), if_neg (show ¬ o = 2 from h2), if_pos (show o = 10 from h10)]
        have hmo : MOk (mF ms) (mP ms) ms.length := HSd.out.2.2.2.1 h10
        have c3 : W3.cell? ⟨bx, 3, none⟩ = some (.slice ma ms.length mc) := by rw [Lib.cell_of_heap HX3.out]; rfl
        have hI := Lib.hid (marksI 32 ma mc ms W3 (HM.out W3 HB3.out) hmo (laid_stays HL.out HB3.out))
        have hsz := marksT_len 32 hmo
        have hMz : (⟨(marksT 32 ms).toArray⟩ : ByteArray).size = (marksT 32 ms).length := bszV _
        have HMD : Hid ((⟨(marksT 32 ms).toArray⟩ : ByteArray).data.toList = marksT 32 ms) := rfl
        generalize (⟨(marksT 32 ms).toArray⟩ : ByteArray) = MB at *
        have m1 : ¬ 9223372036854775807 < 1 + MB.size := by omega
        have e32 : (⟨#[32]⟩ : ByteArray).size = 1 := rfl
        clear h1 h9 h11 h2 h10 hmo
        go_wp2_with fail
        refine hI.out.mono ?_
        rintro e W4 ⟨rfl, d4⟩
        have HB4 := Lib.hid (HB3.out.trans (d4.mono HB3.out.size))
        have HD4 := Lib.hid (Tryd.bldF_kept HD3.out d4)
        clear d4 c0 c3
        go_wp2_with fail
        have hsz2 : ((⟨#[32]⟩ : ByteArray) ++ MB).size ≤ 240 := by rw [ByteArray.size_append]; omega

        refine (Tryd.Builder_WriteStringK _ _ _ _ W4 HD4.out (by rw [Lib.byteCells_length]; omega) HB4.out.size).mono ?_
        rintro e W5 ⟨rfl, hA, d5, ok5⟩
        have HB5 := Lib.hid (HB4.out.trans d5)
        have HD5 : Hid (Lib.IsBuilderF 100 5 w.heap.size w.heap.size (Lib.byteCells (textV (ds.take k) ++ wordV o ++ 32 :: marksT 32 ms)) W5) := Tryd.bldF_next hA (Lib.hid (by rw [sp_cons, HMD.out]))
        clear hA d5 ok5
        have hTX : (textV (ds.take k) ++ wordV o ++ 32 :: marksT 32 ms).length ≤ 19500 := by rw [List.length_append]; simp only [List.length_cons]; omega
        go_wp2_with fail

        refine (Tryd.Builder_WriteByteK _ _ _ 10 W5 HD5.out (by rw [Lib.byteCells_length]; omega) HB5.out.size).mono ?_
        rintro e W9 ⟨rfl, hA, d9, ok9⟩
        have HB9 := HB5.out.trans d9
        have HD9 : Lib.IsBuilderF 100 5 w.heap.size w.heap.size (Lib.byteCells (textV (ds.take (k + 1)))) W9 := Tryd.bldF_byte (c := 10) hA (Lib.hid (by rw [HTS.out, hLB.out, HARG.out]; simp))
        have sz9 : w.heap.size < W9.heap.size := by
          have := HB9.size
          have h9 := ok9
          rcases HD9 with ⟨-, v, hv, -⟩ | ⟨-, v, hv, -⟩
          · exact (Array.getElem?_eq_some_iff.1 hv).1
          · exact (Array.getElem?_eq_some_iff.1 hv).1
        clear hA d9 ok9
        go_wp2
        go_roundw
        case rel => exact ⟨k + 1, by omega, by go_num, HD9, sz9, HB9⟩
        case measure => simp [intOf]; omega
      have b10 : (o == 10) = false := by simpa using h10
      have HARG : Hid (argV ⟨o, nn, s, ms⟩ = []) := by refine Lib.hid ?_; unfold argV; rw [if_neg (show ¬ (o = 1 ∨ o = 9 ∨ o = 11) by omega), if_neg (show ¬ o = 2 from h2), if_neg (show ¬ o = 10 from h10)]
      clear h1 h9 h11 h2 h10
      go_wp2_with fail

      refine (Tryd.Builder_WriteByteK _ _ _ 10 W3 HD3.out (by rw [Lib.byteCells_length]; omega) HB3.out.size).mono ?_
      rintro e W9 ⟨rfl, hA, d9, ok9⟩
      have HB9 := HB3.out.trans d9
      have HD9 : Lib.IsBuilderF 100 5 w.heap.size w.heap.size (Lib.byteCells (textV (ds.take (k + 1)))) W9 := Tryd.bldF_byte (c := 10) hA (Lib.hid (by rw [HTS.out, hLB.out, HARG.out]; simp))
      have sz9 : w.heap.size < W9.heap.size := by
        have := HB9.size
        have h9 := ok9
        rcases HD9 with ⟨-, v, hv, -⟩ | ⟨-, v, hv, -⟩
        · exact (Array.getElem?_eq_some_iff.1 hv).1
        · exact (Array.getElem?_eq_some_iff.1 hv).1
      clear hA d9 ok9
      go_wp2
      go_roundw
      case rel => exact ⟨k + 1, by omega, by go_num, HD9, sz9, HB9⟩
      case measure => simp [intOf]; omega
    · obtain rfl : k = n := by omega
      have hfull : ds.take k = ds := List.take_of_length_le (by have := HN.out; omega)
      have HF := Lib.hid hfull
      clear hfull
      go_wp2_with fail
      refine (Tryd.Builder_String_any_f _ _ (textV ds) _ (by have := HBD.out; rw [HF.out] at this; exact this) HB.out.size).mono ?_
      rintro e w3 ⟨rfl, -, hb3⟩
      go_wp2
      go_ret
      exact ⟨rfl, HB.out.trans hb3⟩
end Go.Proofs.YtembapomapcdfaaDoor
