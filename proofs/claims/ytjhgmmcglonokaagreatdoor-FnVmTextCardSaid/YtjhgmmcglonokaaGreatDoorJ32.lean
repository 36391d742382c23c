/-
  A rule's text: the program's answer.
  A program's text: the program's answer.
  Whether a program is ok, how much it has at hand, its text: the model's answers and the program's.
  Whether a rule is ok, and its text: the model's answers and the program's.
-/
import Derived.Test.YtjhgmmcglonokaaGreatDoorMarksText
import Derived.Test.YtjhgmmcglonokaaGreatDoorRuleTextM
import Derived.Test.YtjhgmmcglonokaaGreatDoorJ19
import Derived.Test.YtjhgmmcglonokaaGreatDoorVmLine
import Derived.Test.YtjhgmmcglonokaaGreatDoorJ6
import Derived.Test.YtjhgmmcglonokaaGreatDoorJ25
import Derived.Test.YtjhgmmcglonokaaGreatDoorJ20
namespace Go.Proofs.YtjhgmmcglonokaaGreatDoor
open Go.RowKit
set_option linter.unusedVariables false
set_option linter.unusedSimpArgs false

end Go.Proofs.YtjhgmmcglonokaaGreatDoor

namespace Go.Proofs.YtjhgmmcglonokaaGreatDoor
open Go.RowKit
set_option linter.unusedVariables false
set_option linter.unusedSimpArgs false

theorem wordV_op {o : Int} (h : o = 3 ∨ o = 4 ∨ o = 5 ∨ o = 6 ∨ o = 7 ∨ o = 8 ∨ o = 10) : wordV o = wordT o := by
  unfold wordV
  rw [if_neg (by omega), if_neg (by omega), if_neg (by omega), if_neg (by omega)]
set_option maxHeartbeats 8000000 in
theorem vmWordI (o : Int) (w : World) (h : 1 ≤ o ∧ o ≤ 11) : Calls Tryz.prog 73 #[.int .i64 o] w fun e w' => e = .returned (.string ⟨(wordV o).toArray⟩) ∧ Below w.heap.size w w' := by
  by_cases h4 : o = 1 ∨ o = 2 ∨ o = 9 ∨ o = 11
  · rcases h4 with rfl | rfl | rfl | rfl
    all_goals
      clear h
      go_enter Tryz.func73, Tryz.ntmps73
      go_wp2
      go_ret
      exact ⟨rfl, Below.refl _ _⟩
  have b1 : (o == 1) = false := by simp; omega
  have b2 : (o == 2) = false := by simp; omega
  have b9 : (o == 9) = false := by simp; omega
  have b11 : (o == 11) = false := by simp; omega
  have Hop : Hid (1 ≤ o ∧ o ≤ 10) := by refine Lib.hid ?_; omega
  rw [wordV_op (by omega)]
  have mk := fun W => meth_word o Hop.out W
  have nk := fun W => nil_word o Hop.out W
  have fk := fun a W => call_word o Hop.out a W
  have cW : Hid (∀ W, Calls Tryz.prog (wordF o) #[.agg #[]] W fun e w' => e = .returned (.string ⟨(wordT o).toArray⟩) ∧ Below W.heap.size W w') := fun W => wordI o Hop.out W
  clear h h4
  generalize (⟨(wordT o).toArray⟩ : ByteArray) = WB at *
  go_enter Tryz.func73, Tryz.ntmps73
  go_wp2_with fail
  refine (opOf o _ Hop.out).mono ?_
  rintro e w2 ⟨rfl, d2⟩
  have HB := Lib.hid d2
  clear d2
  go_wp2_with fail
  refine (cW.out _).mono ?_
  rintro e w3 ⟨rfl, d3⟩
  go_wp2
  go_ret
  exact ⟨rfl, HB.out.trans (d3.mono HB.out.size)⟩
theorem sp_cons (s : ByteArray) : ((⟨#[32]⟩ : ByteArray) ++ s).data.toList = 32 :: s.data.toList := by simp
set_option maxRecDepth 100000 in
set_option maxHeartbeats 32000000 in
theorem vmTextIC (a0 : Option Addr) (n cap : Nat) (ds : List Pl) (w : World) (h : PlsN All w a0 n ds) (hsm : ∀ d ∈ ds, SmV d) (hL : Laid w) (h80 : n ≤ 80) :
    Calls Tryz.prog 36 #[.slice a0 n cap] w (TextVP ds w) := by
  have H := Lib.hid h.lt
  have HSM := Lib.hid hsm
  have HL := Lib.hid hL
  have HN : Hid (n = ds.length) := h.1
  clear h hsm hL
  unfold TextVP
  go_enter Tryz.func36, Tryz.ntmps36
  go_upto_region 2 with fail
  have hF := Lib.hid (Tryz.fresh_bldF w)
  have hB0 : Hid (Below w.heap.size w (w.alloc (.cells #[.pointer none, .slice none 0 0] 99))) := (Below.refl _ _).alloc (Nat.le_refl _) _
  have hS0 : Hid (w.heap.size < (w.alloc (.cells #[.pointer none, .slice none 0 0] 99)).heap.size) := by refine Lib.hid ?_; simp only [World.size_alloc]; omega
  generalize w.alloc (.cells #[.pointer none, .slice none 0 0] 99) = W0 at *
  go_wp2_with fail
  go_loopw [8] (fun vi wr => ∃ k : Nat, k ≤ n ∧ vi = .int .i64 k ∧ Lib.IsBuilderF 99 5 w.heap.size w.heap.size (Lib.byteCells (textV (ds.take k))) wr ∧ w.heap.size < wr.heap.size ∧ Below w.heap.size w wr) (fun vi _ => n - (intOf vi).toNat)
  case atStart => exact ⟨0, Nat.zero_le _, rfl, hF.out, hS0.out, hB0.out⟩
  case round =>
    obtain ⟨k, hk, rfl, hbd, hsz, hb⟩ := hrel
    have HBD := Lib.hid hbd
    have HB := Lib.hid hb
    have hszr := hb.size
    clear hbd hb
    rcases Nat.lt_or_ge k n with hlt | hge
    · have hkl : k < ds.length := by have := HN.out; omega
      have k1 : (k : Int) < n := by omega
      have k0 : (0 : Int) ≤ k := by omega
      have HSd := Lib.hid (HSM.out ds[k] (List.getElem_mem _))
      have HTS := Lib.hid (textV_snoc hkl)
      have hTL : (textV (ds.take k)).length ≤ 19200 := by
        have := textV_len (ds := ds.take k) (fun d hd => HSM.out d (List.mem_of_mem_take hd))
        rw [List.length_take] at this
        omega
      have hAL := argV_len HSd.out
      obtain ⟨b, off, rfl, hbn, hbl, hrow⟩ := H.out.cells (by omega)
      obtain ⟨f, hcf, ht⟩ := hrow k hkl
      obtain ⟨e1, e2, e3, hm, hc2⟩ := ht
      generalize hd : ds[k] = d at *
      obtain ⟨o, nn, s, ms⟩ := d
      obtain ⟨fo, fn, fs, ma, ml, mc⟩ := f
      dsimp only at e1 e2 e3 hm hc2
      have q1 := e1.symm
      have q2 := e2.symm
      have q3 := e3.symm
      clear e1 e2 e3
      subst q1 q2 q3
      obtain rfl := hm.1
      have HC : Hid (∀ W, Below w.heap.size w W → CellsI W b (off + k * 4) ⟨o, nn, s, ma, ms.length, mc⟩) := fun W hW => hcf.kept (hW.block b hbn)
      have HM : Hid (∀ W, Below w.heap.size w W → MarksN All W ma ms.length ms) := fun W hW => (hm.kept (same_lt hW (Nat.le_refl _))).mono (fun _ _ => trivial)
      have HO : Hid (1 ≤ o ∧ o ≤ 11) := HSd.out.1
      have hnb : -1000000000 ≤ nn ∧ nn ≤ 1000000000 := HSd.out.2.1
      have hs8 : s.size ≤ 8 := HSd.out.2.2.1
      clear hrow hcf hm hc2 hd hbl
      obtain ⟨y0, y1, y2, y3⟩ := HC.out wr HB.out
      dsimp only at y0 y1 y2 y3
      go_upto_region 5 with fail
      have hWA : Below wr.heap.size wr (wr.alloc (.cells #[.int .i64 o, .int .i64 nn, .string s, .slice ma ms.length mc] 48)) := (Below.refl _ _).alloc (Nat.le_refl _) _
      have HX : Hid ((wr.alloc (.cells #[.int .i64 o, .int .i64 nn, .string s, .slice ma ms.length mc] 48)).heap[wr.heap.size]? = some (.cells #[.int .i64 o, .int .i64 nn, .string s, .slice ma ms.length mc] 48 (0, 0))) := heap_alloc_new wr _
      have HB1 := Lib.hid (HB.out.trans (hWA.mono hszr))
      have HD1 := Lib.hid (Tryz.bldF_kept HBD.out hWA)
      have HBG : Hid (wr.heap.size ≠ w.heap.size) := by refine Lib.hid ?_; omega
      clear y0 y1 y2 y3 hWA HB HBD
      generalize (wr.alloc (.cells #[.int .i64 o, .int .i64 nn, .string s, .slice ma ms.length mc] 48)) = W1 at *
      generalize wr.heap.size = bx at *
      have sz1 := (Array.getElem?_eq_some_iff.1 HX.out).1
      have c0 : W1.cell? ⟨bx, 0, none⟩ = some (.int .i64 o) := by rw [Lib.cell_of_heap HX.out]; rfl
      have hwl := wordV_len o
      have HCW : Hid (∀ W, Calls Tryz.prog 73 #[.int .i64 o] W fun e w' => e = .returned (.string ⟨(wordV o).toArray⟩) ∧ Below W.heap.size W w') := fun W => vmWordI o W HO.out
      have hWz : (⟨(wordV o).toArray⟩ : ByteArray).size = (wordV o).length := bszV _
      have HWD : Hid ((⟨(wordV o).toArray⟩ : ByteArray).data.toList = wordV o) := rfl
      generalize (⟨(wordV o).toArray⟩ : ByteArray) = WB at *
      go_wp2_with fail
      refine (HCW.out W1).mono ?_
      rintro e W2 ⟨rfl, d2⟩
      have HB2 := Lib.hid (HB1.out.trans (d2.mono HB1.out.size))
      have HX2 := Lib.hid ((d2.block _ sz1).trans HX.out)
      have HD2 := Lib.hid (Tryz.bldF_kept HD1.out d2)
      clear d2 c0
      go_wp2_with fail
      refine (Tryz.Builder_WriteStringK _ _ _ WB W2 HD2.out (by rw [Lib.byteCells_length]; omega) HB2.out.size).mono ?_
      rintro e W3 ⟨rfl, hA, d3, ok3⟩
      have HB3 := Lib.hid (HB2.out.trans d3)
      have HX3 := Lib.hid (others_block ok3 HX2.out HBG.out (by decide))
      have HD3 : Hid (Lib.IsBuilderF 99 5 w.heap.size w.heap.size (Lib.byteCells (textV (ds.take k) ++ wordV o)) W3) := Tryz.bldF_next hA (Lib.hid (by rw [HWD.out]))
      clear hA d3 ok3 HX HX2 HB1 HB2 HD1 HD2
      have sz3 := (Array.getElem?_eq_some_iff.1 HX3.out).1
      have c0 : W3.cell? ⟨bx, 0, none⟩ = some (.int .i64 o) := by rw [Lib.cell_of_heap HX3.out]; rfl
      have hLB : Hid (lineV ⟨o, nn, s, ms⟩ = wordV o ++ (argV ⟨o, nn, s, ms⟩ ++ [10])) := rfl
      have hTW : (textV (ds.take k) ++ wordV o).length ≤ 19205 := by rw [List.length_append]; omega
      by_cases h1 : o = 1
      · have HARG : Hid (argV ⟨o, nn, s, ms⟩ = 32 :: (intB nn).data.toList) := by refine Lib.hid ?_; unfold argV; rw [if_pos (show o = 1 ∨ o = 9 ∨ o = 11 by omega)]
        have b1 : (o == 1) = true := by simp; omega
        have c1 : W3.cell? ⟨bx, 1, none⟩ = some (.int .i64 nn) := by rw [Lib.cell_of_heap HX3.out]; rfl
        have hsz := intB_size (x := nn) (by omega) (by omega)
        have hI := Lib.hid (itoaZ nn W3 (laid_stays HL.out HB3.out) (by omega) (by omega))
        have hIL : (intB nn).data.toList.length = (intB nn).size := by simp
        unfold IntPost at hI
        generalize intB nn = IB at *
        have m1 : ¬ 9223372036854775807 < 1 + IB.size := by omega
        have e32 : (⟨#[32]⟩ : ByteArray).size = 1 := rfl
        clear h1
        go_wp2_with fail
        refine hI.out.mono ?_
        rintro e W4 ⟨rfl, d4⟩
        have HB4 := Lib.hid (HB3.out.trans (d4.mono HB3.out.size))
        have HD4 := Lib.hid (Tryz.bldF_kept HD3.out d4)
        clear d4 c0 c1
        go_wp2_with fail
        have hsz2 : ((⟨#[32]⟩ : ByteArray) ++ IB).size ≤ 30 := by rw [ByteArray.size_append]; omega

        refine (Tryz.Builder_WriteStringK _ _ _ _ W4 HD4.out (by rw [Lib.byteCells_length]; omega) HB4.out.size).mono ?_
        rintro e W5 ⟨rfl, hA, d5, ok5⟩
        have HB5 := Lib.hid (HB4.out.trans d5)
        have HD5 : Hid (Lib.IsBuilderF 99 5 w.heap.size w.heap.size (Lib.byteCells (textV (ds.take k) ++ wordV o ++ 32 :: IB.data.toList)) W5) := Tryz.bldF_next hA (Lib.hid (by rw [sp_cons]))
        clear hA d5 ok5
        have hTX : (textV (ds.take k) ++ wordV o ++ 32 :: IB.data.toList).length ≤ 19500 := by rw [List.length_append]; simp only [List.length_cons]; omega
        go_wp2_with fail

        refine (Tryz.Builder_WriteByteK _ _ _ 10 W5 HD5.out (by rw [Lib.byteCells_length]; omega) HB5.out.size).mono ?_
        rintro e W9 ⟨rfl, hA, d9, ok9⟩
        have HB9 := HB5.out.trans d9
        have HD9 : Lib.IsBuilderF 99 5 w.heap.size w.heap.size (Lib.byteCells (textV (ds.take (k + 1)))) W9 := Tryz.bldF_byte (c := 10) hA (Lib.hid (by rw [HTS.out, hLB.out, HARG.out]; simp))
        have sz9 : w.heap.size < W9.heap.size := by
          have := HB9.size
          have h9 := ok9
          rcases HD9 with ⟨-, v, hv, -⟩ | ⟨-, v, hv, -⟩
          · exact (Array.getElem?_eq_some_iff.1 hv).1
          · exact (Array.getElem?_eq_some_iff.1 hv).1
        clear hA d9 ok9
        go_wp2
        go_roundw
        case rel => exact ⟨k + 1, by omega, by go_num, HD9, sz9, HB9⟩
        case measure => simp [intOf]; omega
      by_cases h9 : o = 9
      · have HARG : Hid (argV ⟨o, nn, s, ms⟩ = 32 :: (intB nn).data.toList) := by refine Lib.hid ?_; unfold argV; rw [if_pos (show o = 1 ∨ o = 9 ∨ o = 11 by omega)]
        have b1 : (o == 1) = false := by simp; omega
        have b9 : (o == 9) = true := by simp; omega
        have c1 : W3.cell? ⟨bx, 1, none⟩ = some (.int .i64 nn) := by rw [Lib.cell_of_heap HX3.out]; rfl
        have hsz := intB_size (x := nn) (by omega) (by omega)
        have hI := Lib.hid (itoaZ nn W3 (laid_stays HL.out HB3.out) (by omega) (by omega))
        have hIL : (intB nn).data.toList.length = (intB nn).size := by simp
        unfold IntPost at hI
        generalize intB nn = IB at *
        have m1 : ¬ 9223372036854775807 < 1 + IB.size := by omega
        have e32 : (⟨#[32]⟩ : ByteArray).size = 1 := rfl
        clear h9
        go_wp2_with fail
        refine hI.out.mono ?_
        rintro e W4 ⟨rfl, d4⟩
        have HB4 := Lib.hid (HB3.out.trans (d4.mono HB3.out.size))
        have HD4 := Lib.hid (Tryz.bldF_kept HD3.out d4)
        clear d4 c0 c1
        go_wp2_with fail
        have hsz2 : ((⟨#[32]⟩ : ByteArray) ++ IB).size ≤ 30 := by rw [ByteArray.size_append]; omega

        refine (Tryz.Builder_WriteStringK _ _ _ _ W4 HD4.out (by rw [Lib.byteCells_length]; omega) HB4.out.size).mono ?_
        rintro e W5 ⟨rfl, hA, d5, ok5⟩
        have HB5 := Lib.hid (HB4.out.trans d5)
        have HD5 : Hid (Lib.IsBuilderF 99 5 w.heap.size w.heap.size (Lib.byteCells (textV (ds.take k) ++ wordV o ++ 32 :: IB.data.toList)) W5) := Tryz.bldF_next hA (Lib.hid (by rw [sp_cons]))
        clear hA d5 ok5
        have hTX : (textV (ds.take k) ++ wordV o ++ 32 :: IB.data.toList).length ≤ 19500 := by rw [List.length_append]; simp only [List.length_cons]; omega
        go_wp2_with fail

        refine (Tryz.Builder_WriteByteK _ _ _ 10 W5 HD5.out (by rw [Lib.byteCells_length]; omega) HB5.out.size).mono ?_
        rintro e W9 ⟨rfl, hA, d9, ok9⟩
        have HB9 := HB5.out.trans d9
        have HD9 : Lib.IsBuilderF 99 5 w.heap.size w.heap.size (Lib.byteCells (textV (ds.take (k + 1)))) W9 := Tryz.bldF_byte (c := 10) hA (Lib.hid (by rw [HTS.out, hLB.out, HARG.out]; simp))
        have sz9 : w.heap.size < W9.heap.size := by
          have := HB9.size
          have h9 := ok9
          rcases HD9 with ⟨-, v, hv, -⟩ | ⟨-, v, hv, -⟩
          · exact (Array.getElem?_eq_some_iff.1 hv).1
          · exact (Array.getElem?_eq_some_iff.1 hv).1
        clear hA d9 ok9
        go_wp2
        go_roundw
        case rel => exact ⟨k + 1, by omega, by go_num, HD9, sz9, HB9⟩
        case measure => simp [intOf]; omega
      by_cases h11 : o = 11
      · have HARG : Hid (argV ⟨o, nn, s, ms⟩ = 32 :: (intB nn).data.toList) := by refine Lib.hid ?_; unfold argV; rw [if_pos (show o = 1 ∨ o = 9 ∨ o = 11 by omega)]
        have b1 : (o == 1) = false := by simp; omega
        have b9 : (o == 9) = false := by simp; omega
        have b11 : (o == 11) = true := by simp; omega
        have c1 : W3.cell? ⟨bx, 1, none⟩ = some (.int .i64 nn) := by rw [Lib.cell_of_heap HX3.out]; rfl
        have hsz := intB_size (x := nn) (by omega) (by omega)
        have hI := Lib.hid (itoaZ nn W3 (laid_stays HL.out HB3.out) (by omega) (by omega))
        have hIL : (intB nn).data.toList.length = (intB nn).size := by simp
        unfold IntPost at hI
        generalize intB nn = IB at *
        have m1 : ¬ 9223372036854775807 < 1 + IB.size := by omega
        have e32 : (⟨#[32]⟩ : ByteArray).size = 1 := rfl
        clear h11
        go_wp2_with fail
        refine hI.out.mono ?_
        rintro e W4 ⟨rfl, d4⟩
        have HB4 := Lib.hid (HB3.out.trans (d4.mono HB3.out.size))
        have HD4 := Lib.hid (Tryz.bldF_kept HD3.out d4)
        clear d4 c0 c1
        go_wp2_with fail
        have hsz2 : ((⟨#[32]⟩ : ByteArray) ++ IB).size ≤ 30 := by rw [ByteArray.size_append]; omega

        refine (Tryz.Builder_WriteStringK _ _ _ _ W4 HD4.out (by rw [Lib.byteCells_length]; omega) HB4.out.size).mono ?_
        rintro e W5 ⟨rfl, hA, d5, ok5⟩
        have HB5 := Lib.hid (HB4.out.trans d5)
        have HD5 : Hid (Lib.IsBuilderF 99 5 w.heap.size w.heap.size (Lib.byteCells (textV (ds.take k) ++ wordV o ++ 32 :: IB.data.toList)) W5) := Tryz.bldF_next hA (Lib.hid (by rw [sp_cons]))
        clear hA d5 ok5
        have hTX : (textV (ds.take k) ++ wordV o ++ 32 :: IB.data.toList).length ≤ 19500 := by rw [List.length_append]; simp only [List.length_cons]; omega
        go_wp2_with fail

        refine (Tryz.Builder_WriteByteK _ _ _ 10 W5 HD5.out (by rw [Lib.byteCells_length]; omega) HB5.out.size).mono ?_
        rintro e W9 ⟨rfl, hA, d9, ok9⟩
        have HB9 := HB5.out.trans d9
        have HD9 : Lib.IsBuilderF 99 5 w.heap.size w.heap.size (Lib.byteCells (textV (ds.take (k + 1)))) W9 := Tryz.bldF_byte (c := 10) hA (Lib.hid (by rw [HTS.out, hLB.out, HARG.out]; simp))
        have sz9 : w.heap.size < W9.heap.size := by
          have := HB9.size
          have h9 := ok9
          rcases HD9 with ⟨-, v, hv, -⟩ | ⟨-, v, hv, -⟩
          · exact (Array.getElem?_eq_some_iff.1 hv).1
          · exact (Array.getElem?_eq_some_iff.1 hv).1
        clear hA d9 ok9
        go_wp2
        go_roundw
        case rel => exact ⟨k + 1, by omega, by go_num, HD9, sz9, HB9⟩
        case measure => simp [intOf]; omega
      have b1 : (o == 1) = false := by simpa using h1
      have b9 : (o == 9) = false := by simpa using h9
      have b11 : (o == 11) = false := by simpa using h11
      by_cases h2 : o = 2
      · have b2 : (o == 2) = true := by simpa using h2
        have HARG : Hid (argV ⟨o, nn, s, ms⟩ = 32 :: s.data.toList) := by refine Lib.hid ?_; unfold argV; rw [if_neg (show ¬ (o = 1 ∨ o = 9 ∨ o = 11) by omega), if_pos (show o = 2 from h2)]
        have c2 : W3.cell? ⟨bx, 2, none⟩ = some (.string s) := by rw [Lib.cell_of_heap HX3.out]; rfl
        have hIL : s.data.toList.length = s.size := by simp
        have m1 : ¬ 9223372036854775807 < 1 + s.size := by omega
        have e32 : (⟨#[32]⟩ : ByteArray).size = 1 := rfl
        clear h1 h9 h11 h2
        go_wp2_with fail
        have hsz2 : ((⟨#[32]⟩ : ByteArray) ++ s).size ≤ 30 := by rw [ByteArray.size_append]; omega

        refine (Tryz.Builder_WriteStringK _ _ _ _ W3 HD3.out (by rw [Lib.byteCells_length]; omega) HB3.out.size).mono ?_
        rintro e W5 ⟨rfl, hA, d5, ok5⟩
        have HB5 := Lib.hid (HB3.out.trans d5)
        have HD5 : Hid (Lib.IsBuilderF 99 5 w.heap.size w.heap.size (Lib.byteCells (textV (ds.take k) ++ wordV o ++ 32 :: s.data.toList)) W5) := Tryz.bldF_next hA (Lib.hid (by rw [sp_cons]))
        clear hA d5 ok5
        have hTX : (textV (ds.take k) ++ wordV o ++ 32 :: s.data.toList).length ≤ 19500 := by rw [List.length_append]; simp only [List.length_cons]; omega
        go_wp2_with fail

        refine (Tryz.Builder_WriteByteK _ _ _ 10 W5 HD5.out (by rw [Lib.byteCells_length]; omega) HB5.out.size).mono ?_
        rintro e W9 ⟨rfl, hA, d9, ok9⟩
        have HB9 := HB5.out.trans d9
        have HD9 : Lib.IsBuilderF 99 5 w.heap.size w.heap.size (Lib.byteCells (textV (ds.take (k + 1)))) W9 := Tryz.bldF_byte (c := 10) hA (Lib.hid (by rw [HTS.out, hLB.out, HARG.out]; simp))
        have sz9 : w.heap.size < W9.heap.size := by
          have := HB9.size
          have h9 := ok9
          rcases HD9 with ⟨-, v, hv, -⟩ | ⟨-, v, hv, -⟩
          · exact (Array.getElem?_eq_some_iff.1 hv).1
          · exact (Array.getElem?_eq_some_iff.1 hv).1
        clear hA d9 ok9
        go_wp2
        go_roundw
        case rel => exact ⟨k + 1, by omega, by go_num, HD9, sz9, HB9⟩
        case measure => simp [intOf]; omega
      have b2 : (o == 2) = false := by simpa using h2
      by_cases h10 : o = 10
      · have b10 : (o == 10) = true := by simpa using h10
        have HARG : Hid (argV ⟨o, nn, s, ms⟩ = 32 :: marksT 32 ms) := by refine Lib.hid ?_; unfold argV; rw [if_neg (show ¬ (o = 1 ∨ o = 9 ∨ o = 11) by omega), if_neg (show ¬ o = 2 from h2), if_pos (show o = 10 from h10)]
        have hmo : MOk (mF ms) (mP ms) ms.length := HSd.out.2.2.2.1 h10
        have c3 : W3.cell? ⟨bx, 3, none⟩ = some (.slice ma ms.length mc) := by rw [Lib.cell_of_heap HX3.out]; rfl
        have hI := Lib.hid (marksI 32 ma mc ms W3 (HM.out W3 HB3.out) hmo (laid_stays HL.out HB3.out))
        have hsz := marksT_len 32 hmo
        have hMz : (⟨(marksT 32 ms).toArray⟩ : ByteArray).size = (marksT 32 ms).length := bszV _
        have HMD : Hid ((⟨(marksT 32 ms).toArray⟩ : ByteArray).data.toList = marksT 32 ms) := rfl
        generalize (⟨(marksT 32 ms).toArray⟩ : ByteArray) = MB at *
        have m1 : ¬ 9223372036854775807 < 1 + MB.size := by omega
        have e32 : (⟨#[32]⟩ : ByteArray).size = 1 := rfl
        clear h1 h9 h11 h2 h10 hmo
        go_wp2_with fail
        refine hI.out.mono ?_
        rintro e W4 ⟨rfl, d4⟩
        have HB4 := Lib.hid (HB3.out.trans (d4.mono HB3.out.size))
        have HD4 := Lib.hid (Tryz.bldF_kept HD3.out d4)
        clear d4 c0 c3
        go_wp2_with fail
        have hsz2 : ((⟨#[32]⟩ : ByteArray) ++ MB).size ≤ 240 := by rw [ByteArray.size_append]; omega

        refine (Tryz.Builder_WriteStringK _ _ _ _ W4 HD4.out (by rw [Lib.byteCells_length]; omega) HB4.out.size).mono ?_
        rintro e W5 ⟨rfl, hA, d5, ok5⟩
        have HB5 := Lib.hid (HB4.out.trans d5)
        have HD5 : Hid (Lib.IsBuilderF 99 5 w.heap.size w.heap.size (Lib.byteCells (textV (ds.take k) ++ wordV o ++ 32 :: marksT 32 ms)) W5) := Tryz.bldF_next hA (Lib.hid (by rw [sp_cons, HMD.out]))
        clear hA d5 ok5
        have hTX : (textV (ds.take k) ++ wordV o ++ 32 :: marksT 32 ms).length ≤ 19500 := by rw [List.length_append]; simp only [List.length_cons]; omega
        go_wp2_with fail

        refine (Tryz.Builder_WriteByteK _ _ _ 10 W5 HD5.out (by rw [Lib.byteCells_length]; omega) HB5.out.size).mono ?_
        rintro e W9 ⟨rfl, hA, d9, ok9⟩
        have HB9 := HB5.out.trans d9
        have HD9 : Lib.IsBuilderF 99 5 w.heap.size w.heap.size (Lib.byteCells (textV (ds.take (k + 1)))) W9 := Tryz.bldF_byte (c := 10) hA (Lib.hid (by rw [HTS.out, hLB.out, HARG.out]; simp))
        have sz9 : w.heap.size < W9.heap.size := by
          have := HB9.size
          have h9 := ok9
          rcases HD9 with ⟨-, v, hv, -⟩ | ⟨-, v, hv, -⟩
          · exact (Array.getElem?_eq_some_iff.1 hv).1
          · exact (Array.getElem?_eq_some_iff.1 hv).1
        clear hA d9 ok9
        go_wp2
        go_roundw
        case rel => exact ⟨k + 1, by omega, by go_num, HD9, sz9, HB9⟩
        case measure => simp [intOf]; omega
      have b10 : (o == 10) = false := by simpa using h10
      have HARG : Hid (argV ⟨o, nn, s, ms⟩ = []) := by refine Lib.hid ?_; unfold argV; rw [if_neg (show ¬ (o = 1 ∨ o = 9 ∨ o = 11) by omega), if_neg (show ¬ o = 2 from h2), if_neg (show ¬ o = 10 from h10)]
      clear h1 h9 h11 h2 h10
      go_wp2_with fail

      refine (Tryz.Builder_WriteByteK _ _ _ 10 W3 HD3.out (by rw [Lib.byteCells_length]; omega) HB3.out.size).mono ?_
      rintro e W9 ⟨rfl, hA, d9, ok9⟩
      have HB9 := HB3.out.trans d9
      have HD9 : Lib.IsBuilderF 99 5 w.heap.size w.heap.size (Lib.byteCells (textV (ds.take (k + 1)))) W9 := Tryz.bldF_byte (c := 10) hA (Lib.hid (by rw [HTS.out, hLB.out, HARG.out]; simp))
      have sz9 : w.heap.size < W9.heap.size := by
        have := HB9.size
        have h9 := ok9
        rcases HD9 with ⟨-, v, hv, -⟩ | ⟨-, v, hv, -⟩
        · exact (Array.getElem?_eq_some_iff.1 hv).1
        · exact (Array.getElem?_eq_some_iff.1 hv).1
      clear hA d9 ok9
      go_wp2
      go_roundw
      case rel => exact ⟨k + 1, by omega, by go_num, HD9, sz9, HB9⟩
      case measure => simp [intOf]; omega
    · obtain rfl : k = n := by omega
      have hfull : ds.take k = ds := List.take_of_length_le (by have := HN.out; omega)
      have HF := Lib.hid hfull
      clear hfull
      go_wp2_with fail
      refine (Tryz.Builder_String_any_f _ _ (textV ds) _ (by have := HBD.out; rw [HF.out] at this; exact this) HB.out.size).mono ?_
      rintro e w3 ⟨rfl, -, hb3⟩
      go_wp2
      go_ret
      exact ⟨rfl, HB.out.trans hb3⟩
end Go.Proofs.YtjhgmmcglonokaaGreatDoor

namespace Go.Proofs.YtjhgmmcglonokaaGreatDoor
open Go.RowKit
set_option linter.unusedVariables false
set_option linter.unusedSimpArgs false

theorem small_wide {d : Pl} (h : SmallP d) : d.nm.size ≤ maxLen ∧ d.ms.length ≤ 1048576 := ⟨by have := h.1; unfold maxLen; omega, h.2⟩
theorem textVB_size (ds : List Pl) : (textVB ds).size = (textV ds).length := bszV _
def OkVP (ds : List Pl) (w : World) (e : Ending) (w' : World) : Prop := e = .returned (.bool (decide (OkV ds))) ∧ Below w.heap.size w w'
theorem not_okV {ds : List Pl} (h : ¬ (1 ≤ ds.length ∧ ds.length ≤ 80)) : decide (OkV ds) = false := decide_eq_false fun k => h k.1
theorem not_okH {ds : List Pl} (h : (heightsV ds).isSome = false) : decide (OkV ds) = false := decide_eq_false fun k => by have := k.2.1; rw [h] at this; cases this
theorem okV_eq {ds : List Pl} (h1 : 1 ≤ ds.length ∧ ds.length ≤ 80) (h2 : (heightsV ds).isSome = true) : decide (OkV ds) = decide (((textVB ds).size : Int) ≤ 1600) := by
  rw [textVB_size]
  refine decide_eq_decide.2 ⟨fun k => by have := k.2.2; omega, fun k => ⟨h1, h2, by omega⟩⟩
theorem retBV {a b : Bool} (h : a = b) : Ending.returned (.bool a) = .returned (.bool b) := by rw [h]
theorem some_sm {ds : List Pl} (h80 : ds.length ≤ 80) (h : (heightsV ds).isSome = true) : ∀ d ∈ ds, SmV d := by
  obtain ⟨hs, e⟩ := Option.isSome_iff_exists.1 h
  exact allV_sm (by omega) (heightsV_all e)
set_option maxHeartbeats 8000000 in
theorem specVmOk (a : Option Addr) (n cap : Nat) (ds : List Pl) (w : World) (h : PlsN All w a n ds) (hsm : ∀ d ∈ ds, SmallP d) (hl : n ≤ 1048576) :
    Calls Tryz.prog 18 #[.slice a n cap] w (OkVP ds w) := by
  have H := Lib.hid h
  have HSM := Lib.hid hsm
  have HN : Hid (n = ds.length) := h.1
  have hIn := Lib.hid (fun W => specInZ (n : Int) 1 80 W)
  clear h hsm
  unfold OkVP
  by_cases hin : 1 ≤ n ∧ n ≤ 80
  · have e1 : (decide ((1 : Int) ≤ (n : Int)) && decide ((n : Int) ≤ 80)) = true := by simp; omega
    rw [e1] at hIn
    have hH := Lib.hid (specHeights a n cap ds w H.out HSM.out hin.1 hin.2)
    clear e1
    go_enter Tryz.func18, Tryz.ntmps18
    go_wp2_with fail
    refine (hIn.out _).mono ?_
    rintro e w1 ⟨rfl, rfl⟩
    go_wp2_with fail
    refine hH.out.mono ?_
    rintro e w1 ⟨b, v, rfl, hb, -, d1⟩
    have HB1 := Lib.hid d1
    clear d1
    cases b with
    | false =>
      have HF := Lib.hid (not_okH hb.out.symm)
      go_wp2
      go_ret
      exact ⟨retBV HF.out.symm, HB1.out⟩
    | true =>
      have HSV := Lib.hid (some_sm (ds := ds) (by have := HN.out; omega) hb.out.symm)
      have HE := Lib.hid (okV_eq (ds := ds) (by have := HN.out; omega) hb.out.symm)
      have hT := Lib.hid (specTextV a n cap ds w1 (H.out.kept (same_of_below HB1.out)) HSV.out hin.2)
      have hz : (textVB ds).size ≤ 19200 := by
        have := textV_len HSV.out
        rw [textVB_size]
        have := HN.out
        omega
      unfold TextVP at hT
      generalize hTB : textVB ds = TB at *
      clear hTB
      go_wp2_with fail
      refine hT.out.mono ?_
      rintro e w2 ⟨rfl, d2⟩
      have HB2 := Lib.hid (HB1.out.trans (d2.mono HB1.out.size))
      clear d2
      rcases Nat.lt_or_ge 1600 TB.size with c | c
      · have g1 : decide ((TB.size : Int) ≤ 1600) = false := decide_eq_false (by omega)
        have g2 : decide (TB.size ≤ 1600) = false := decide_eq_false (by omega)
        go_wp2
        go_ret
        exact ⟨retBV (by rw [HE.out, g1]), HB2.out⟩
      · have g1 : decide ((TB.size : Int) ≤ 1600) = true := decide_eq_true (by omega)
        have g2 : decide (TB.size ≤ 1600) = true := decide_eq_true (by omega)
        go_wp2
        go_ret
        exact ⟨retBV (by rw [HE.out, g1]), HB2.out⟩
  · have e1 : (decide ((1 : Int) ≤ (n : Int)) && decide ((n : Int) ≤ 80)) = false := by
      rw [Bool.and_eq_false_iff, decide_eq_false_iff_not, decide_eq_false_iff_not]; omega
    rw [e1] at hIn
    have HF := Lib.hid (not_okV (ds := ds) (by have := HN.out; omega))
    clear hin e1
    go_enter Tryz.func18, Tryz.ntmps18
    go_wp2_with fail
    refine (hIn.out _).mono ?_
    rintro e w1 ⟨rfl, rfl⟩
    go_wp2
    go_ret
    exact ⟨retBV HF.out.symm, Below.refl _ _⟩
def DeepP (ds : List Pl) (w : World) (e : Ending) (w' : World) : Prop := e = .returned (.int .i64 (deepV ds)) ∧ Below w.heap.size w w'
def DeepIP (ds : List Pl) (w : World) (e : Ending) (w' : World) : Prop := e = .returned (.tuple #[.int .i64 (deepV ds), .bool (decide (OkV ds))]) ∧ Below w.heap.size w w'
theorem DeepIP.fail {ds : List Pl} {w w' : World} (h : decide (OkV ds) = false) (hB : Below w.heap.size w w') : DeepIP ds w (.returned (.tuple #[.int .i64 0, .bool false])) w' := by
  refine ⟨?_, hB⟩
  have : deepV ds = 0 := by unfold deepV; rw [if_neg (by simpa using h)]
  rw [h, this]
set_option maxRecDepth 20000 in
set_option maxHeartbeats 16000000 in
theorem implDeep (a : Option Addr) (n cap : Nat) (ds : List Pl) (w : World) (h : PlsN All w a n ds) (hsm : ∀ d ∈ ds, SmallP d) (hl : n ≤ 1048576) (hL : Laid w) :
    Calls Tryz.prog 49 #[.slice a n cap] w (DeepIP ds w) := by
  have H := Lib.hid h
  have HSM := Lib.hid hsm
  have HN : Hid (n = ds.length) := h.1
  have HL := Lib.hid hL
  clear h hsm hL
  rcases Nat.lt_or_ge n 1 with l0 | l0
  · have HF := Lib.hid (not_okV (ds := ds) (by have := HN.out; omega))
    go_enter Tryz.func49, Tryz.ntmps49
    go_wp2
    go_ret2
    exact DeepIP.fail HF.out (Below.refl _ _)
  rcases Nat.lt_or_ge 80 n with l8 | l8
  · have HF := Lib.hid (not_okV (ds := ds) (by have := HN.out; omega))
    go_enter Tryz.func49, Tryz.ntmps49
    go_wp2
    go_ret2
    exact DeepIP.fail HF.out (Below.refl _ _)
  go_enter Tryz.func49, Tryz.ntmps49
  go_wp2_with fail
  go_loopw [18] (fun vi wr => ∃ k : Nat, k ≤ n ∧ vi = .int .i64 k ∧ Hid (∀ j, (hj : j < ds.length) → j < k → (1 ≤ ds[j].op ∧ ds[j].op ≤ 11) ∧ HoldsV ds[j].op ds[j].num ((n : Int) - j - 1) ds[j].nm ds[j].ms) ∧ Below w.heap.size w wr) (fun vi _ => n - (intOf vi).toNat)
  case atStart => exact ⟨0, Nat.zero_le _, rfl, fun j _ hj => absurd hj (Nat.not_lt_zero _), Below.refl _ _⟩
  case round =>
    obtain ⟨k, hk, rfl, hall, hb⟩ := hrel
    have HB := Lib.hid hb
    clear hb
    rcases Nat.lt_or_ge k n with hlt | hge
    · have hkl : k < ds.length := by have := HN.out; omega
      have k1 : (k : Int) < n := by omega
      have k0 : (0 : Int) ≤ k := by omega
      have em1 : IntKind.i64.wrap ((n : Int) - k) = (n : Int) - k := IntWalk.i64_in _ (by omega)
      have em2 : IntKind.i64.wrap ((n : Int) - k - 1) = (n : Int) - k - 1 := IntWalk.i64_in _ (by omega)
      have hsmk := small_wide (HSM.out ds[k] (List.getElem_mem _))
      have HLST : Hid (¬ ((1 ≤ ds[k].op ∧ ds[k].op ≤ 11) ∧ HoldsV ds[k].op ds[k].num ((n : Int) - k - 1) ds[k].nm ds[k].ms) → decide (OkV ds) = false) := fun hno => by
        refine decide_eq_false fun hok => hno ?_
        have := allV_get (okV_all hok) k hkl
        rw [← HN.out, Nat.zero_add] at this
        exact this
      have HNXT : Hid (((1 ≤ ds[k].op ∧ ds[k].op ≤ 11) ∧ HoldsV ds[k].op ds[k].num ((n : Int) - k - 1) ds[k].nm ds[k].ms) → ∀ j, (hj : j < ds.length) → j < k + 1 → (1 ≤ ds[j].op ∧ ds[j].op ≤ 11) ∧ HoldsV ds[j].op ds[j].num ((n : Int) - j - 1) ds[j].nm ds[j].ms) := fun hy j hj hjk => by
        by_cases e : j = k
        · subst e; exact hy
        · exact hall.out j hj (by omega)
      obtain ⟨b, off, rfl, -, hbl, hrow⟩ := (H.out.kept (same_of_below (N := All) HB.out)).cells (by omega)
      obtain ⟨f, hcf, ht⟩ := hrow k hkl
      obtain ⟨e1, e2, e3, hm, hc2⟩ := ht
      generalize hd : ds[k] = d at *
      obtain ⟨o, nn, s, ms⟩ := d
      obtain ⟨fo, fn, fs, ma, ml, mc⟩ := f
      dsimp only at e1 e2 e3 hm hc2 hsmk HLST HNXT
      have q1 := e1.symm
      have q2 := e2.symm
      have q3 := e3.symm
      clear e1 e2 e3
      subst q1 q2 q3
      obtain rfl := hm.1
      have hWA : Below wr.heap.size wr (wr.alloc (.cells #[.int .i64 o, .int .i64 nn, .string s, .slice ma ms.length mc] 48)) := (Below.refl _ _).alloc (Nat.le_refl _) _
      have hX : (wr.alloc (.cells #[.int .i64 o, .int .i64 nn, .string s, .slice ma ms.length mc] 48)).heap[wr.heap.size]? = some (.cells #[.int .i64 o, .int .i64 nn, .string s, .slice ma ms.length mc] 48 (0, 0)) := heap_alloc_new wr _
      have HX := Lib.hid hX
      have HB1 := Lib.hid (HB.out.trans (hWA.mono HB.out.size))
      have hcall := Lib.hid (vmHoldsI o nn s ma mc ms ((n : Int) - k - 1) (wr.alloc (.cells #[.int .i64 o, .int .i64 nn, .string s, .slice ma ms.length mc] 48)) hsmk.1 (hm.kept (same_of_below hWA)) hsmk.2)
      obtain ⟨y0, y1, y2, y3⟩ := hcf
      dsimp only at y0 y1 y2 y3
      clear hrow hm hc2 hd hbl hsmk hWA hX
      go_upto_region 6 with fail
      clear y0 y1 y2 y3
      generalize (wr.alloc (.cells #[.int .i64 o, .int .i64 nn, .string s, .slice ma ms.length mc] 48)) = W1 at *
      generalize wr.heap.size = bx at *
      have x0 : W1.cell? ⟨bx, 0, none⟩ = some (.int .i64 o) := by rw [Lib.cell_of_heap HX.out]; rfl
      have x1 : W1.cell? ⟨bx, 1, none⟩ = some (.int .i64 nn) := by rw [Lib.cell_of_heap HX.out]; rfl
      have x2 : W1.cell? ⟨bx, 2, none⟩ = some (.string s) := by rw [Lib.cell_of_heap HX.out]; rfl
      have x3 : W1.cell? ⟨bx, 3, none⟩ = some (.slice ma ms.length mc) := by rw [Lib.cell_of_heap HX.out]; rfl
      go_wp2_with fail
      refine hcall.out.mono ?_
      rintro e W2 ⟨bb, rfl, hbb, d2⟩
      have HB2 := Lib.hid (HB1.out.trans (d2.mono HB1.out.size))
      clear d2 x0 x1 x2 x3
      cases bb with
      | false =>
        have HF := Lib.hid (HLST.out (fun hh => by have := hbb.out.2 hh; cases this))
        go_wp2
        go_ret2
        exact DeepIP.fail HF.out HB2.out
      | true =>
        have HA := Lib.hid (HNXT.out (hbb.out.1 rfl))
        go_wp2_with fail
        go_roundw
        case rel => exact ⟨k + 1, by omega, by go_num, HA, HB2.out⟩
        case measure => simp [intOf]; omega
    · obtain rfl : k = n := by omega
      have HALL : Hid (AllV k 0 ds) := allV_of (fun j hj => by rw [Nat.zero_add]; exact hall.out j hj (by have := HN.out; omega))
      have HSV := Lib.hid (allV_sm (by omega) HALL.out)
      have hW := Lib.hid (vmWaysI a k cap ds wr (H.out.kept (same_of_below HB.out)) HSM.out HALL.out l0 l8)
      go_wp2_with fail
      refine hW.out.mono ?_
      rintro e w1 ⟨b, x, rfl, hb, hx, d1⟩
      have HB1 := Lib.hid (HB.out.trans (d1.mono HB.out.size))
      clear d1 hall
      cases b with
      | false =>
        have HF := Lib.hid (not_okH hb.out.symm)
        go_wp2
        go_ret2
        exact DeepIP.fail HF.out HB1.out
      | true =>
        have HE := Lib.hid (okV_eq (ds := ds) (by have := HN.out; omega) hb.out.symm)
        have hT := Lib.hid (vmTextIC a k cap ds w1 (H.out.kept (same_of_below HB1.out)) HSV.out (laid_stays HL.out HB1.out) l8)
        have hz : (textVB ds).size ≤ 19200 := by
          have := textV_len HSV.out
          rw [textVB_size]
          have := HN.out
          omega
        have HDV : Hid (OkV ds → deepV ds = x) := fun hok => by
          obtain ⟨hs, hhs⟩ := Option.isSome_iff_exists.1 hok.2.1
          unfold deepV
          rw [if_pos hok, hhs, hx.out hs hhs]; rfl
        unfold TextVP at hT
        generalize hTB : textVB ds = TB at *
        clear hTB
        go_wp2_with fail
        refine hT.out.mono ?_
        rintro e w2 ⟨rfl, d2⟩
        have HB2 := Lib.hid (HB1.out.trans (d2.mono HB1.out.size))
        clear d2
        rcases Nat.lt_or_ge 1600 TB.size with c | c
        · have g1 : decide ((1600 : Int) < (TB.size : Int)) = true := decide_eq_true (by omega)
          have g2 : decide (1600 < TB.size) = true := decide_eq_true (by omega)
          have HF : Hid (decide (OkV ds) = false) := by refine Lib.hid ?_; rw [HE.out]; exact decide_eq_false (by omega)
          go_wp2
          go_ret2
          exact DeepIP.fail HF.out HB2.out
        · have g1 : decide ((1600 : Int) < (TB.size : Int)) = false := decide_eq_false (by omega)
          have g2 : decide (1600 < TB.size) = false := decide_eq_false (by omega)
          have HF : Hid (decide (OkV ds) = true) := by refine Lib.hid ?_; rw [HE.out]; exact decide_eq_true (by omega)
          have HD := Lib.hid (HDV.out (by simpa using HF.out))
          go_wp2
          go_ret2
          refine ⟨?_, HB2.out⟩
          rw [HD.out, HF.out]; rfl
set_option maxHeartbeats 4000000 in
theorem implVmOk (a : Option Addr) (n cap : Nat) (ds : List Pl) (w : World) (h : PlsN All w a n ds) (hsm : ∀ d ∈ ds, SmallP d) (hl : n ≤ 1048576) (hL : Laid w) :
    Calls Tryz.prog 17 #[.slice a n cap] w (OkVP ds w) := by
  have hD := Lib.hid (implDeep a n cap ds w h hsm hl hL)
  unfold DeepIP at hD
  unfold OkVP
  clear h hsm hL
  generalize decide (OkV ds) = b at *
  generalize deepV ds = x at *
  go_enter Tryz.func17, Tryz.ntmps17
  go_wp2_with fail
  refine hD.out.mono ?_
  rintro e w1 ⟨rfl, d1⟩
  go_wp2
  go_ret
  exact ⟨rfl, d1⟩
def writeV (ds : List Pl) : ByteArray := if OkV ds then textVB ds else ⟨#[]⟩
def WriteVP (ds : List Pl) (w : World) (e : Ending) (w' : World) : Prop := e = .returned (.string (writeV ds)) ∧ Below w.heap.size w w'
set_option maxHeartbeats 4000000 in
theorem specVmWrite (a : Option Addr) (n cap : Nat) (ds : List Pl) (w : World) (h : PlsN All w a n ds) (hsm : ∀ d ∈ ds, SmallP d) (hl : n ≤ 1048576) :
    Calls Tryz.prog 16 #[.slice a n cap] w (WriteVP ds w) := by
  have H := Lib.hid h
  have HN : Hid (n = ds.length) := h.1
  have hO := Lib.hid (specVmOk a n cap ds w h hsm hl)
  unfold OkVP at hO
  unfold WriteVP
  clear h hsm
  cases hok : decide (OkV ds) with
  | false =>
    rw [hok] at hO
    have HF : Hid (writeV ds = ⟨#[]⟩) := by refine Lib.hid ?_; unfold writeV; rw [if_neg (by simpa using hok)]
    clear hok
    go_enter Tryz.func16, Tryz.ntmps16
    go_wp2_with fail
    refine hO.out.mono ?_
    rintro e w1 ⟨rfl, d1⟩
    go_wp2
    go_ret
    exact ⟨retS HF.out.symm, d1⟩
  | true =>
    rw [hok] at hO
    have hOK : OkV ds := by simpa using hok
    have HF : Hid (writeV ds = textVB ds) := by refine Lib.hid ?_; unfold writeV; rw [if_pos hOK]
    have HSV := Lib.hid (okV_sm hOK)
    have h80 : n ≤ 80 := by have := hOK.1; have := HN.out; omega
    clear hok hOK
    go_enter Tryz.func16, Tryz.ntmps16
    go_wp2_with fail
    refine hO.out.mono ?_
    rintro e w1 ⟨rfl, d1⟩
    have HB1 := Lib.hid d1
    clear d1
    have hT := Lib.hid (specTextV a n cap ds w1 (H.out.kept (same_of_below HB1.out)) HSV.out h80)
    unfold TextVP at hT
    go_wp2_with fail
    refine hT.out.mono ?_
    rintro e w2 ⟨rfl, d2⟩
    go_wp2
    go_ret
    exact ⟨retS HF.out.symm, HB1.out.trans (d2.mono HB1.out.size)⟩
set_option maxHeartbeats 4000000 in
theorem implVmWrite (a : Option Addr) (n cap : Nat) (ds : List Pl) (w : World) (h : PlsN All w a n ds) (hsm : ∀ d ∈ ds, SmallP d) (hl : n ≤ 1048576) (hL : Laid w) :
    Calls Tryz.prog 14 #[.slice a n cap] w (WriteVP ds w) := by
  have H := Lib.hid h
  have HL := Lib.hid hL
  have HN : Hid (n = ds.length) := h.1
  have hO := Lib.hid (implVmOk a n cap ds w h hsm hl hL)
  unfold OkVP at hO
  unfold WriteVP
  clear h hsm hL
  cases hok : decide (OkV ds) with
  | false =>
    rw [hok] at hO
    have HF : Hid (writeV ds = ⟨#[]⟩) := by refine Lib.hid ?_; unfold writeV; rw [if_neg (by simpa using hok)]
    clear hok
    go_enter Tryz.func14, Tryz.ntmps14
    go_wp2_with fail
    refine hO.out.mono ?_
    rintro e w1 ⟨rfl, d1⟩
    go_wp2
    go_ret
    exact ⟨retS HF.out.symm, d1⟩
  | true =>
    rw [hok] at hO
    have hOK : OkV ds := by simpa using hok
    have HF : Hid (writeV ds = textVB ds) := by refine Lib.hid ?_; unfold writeV; rw [if_pos hOK]
    have HSV := Lib.hid (okV_sm hOK)
    have h80 : n ≤ 80 := by have := hOK.1; have := HN.out; omega
    clear hok hOK
    go_enter Tryz.func14, Tryz.ntmps14
    go_wp2_with fail
    refine hO.out.mono ?_
    rintro e w1 ⟨rfl, d1⟩
    have HB1 := Lib.hid d1
    clear d1
    have hT := Lib.hid (vmTextIC a n cap ds w1 (H.out.kept (same_of_below HB1.out)) HSV.out (laid_stays HL.out HB1.out) h80)
    unfold TextVP at hT
    go_wp2_with fail
    refine hT.out.mono ?_
    rintro e w2 ⟨rfl, d2⟩
    go_wp2
    go_ret
    exact ⟨retS HF.out.symm, HB1.out.trans (d2.mono HB1.out.size)⟩
end Go.Proofs.YtjhgmmcglonokaaGreatDoor

namespace Go.Proofs.YtjhgmmcglonokaaGreatDoor
open Go.RowKit
set_option linter.unusedVariables false
set_option linter.unusedSimpArgs false

def okR (t : Tr) : Prop := 0 ≤ partsT t 1 30 ∧ (textT t).length ≤ 300
instance (t : Tr) : Decidable (okR t) := by unfold okR; infer_instance
theorem okR_P {t : Tr} (h : 0 ≤ partsT t 1 30) : OkP t := ⟨1, 30, Int.le_refl _, h⟩
def RBox (f : Fld) : Obj := .cells #[.int .i64 f.op, .int .i64 f.num, .string f.name, .slice f.ka f.kl f.kc, .slice f.ma f.ml f.mc] 37
set_option maxHeartbeats 4000000 in
theorem specRuleOk {t : Tr} {f : Fld} {w : World} (h : TrF All w t f) (hs : szT t ≤ 1048576) :
    Calls Tryz.prog 30 #[f.val] w fun e w' => e = .returned (.bool (decide (okR t))) ∧ Below w.heap.size w w' := by
  have hA : Below w.heap.size w (w.alloc (RBox f)) := (Below.refl _ _).alloc (Nat.le_refl _) _
  have hArg : (w.alloc (RBox f)).heap[w.heap.size]? = some (RBox f) := heap_alloc_new w _
  have hP := Lib.hid (partsC _ t (Nat.le_refl _) hs f 1 30 _ (h.kept (same_of_below hA)) (by omega) (by omega) (by omega))
  have H := Lib.hid h
  have HA := Lib.hid hA
  have HS := Lib.hid hs
  clear h hA hs
  unfold Fld.val
  generalize hpv : partsT t 1 30 = pv at *
  have HPV := Lib.hid hpv
  clear hpv
  rcases Int.lt_or_le pv 0 with c | c
  · have z0 : decide (0 ≤ pv) = false := decide_eq_false (by omega)
    have hno : Hid (decide (okR t) = false) := decide_eq_false (fun k => by have := k.1; rw [HPV.out] at this; omega)
    go_enter Tryz.func30, Tryz.ntmps30
    go_wp2_with fail
    refine hP.out.mono ?_
    rintro e w1 ⟨rfl, d1⟩
    go_wp2
    go_ret
    exact ⟨retB hno.out.symm, HA.out.trans (d1.mono HA.out.size)⟩
  · have z0 : decide (0 ≤ pv) = true := decide_eq_true c
    have hok : Hid (OkP t) := okR_P (by rw [HPV.out]; exact c)
    have HArg := Lib.hid hArg
    have hTL := textT_len _ t (Nat.le_refl _) hok.out
    have hTW := okP_w hok.out
    have hTZ : (textB t).size ≤ 7200 := by rw [textB_size]; omega
    have HE : Hid (decide (okR t) = decide (((textB t).size : Int) ≤ 300)) := by
      show _ = _
      rw [textB_size]
      refine decide_eq_decide.2 ⟨fun k => by have := k.2; omega, fun k => ⟨by rw [HPV.out]; exact c, by omega⟩⟩
    clear hArg hTL hTW
    go_enter Tryz.func30, Tryz.ntmps30
    go_wp2_with fail
    refine hP.out.mono ?_
    rintro e w1 ⟨rfl, d1⟩
    have arg1 := (d1.block _ (by simp)).trans HArg.out
    have hB1 := Lib.hid (HA.out.trans (d1.mono HA.out.size))
    unfold RBox at arg1
    have y0 : w1.cell? ⟨w.heap.size, 0, none⟩ = some (.int .i64 f.op) := by rw [Lib.cell_of_heap arg1]; rfl
    have y1 : w1.cell? ⟨w.heap.size, 1, none⟩ = some (.int .i64 f.num) := by rw [Lib.cell_of_heap arg1]; rfl
    have y2 : w1.cell? ⟨w.heap.size, 2, none⟩ = some (.string f.name) := by rw [Lib.cell_of_heap arg1]; rfl
    have y3 : w1.cell? ⟨w.heap.size, 3, none⟩ = some (.slice f.ka f.kl f.kc) := by rw [Lib.cell_of_heap arg1]; rfl
    have y4 : w1.cell? ⟨w.heap.size, 4, none⟩ = some (.slice f.ma f.ml f.mc) := by rw [Lib.cell_of_heap arg1]; rfl
    have hT := Lib.hid (textC _ t (Nat.le_refl _) f w1 (H.out.kept (same_of_below hB1.out)) hok.out)
    clear arg1 d1
    go_wp2_with fail
    refine hT.out.mono ?_
    rintro e w2 ⟨rfl, d2⟩
    go_wp2
    go_ret
    refine ⟨retB ?_, hB1.out.trans (d2.mono hB1.out.size)⟩
    rw [HE.out]
end Go.Proofs.YtjhgmmcglonokaaGreatDoor
