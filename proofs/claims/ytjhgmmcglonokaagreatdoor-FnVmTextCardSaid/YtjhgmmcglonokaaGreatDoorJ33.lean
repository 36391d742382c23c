/-
  The program of a rule: the model's answer.
  The program of a rule, if that is ok: the model's answer.
  The program of a rule: the program's answer.
  The program of a rule, if that is ok: the program's answer.
  How much fuel a rule needs: the model's answer and the program's.
  What a rule says by names' numbers and fuel: the mathematical answer.
  What the model does to numbers: two, a product, a part, a name's number, tiers; its fuel.
  What the model says of a rule: fuel in memory, the kids one behind the other.
-/
import Derived.Test.YtjhgmmcglonokaaGreatDoorJ27
import Derived.Test.YtjhgmmcglonokaaGreatDoorJ15
import Derived.Test.YtjhgmmcglonokaaGreatDoorJ32
import Derived.OwnWalk
import Derived.Test.YtjhgmmcglonokaaGreatDoorJ26
import Derived.Deep.CutRange
import Derived.Test.YtjhgmmcglonokaaGreatDoorJ1
import Derived.Test.YtjhgmmcglonokaaGreatDoorJ18
import Derived.Deep.RegionWith
import Derived.Lib.QuietBelow
import Derived.Deep.AppendLies
import Derived.Deep.Cut
namespace Go.Proofs.YtjhgmmcglonokaaGreatDoor
open Go.RowKit
set_option linter.unusedVariables false
set_option linter.unusedSimpArgs false
def SMS (a : Option Addr) (k c bx gw : Nat) (o n : Int) (s : ByteArray) (ma : Option Addr) (mc : Nat) (ms : List (Int × Int)) (i : Nat) (W : World) (v : Value) : Prop := match i with
  | 0 => v = .slice a k c
  | 1 => v = .pointer (some ⟨bx, 0, none⟩)
  | 2 => v = .int .i64 o
  | 3 => v = .pointer (some ⟨bx, 1, none⟩)
  | 4 => v = .int .i64 n
  | 5 => v = .pointer (some ⟨bx, 2, none⟩)
  | 6 => v = .string s
  | 7 => ∃ ge : Nat, v = .slice (some ⟨ge, 0, none⟩) 0 0 ∧ W.ownsRow gw tK 2 v 0 []
  | 8 => v = .pointer (some ⟨bx, 4, none⟩)
  | 9 => v = .slice ma ms.length mc
  | 10 => ∃ (a1 : Option Addr) (c1 : Nat), v = .slice a1 ms.length c1 ∧ W.ownsRow gw tK 2 v ms.length (rowsM ms)
  | 11 => ∃ f : FI, v = f.val ∧ PlO gw W ⟨o, n, s, ms⟩ f
  | 12 => ∃ (f : FI) (gx : Nat), v = .slice (some ⟨gx, 0, none⟩) 1 1 ∧ W.heap[gx]? = some (.cells #[.int .i64 f.op, .int .i64 f.num, .string f.name, .slice f.ma f.ml f.mc] tI (0, 0)) ∧ PlO gw W ⟨o, n, s, ms⟩ f
  | _ => True
theorem SMS.kept {a : Option Addr} {k c bx gw : Nat} {o n : Int} {s : ByteArray} {ma : Option Addr} {mc : Nat} {ms : List (Int × Int)} {i : Nat} {W W' : World} {v : Value} (h : SMS a k c bx gw o n s ma mc ms i W v) (hb : Below W.heap.size W W') : SMS a k c bx gw o n s ma mc ms i W' v := by
  match i, h with
  | 0, h | 1, h | 2, h | 3, h | 4, h | 5, h | 6, h | 8, h | 9, h => exact h
  | 7, ⟨ge, h1, h2⟩ => exact ⟨ge, h1, h2.kept (row := none) (below_grownM hb) (Classical.em _)⟩
  | 10, ⟨a1, c1, h1, h2⟩ => exact ⟨a1, c1, h1, h2.kept (row := none) (below_grownM hb) (Classical.em _)⟩
  | 11, ⟨f, h1, h2⟩ => exact ⟨f, h1, h2.below hb⟩
  | 12, ⟨f, gx, h1, h2, h3⟩ => exact ⟨f, gx, h1, (hb.block gx (Array.getElem?_eq_some_iff.1 h2).1).trans h2, h3.below hb⟩
  | n + 13, _ => exact True.intro

def MakeAtS (t : Tr) : Prop := ∀ (f : Fld) (w : World), TrF All w t f → OkP t → Calls Tryz.prog 108 #[f.val] w (MakeP t w)
set_option maxRecDepth 100000 in
set_option maxHeartbeats 32000000 in
theorem makeSN (o n : Int) (s : ByteArray) (ks : List Tr) (ms : List (Int × Int)) (ih : ∀ t ∈ ks, MakeAtS t) : MakeAtS (.node o n s ks ms) := by
  intro f w h hok
  obtain ⟨ii0, hi, hz0, hz1, hz2⟩ := info_parts infoIns
  obtain ⟨im0, hmi, hmz0, hmz1, hmz2⟩ := info_parts infoMark
  obtain ⟨e1, e2, e3, hm, hk, hc1, hc2⟩ := trF_iff.1 h
  obtain ⟨fo, fn, fs, ka, kl, kc, ma, ml, mc⟩ := f
  dsimp only at e1 e2 e3 hm hk hc1 hc2
  have q1 := e1.symm
  have q2 := e2.symm
  have q3 := e3.symm
  clear e1 e2 e3
  subst q1 q2 q3
  obtain rfl := hk.1
  obtain rfl := hm.1
  obtain ⟨hpl, hoks⟩ := okP_parts hok
  have hw29 : wL ks ≤ 29 := by have := okP_w hok; rw [wT] at this; omega
  have HK := Lib.hid hk
  have HM0 := Lib.hid hm
  have IH := Lib.hid ih
  have HPL := Lib.hid hpl
  have HOK := Lib.hid hoks
  have HKC := Lib.hid hc1
  have hmb : ms.length ≤ 5 := by
    have h3 := HPL.out.2
    unfold HoldsN at h3
    split at h3
    · omega
    split at h3
    · omega
    split at h3
    · exact (mok_mem h3.2.2).1
    · omega
  have hkb : ks.length ≤ 29 := by have := len_wL ks; omega
  clear h hk hm ih hc1 hc2 hpl hoks hok
  unfold Fld.val
  dsimp only
  have hA : Below w.heap.size w (w.alloc (.cells #[.int .i64 o, .int .i64 n, .string s, .slice ka ks.length kc, .slice ma ms.length mc] 37)) := (Below.refl _ _).alloc (Nat.le_refl _) _
  have hArg : (w.alloc (.cells #[.int .i64 o, .int .i64 n, .string s, .slice ka ks.length kc, .slice ma ms.length mc] 37)).heap[w.heap.size]? = some (.cells #[.int .i64 o, .int .i64 n, .string s, .slice ka ks.length kc, .slice ma ms.length mc] 37 (0, 0)) := heap_alloc_new w _
  have HA := Lib.hid hA
  have HArg := Lib.hid hArg
  clear hA hArg
  by_cases h9 : o = 9
  · have HO9 := Lib.hid h9
    have hk4 : ks.length = 4 := by have := HPL.out.1; rw [h9] at this; unfold kidsN at this; simp at this; omega
    have HK4 := Lib.hid hk4
    have b9 : (o == 9) = true := by simpa using h9
    have b9' : (o != 9) = false := by simpa using h9
    clear h9 hk4
    go_enter Tryz.func108, Tryz.ntmps108
    have hB0 : Hid (Below w.heap.size w ((w.alloc (.cells #[.int .i64 o, .int .i64 n, .string s, .slice ka ks.length kc, .slice ma ms.length mc] 37)).alloc (.cells #[] 48))) := HA.out.alloc (by simp only [World.size_alloc]; omega) _
    have hC0 : Hid (CodeO w.heap.size ((w.alloc (.cells #[.int .i64 o, .int .i64 n, .string s, .slice ka ks.length kc, .slice ma ms.length mc] 37)).alloc (.cells #[] 48)) (.slice (some ⟨w.heap.size + 1, 0, none⟩) 0 0) []) := by
      have := CodeO.made (B := w.heap.size) (w := (w.alloc (.cells #[.int .i64 o, .int .i64 n, .string s, .slice ka ks.length kc, .slice ma ms.length mc] 37))) (by simp only [World.size_alloc]; omega)
      rw [World.size_alloc] at this
      exact this
    have HX0 : Hid (((w.alloc (.cells #[.int .i64 o, .int .i64 n, .string s, .slice ka ks.length kc, .slice ma ms.length mc] 37)).alloc (.cells #[] 48)).heap[w.heap.size]? = some (.cells #[.int .i64 o, .int .i64 n, .string s, .slice ka ks.length kc, .slice ma ms.length mc] 37 (0, 0))) := by
      refine Lib.hid ?_
      rw [Lib.alloc_old _ _ _ (by simp only [World.size_alloc]; omega)]
      exact HArg.out
    go_wp2_with fail
    generalize ((w.alloc (.cells #[.int .i64 o, .int .i64 n, .string s, .slice ka ks.length kc, .slice ma ms.length mc] 37)).alloc (.cells #[] 48)) = W0 at *
    obtain ⟨a0, ha0⟩ : ∃ a0 : Option Addr, a0 = some ⟨w.heap.size + 1, 0, none⟩ := ⟨_, rfl⟩
    rw [← ha0] at hC0 ⊢
    clear ha0 HArg HA
    have HXL : Hid (w.heap.size < W0.heap.size) := (Array.getElem?_eq_some_iff.1 HX0.out).1
    go_loopw [3, 5] (fun vl vi wr => ∃ (k c : Nat) (a : Option Addr), k ≤ 2 ∧ vi = .int .i64 k ∧ vl = .slice a ((ks.take k).map codeT).flatten.length c ∧ Hid (CodeO w.heap.size wr (.slice a ((ks.take k).map codeT).flatten.length c) ((ks.take k).map codeT).flatten) ∧ Hid (wr.heap[w.heap.size]? = some (.cells #[.int .i64 o, .int .i64 n, .string s, .slice ka ks.length kc, .slice ma ms.length mc] 37 (0, 0))) ∧ Below w.heap.size w wr) (fun _ vi _ => 2 - (intOf vi).toNat)
    case atStart => exact ⟨0, 0, _, Nat.zero_le _, rfl, rfl, hC0, HX0, hB0.out⟩
    case round =>
      obtain ⟨k, c, a, hk, rfl, rfl, hC, HX, hb⟩ := hrel
      clear hC0 HX0 hB0
      have hfl := flat_le codeT (ks.take k) 0 (fun t ht => codeT_len (HOK.out t (List.mem_of_mem_take ht)))
      have hfl2 := wL_take ks k
      rcases Nat.lt_or_ge k 2 with hlt | hge
      · have hkl : k < ks.length := by have := HK4.out; omega
        have k1 : (k : Int) < ks.length := by omega
        have k2 : (k : Int) < 2 := by omega
        have k0 : (0 : Int) ≤ k := by omega
        obtain ⟨b, off, rfl, -, hbl, hrow⟩ := (HK.out.kept (same_of_below (N := All) hb)).cells (by omega)
        obtain ⟨f, ⟨y0, y1, y2, y3, y4⟩, ht⟩ := hrow k hkl
        have ca : wr.cell? ⟨w.heap.size, 3, none⟩ = some (Value.slice (some ⟨b, off, none⟩) ks.length kc) := by rw [Lib.cell_of_heap HX.out]; rfl
        have hcall := Lib.hid (IH.out ks[k] (List.getElem_mem _) f wr ht (HOK.out _ (List.getElem_mem _)))
        have HSN := Lib.hid (codes_snoc hkl)
        have hcl := codeT_len (HOK.out _ (List.getElem_mem hkl))
        have hcw := wL_mem (List.getElem_mem hkl)
        have hcp := codeT_pos ks[k]
        have HB := Lib.hid hb
        have hzr := hb.size
        unfold Fld.val MakeP at hcall
        generalize ((ks.take k).map codeT).flatten = DS at *
        generalize codeT ks[k] = CT at *
        generalize ks[k] = tk at *
        clear hrow ht hbl hb
        obtain ⟨FS, hCF⟩ := hC.out
        have HCF := Lib.hid hCF
        clear hCF hC
        go_wp2_with fail
        refine hcall.out.mono ?_
        rintro e w2 ⟨a', n', c', rfl, rfl, hC', d2⟩
        obtain ⟨FS', hCF'⟩ := hC'
        obtain ⟨g', cap', e1, hbg, -⟩ := hCF'.1.form (by omega)
        injection e1 with e1 _ e3
        subst e1 e3
        have HCF' := Lib.hid hCF'
        have HD2 := Lib.hid d2
        have HB2 := Lib.hid (HB.out.trans (d2.mono HB.out.size))
        have HX2 := Lib.hid ((d2.block _ (Array.getElem?_eq_some_iff.1 HX.out).1).trans HX.out)
        have hbz := HB2.out.size
        clear d2 hCF' hcall y0 y1 y2 y3 y4
        go_wp2_with (at_builtin; refine wpList_append_lies ?z1w ?z11 ?z1s ?z1x 22 ?z12 w.heap.size 48 ii0 (.agg #[.int .i64 0, .int .i64 0, .string ⟨#[]⟩, .slice none 0 0]) 4 56 ?z13 ?z14 ?z15 ?z16 ?z17 ?z18 ?z19 (.slice a DS.length c) DS.length (rowsI FS) ?z110 ?z1h1 ⟨g', 0, none⟩ CT.length c' (rowsI FS') ?z111 ?z112 ?z1h2 ?z1h3 ?z1c1 ?z1c2 ?z1c3 ?z1c4 w2.heap.size ?z1c5 ?_; (case z11 => rfl); (case z12 => rfl); (case z110 => rfl); (case z111 => rfl); (case z1h1 => exact (HCF.out.below HD2.out).1); (case z13 => exact Tryz.underlying22); (case z14 => exact hi); (case z15 => exact hz0); (case z16 => exact hz1); (case z17 => exact hz2); (case z18 => rfl); (case z19 => decide); (case z112 => exact (by rw [rowsI_len, allO_len HCF'.out.2.1])); (case z1h2 => exact (owns_news HCF'.out.1)); (case z1h3 => exact rowsI_one); (case z1c1 => exact (by omega)); (case z1c2 => unfold maxLen; omega); (case z1c3 => omega); (case z1c4 => exact hbz); (case z1c5 => rfl); intro g2 cp2 wz hownZ hgrowZ hatZ hltZ)
        have hCC := CodeF.app (C := wr.heap.size) (HCF.out.below HD2.out) (fun f hf b hb => (codeF_lt HCF.out f hf b hb).2) HB.out.size HCF'.out.2.1 HCF'.out.2.2 hownZ hgrowZ
        have hbN : Below w.heap.size w wz := HB2.out.grown hgrowZ hbz (fun y e => (HCF.out.1.lt y e).1)
        have HXN := Lib.hid ((hgrowZ.block _ (Array.getElem?_eq_some_iff.1 HX2.out).1 (fun e => by
          obtain ⟨-, cur, hcur⟩ := owns_typed (HCF.out.below HD2.out).1 e.symm
          rw [HX2.out] at hcur
          injection hcur with hcur
          injection hcur with _ h _
          exact absurd h (by decide))).trans HX2.out)
        go_roundw
        case rel => exact ⟨k + 1, cp2, some ⟨g2, 0, none⟩, by omega, by go_num, by rw [HSN.out, List.length_append], Lib.hid (by rw [HSN.out, List.length_append]; exact ⟨_, hCC⟩), HXN, hbN⟩
        case measure => simp [intOf]; omega
      · have hk2 : k = 2 := by omega
        subst hk2
        have HCT : Hid (codeT (.node o n s ks ms) = ((ks.take 2).map codeT).flatten ++ (⟨9, ((codeT (ks[2]'(by have := HK4.out; omega))).length : Int) + 1, ⟨#[]⟩, []⟩ :: (codeT (ks[2]'(by have := HK4.out; omega)) ++ (⟨11, ((codeT (ks[3]'(by have := HK4.out; omega))).length : Int), ⟨#[]⟩, []⟩ :: codeT (ks[3]'(by have := HK4.out; omega)))))) := by refine Lib.hid ?_; rw [HO9.out]; exact codeT_if HK4.out
        obtain ⟨b, off, rfl, -, hbl, hrow⟩ := HK.out.cells (by have := HK4.out; omega)
        obtain ⟨fA, cA, tA⟩ := hrow 2 (by have := HK4.out; omega)
        obtain ⟨fB, cB, tB⟩ := hrow 3 (by have := HK4.out; omega)
        have mA : ks[2]'(by have := HK4.out; omega) ∈ ks := List.getElem_mem _
        have mB : ks[3]'(by have := HK4.out; omega) ∈ ks := List.getElem_mem _
        have lA := codeT_len (HOK.out _ mA)
        have lB := codeT_len (HOK.out _ mB)
        have vA := wL_mem mA
        have vB := wL_mem mB
        have pA := codeT_pos (ks[2]'(by have := HK4.out; omega))
        have pB := codeT_pos (ks[3]'(by have := HK4.out; omega))
        have HCALA : Hid (∀ W, Below w.heap.size w W → Calls Tryz.prog 108 #[fA.val] W (MakeP (ks[2]'(by have := HK4.out; omega)) W)) := fun W hW => IH.out _ mA fA W (tA.kept (same_of_below hW)) (HOK.out _ mA)
        have HCALB : Hid (∀ W, Below w.heap.size w W → Calls Tryz.prog 108 #[fB.val] W (MakeP (ks[3]'(by have := HK4.out; omega)) W)) := fun W hW => IH.out _ mB fB W (tB.kept (same_of_below hW)) (HOK.out _ mB)
        have HRA : Hid (∀ W, Below w.heap.size w W → CellsF W b (off + 10) fA) := fun W hW => cA.kept (hW.block b hbl)
        have HRB : Hid (∀ W, Below w.heap.size w W → CellsF W b (off + 15) fB) := fun W hW => cB.kept (hW.block b hbl)
        have i2 : (2 : Int) < (ks.length : Int) := by have := HK4.out; omega
        have i3 : (3 : Int) < (ks.length : Int) := by have := HK4.out; omega
        unfold MakeP at HCALA HCALB ⊢
        unfold Fld.val at HCALA HCALB
        generalize ((ks.take 2).map codeT).flatten = DS at *
        generalize codeT (ks[2]'(by have := HK4.out; omega)) = CA at *
        generalize codeT (ks[3]'(by have := HK4.out; omega)) = CB at *
        generalize wT (ks[2]'(by have := HK4.out; omega)) = wA at *
        generalize wT (ks[3]'(by have := HK4.out; omega)) = wB at *
        clear hrow cA cB tA tB mA mB hbl
        have eA : IntKind.i64.wrap ((CA.length : Int) + 1) = (CA.length : Int) + 1 := IntWalk.i64_in _ (by omega)
        obtain ⟨FS, hCF⟩ := hC.out
        have HCF := Lib.hid hCF
        have HB := Lib.hid hb
        clear hCF hC hb
        have c0 : wr.cell? ⟨w.heap.size, 0, none⟩ = some (Value.int .i64 o) := by rw [Lib.cell_of_heap HX.out]; rfl
        have c3 : wr.cell? ⟨w.heap.size, 3, none⟩ = some (Value.slice (some ⟨b, off, none⟩) ks.length kc) := by rw [Lib.cell_of_heap HX.out]; rfl
        obtain ⟨y0, y1, y2, y3, y4⟩ := HRA.out wr HB.out
        go_wp2_with fail
        refine (HCALA.out wr HB.out).mono ?_
        rintro e W3 ⟨aA, nA, cA, rfl, rfl, hA, d3⟩
        clear c0 c3 y0 y1 y2 y3 y4
        have B3 := Lib.hid (HB.out.trans (d3.mono HB.out.size))
        have X3 := Lib.hid ((d3.block _ (Array.getElem?_eq_some_iff.1 HX.out).1).trans HX.out)
        have D3 := Lib.hid d3
        obtain ⟨FSA, hA⟩ := hA
        obtain ⟨gA, cpA, e1, hgA, -⟩ := hA.1.form (by omega)
        injection e1 with e1 _ e3
        subst e1 e3
        have HA3 := Lib.hid hA
        clear d3 hA
        have c3 : W3.cell? ⟨w.heap.size, 3, none⟩ = some (Value.slice (some ⟨b, off, none⟩) ks.length kc) := by rw [Lib.cell_of_heap X3.out]; rfl
        obtain ⟨y0, y1, y2, y3, y4⟩ := HRB.out W3 B3.out
        go_wp2_with fail
        refine (HCALB.out W3 B3.out).mono ?_
        rintro e W4 ⟨aB, nB, cB, rfl, rfl, hBB, d4⟩
        clear c3 y0 y1 y2 y3 y4
        have B4 := Lib.hid (B3.out.trans (d4.mono B3.out.size))
        obtain ⟨FSB, hBB⟩ := hBB
        obtain ⟨gB, cpB, e1, hgB, -⟩ := hBB.1.form (by omega)
        injection e1 with e1 _ e3
        subst e1 e3
        have OFA := otherF_low HCF.out HA3.out (Nat.le_refl _)
        have OFB := otherF_low (HCF.out.below D3.out) hBB (Nat.le_refl _)
        have OAB := otherF_low HA3.out hBB (Nat.le_refl _)
        have RNA := rowNe_low HCF.out HA3.out (Nat.le_refl _)
        have RNB := rowNe_low (HCF.out.below D3.out) hBB (Nat.le_refl _)
        have O4 := (HCF.out.below D3.out).below d4
        have A4 := (HA3.out.below d4).mono HB.out.size
        have K4 := hBB.mono B3.out.size
        clear d4 hBB hgA hgB
        have e9 : (DS ++ [(⟨9, (CA.length : Int) + 1, ⟨#[]⟩, []⟩ : Pl)]).length = DS.length + 1 := by rw [List.length_append]; rfl
        clear e9
        go_upto_region 13 with (first | (at_builtin; refine wpList_append_lies ?z2w ?z21 ?z2s ?z2x 22 ?z22 w.heap.size 48 ii0 (.agg #[.int .i64 0, .int .i64 0, .string ⟨#[]⟩, .slice none 0 0]) 4 56 ?z23 ?z24 ?z25 ?z26 ?z27 ?z28 ?z29 (.slice a DS.length c) DS.length (rowsI FS) ?z210 ?z2h1 ⟨W4.heap.size, 0, none⟩ 1 1 (rowsI [⟨9, (CA.length : Int) + 1, ⟨#[]⟩, none, 0, 0⟩]) ?z211 ?z212 ?z2h2 ?z2h3 ?z2c1 ?z2c2 ?z2c3 ?z2c4 (W4.alloc (.cells #[.int .i64 9, .int .i64 ((CA.length : Int) + 1), .string ⟨#[]⟩, .slice none 0 0] 48)).heap.size ?z2c5 ?_; (case z21 => rfl); (case z22 => rfl); (case z210 => rfl); (case z211 => rfl); (case z2h1 => exact (O4.below (show Below W4.heap.size W4 (W4.alloc (.cells #[.int .i64 9, .int .i64 ((CA.length : Int) + 1), .string ⟨#[]⟩, .slice none 0 0] 48)) from (Below.refl _ _).alloc (Nat.le_refl _) _)).1); (case z23 => exact Tryz.underlying22); (case z24 => exact hi); (case z25 => exact hz0); (case z26 => exact hz1); (case z27 => exact hz2); (case z28 => rfl); (case z29 => decide); (case z212 => exact rfl); (case z2h2 => exact (World.news_of_block (heap_alloc_new W4 _))); (case z2h3 => exact rowsI_one); (case z2c1 => exact (by decide)); (case z2c2 => unfold maxLen; omega); (case z2c3 => omega); (case z2c4 => exact (Nat.le_trans B4.out.size ((Below.refl W4.heap.size W4).alloc (Nat.le_refl _) _).size)); (case z2c5 => rfl); intro gP cpP wzP hownP hgrowP hatP hltP; (have hX5 : Below W4.heap.size W4 (W4.alloc (.cells #[.int .i64 9, .int .i64 ((CA.length : Int) + 1), .string ⟨#[]⟩, .slice none 0 0] 48)) := (Below.refl _ _).alloc (Nat.le_refl _) _); (have O6 := CodeF.app2 (ds' := [⟨9, (CA.length : Int) + 1, ⟨#[]⟩, []⟩]) (fs' := [⟨9, (CA.length : Int) + 1, ⟨#[]⟩, none, 0, 0⟩]) (O4.below hX5) ⟨plO_bare _ _ _, trivial⟩ (List.pairwise_singleton _ _) otherF_bare' hownP hgrowP); (have A6 := (A4.below hX5).far (O4.below hX5).1 hgrowP RNA); (have K6 := (K4.below hX5).far (O4.below hX5).1 hgrowP RNB); (have RNB6 := rowNe_app (len := DS.length + 1) (cap := cpP) (K4.below hX5).1 RNB hatP (Nat.le_refl _)); (have OFA6 := otherF_app (gs := [⟨9, (CA.length : Int) + 1, ⟨#[]⟩, none, 0, 0⟩]) OFA otherF_bare); (have OFB6 := otherF_app (gs := [⟨9, (CA.length : Int) + 1, ⟨#[]⟩, none, 0, 0⟩]) OFB otherF_bare); (have B6 := Lib.hid ((B4.out.trans (hX5.mono B4.out.size)).grown hgrowP (B4.out.trans (hX5.mono B4.out.size)).size (fun y e => ((O4.below hX5).1.lt y e).1))); (have hs6 := B6.out.size); (clear hX5 O4 A4 K4 OFA OFB RNA RNB); clear hownP hgrowP hatP hltP) | (at_builtin; refine wpList_append_lies ?z3w ?z31 ?z3s ?z3x 22 ?z32 w.heap.size 48 ii0 (.agg #[.int .i64 0, .int .i64 0, .string ⟨#[]⟩, .slice none 0 0]) 4 56 ?z33 ?z34 ?z35 ?z36 ?z37 ?z38 ?z39 (.slice (some ⟨gP, 0, none⟩) (DS.length + 1) cpP) (DS.length + 1) (rowsI (FS ++ [⟨9, (CA.length : Int) + 1, ⟨#[]⟩, none, 0, 0⟩])) ?z310 ?z3h1 ⟨gA, 0, none⟩ CA.length cA (rowsI FSA) ?z311 ?z312 ?z3h2 ?z3h3 ?z3c1 ?z3c2 ?z3c3 ?z3c4 wzP.heap.size ?z3c5 ?_; (case z31 => rfl); (case z32 => rfl); (case z310 => rfl); (case z311 => rfl); (case z3h1 => exact (by have h := O6.1; simp only [List.length_append, List.length_cons, List.length_nil, Nat.zero_add] at h; exact h)); (case z33 => exact Tryz.underlying22); (case z34 => exact hi); (case z35 => exact hz0); (case z36 => exact hz1); (case z37 => exact hz2); (case z38 => rfl); (case z39 => decide); (case z312 => exact (by rw [rowsI_len, allO_len A6.2.1])); (case z3h2 => exact (owns_news A6.1)); (case z3h3 => exact rowsI_one); (case z3c1 => exact (by omega)); (case z3c2 => unfold maxLen; omega); (case z3c3 => omega); (case z3c4 => exact hs6); (case z3c5 => rfl); intro gQ cpQ wzQ hownQ hgrowQ hatQ hltQ; (have O7 := CodeF.app2 O6 A6.2.1 A6.2.2 OFA6 (by simp only [List.length_append, List.length_cons, List.length_nil, Nat.zero_add]; exact hownQ) hgrowQ); (have K7 := K6.far O6.1 hgrowQ RNB6); (have RNB7 := rowNe_app (len := DS.length + 1 + CA.length) (cap := cpQ) K6.1 RNB6 hatQ (Nat.le_refl _)); (have OFB7 := otherF_app OFB6 OAB); (have B7 := Lib.hid (B6.out.grown hgrowQ B6.out.size (fun y e => (O6.1.lt y e).1))); (have hs7 := B7.out.size); (clear O6 A6 K6 OFA6 OFB6 RNB6 OAB B6 hs6); clear hownQ hgrowQ hatQ hltQ))
        go_wp2_with (first | (at_builtin; refine wpList_append_lies ?z4w ?z41 ?z4s ?z4x 22 ?z42 w.heap.size 48 ii0 (.agg #[.int .i64 0, .int .i64 0, .string ⟨#[]⟩, .slice none 0 0]) 4 56 ?z43 ?z44 ?z45 ?z46 ?z47 ?z48 ?z49 (.slice (some ⟨gQ, 0, none⟩) (DS.length + 1 + CA.length) cpQ) (DS.length + 1 + CA.length) (rowsI ((FS ++ [⟨9, (CA.length : Int) + 1, ⟨#[]⟩, none, 0, 0⟩]) ++ FSA)) ?z410 ?z4h1 ⟨wzQ.heap.size, 0, none⟩ 1 1 (rowsI [⟨11, (CB.length : Int), ⟨#[]⟩, none, 0, 0⟩]) ?z411 ?z412 ?z4h2 ?z4h3 ?z4c1 ?z4c2 ?z4c3 ?z4c4 (wzQ.alloc (.cells #[.int .i64 11, .int .i64 (CB.length : Int), .string ⟨#[]⟩, .slice none 0 0] 48)).heap.size ?z4c5 ?_; (case z41 => rfl); (case z42 => rfl); (case z410 => rfl); (case z411 => rfl); (case z4h1 => exact (by have h := (O7.below (show Below wzQ.heap.size wzQ (wzQ.alloc (.cells #[.int .i64 11, .int .i64 (CB.length : Int), .string ⟨#[]⟩, .slice none 0 0] 48)) from (Below.refl _ _).alloc (Nat.le_refl _) _)).1; simp only [List.length_append, List.length_cons, List.length_nil, Nat.zero_add] at h; exact h)); (case z43 => exact Tryz.underlying22); (case z44 => exact hi); (case z45 => exact hz0); (case z46 => exact hz1); (case z47 => exact hz2); (case z48 => rfl); (case z49 => decide); (case z412 => exact rfl); (case z4h2 => exact (World.news_of_block (heap_alloc_new wzQ _))); (case z4h3 => exact rowsI_one); (case z4c1 => exact (by decide)); (case z4c2 => unfold maxLen; omega); (case z4c3 => omega); (case z4c4 => exact (Nat.le_trans hs7 ((Below.refl wzQ.heap.size wzQ).alloc (Nat.le_refl _) _).size)); (case z4c5 => rfl); intro gR cpR wzR hownR hgrowR hatR hltR; (have hX8 : Below wzQ.heap.size wzQ (wzQ.alloc (.cells #[.int .i64 11, .int .i64 (CB.length : Int), .string ⟨#[]⟩, .slice none 0 0] 48)) := (Below.refl _ _).alloc (Nat.le_refl _) _); (have O9 := CodeF.app2 (ds' := [⟨11, (CB.length : Int), ⟨#[]⟩, []⟩]) (fs' := [⟨11, (CB.length : Int), ⟨#[]⟩, none, 0, 0⟩]) (O7.below hX8) ⟨plO_bare _ _ _, trivial⟩ (List.pairwise_singleton _ _) otherF_bare' (by simp only [List.length_append, List.length_cons, List.length_nil, Nat.zero_add]; exact hownR) (by have h := hgrowR; exact h)); (have K9 := (K7.below hX8).far (O7.below hX8).1 hgrowR RNB7); (have RNB9 := rowNe_app (len := DS.length + 1 + CA.length + 1) (cap := cpR) (K7.below hX8).1 RNB7 hatR (Nat.le_refl _)); (have OFB9 := otherF_app (gs := [⟨11, (CB.length : Int), ⟨#[]⟩, none, 0, 0⟩]) OFB7 otherF_bare); (have B9 := Lib.hid ((B7.out.trans (hX8.mono B7.out.size)).grown hgrowR (B7.out.trans (hX8.mono B7.out.size)).size (fun y e => ((O7.below hX8).1.lt y e).1))); (have hs9 := B9.out.size); (clear hX8 O7 K7 OFB7 RNB7 B7 hs7); clear hownR hgrowR hatR hltR) | (at_builtin; refine wpList_append_lies ?z5w ?z51 ?z5s ?z5x 22 ?z52 w.heap.size 48 ii0 (.agg #[.int .i64 0, .int .i64 0, .string ⟨#[]⟩, .slice none 0 0]) 4 56 ?z53 ?z54 ?z55 ?z56 ?z57 ?z58 ?z59 (.slice (some ⟨gR, 0, none⟩) (DS.length + 1 + CA.length + 1) cpR) (DS.length + 1 + CA.length + 1) (rowsI (((FS ++ [⟨9, (CA.length : Int) + 1, ⟨#[]⟩, none, 0, 0⟩]) ++ FSA) ++ [⟨11, (CB.length : Int), ⟨#[]⟩, none, 0, 0⟩])) ?z510 ?z5h1 ⟨gB, 0, none⟩ CB.length cB (rowsI FSB) ?z511 ?z512 ?z5h2 ?z5h3 ?z5c1 ?z5c2 ?z5c3 ?z5c4 wzR.heap.size ?z5c5 ?_; (case z51 => rfl); (case z52 => rfl); (case z510 => rfl); (case z511 => rfl); (case z5h1 => exact (by have h := O9.1; simp only [List.length_append, List.length_cons, List.length_nil, Nat.zero_add] at h; exact h)); (case z53 => exact Tryz.underlying22); (case z54 => exact hi); (case z55 => exact hz0); (case z56 => exact hz1); (case z57 => exact hz2); (case z58 => rfl); (case z59 => decide); (case z512 => exact (by rw [rowsI_len, allO_len K9.2.1])); (case z5h2 => exact (owns_news K9.1)); (case z5h3 => exact rowsI_one); (case z5c1 => exact (by omega)); (case z5c2 => unfold maxLen; omega); (case z5c3 => omega); (case z5c4 => exact hs9); (case z5c5 => rfl); intro gT cpT wzT hownT hgrowT hatT hltT; (have O10 := CodeF.app2 O9 K9.2.1 K9.2.2 OFB9 (by simp only [List.length_append, List.length_cons, List.length_nil, Nat.zero_add]; exact hownT) hgrowT); (have B10 := Lib.hid (B9.out.grown hgrowT B9.out.size (fun y e => (O9.1.lt y e).1))); (clear O9 K9 OFB9 RNB9 B9 hs9); clear hownT hgrowT hatT hltT))
        go_ret
        refine ⟨some ⟨gT, 0, none⟩, DS.length + 1 + CA.length + 1 + CB.length, cpT, rfl, ?_, ?_, B10.out⟩
        · rw [HCT.out]; simp only [List.length_append, List.length_cons]; omega
        · rw [HCT.out]
          have e : DS ++ (⟨9, (CA.length : Int) + 1, ⟨#[]⟩, []⟩ :: (CA ++ (⟨11, (CB.length : Int), ⟨#[]⟩, []⟩ :: CB))) = DS ++ [⟨9, (CA.length : Int) + 1, ⟨#[]⟩, []⟩] ++ CA ++ [⟨11, (CB.length : Int), ⟨#[]⟩, []⟩] ++ CB := by simp
          rw [e]
          have h := O10
          have el : (DS ++ [(⟨9, (CA.length : Int) + 1, ⟨#[]⟩, []⟩ : Pl)] ++ CA ++ [(⟨11, (CB.length : Int), ⟨#[]⟩, []⟩ : Pl)]).length = DS.length + 1 + CA.length + 1 := by simp only [List.length_append, List.length_cons, List.length_nil]
          rw [el] at h
          exact ⟨_, h⟩
  · have HN9 := Lib.hid h9
    have b9 : (o == 9) = false := by simpa using h9
    have b9' : (o != 9) = true := by simpa using h9
    clear h9
    go_enter Tryz.func108, Tryz.ntmps108
    have hB0 : Hid (Below w.heap.size w ((w.alloc (.cells #[.int .i64 o, .int .i64 n, .string s, .slice ka ks.length kc, .slice ma ms.length mc] 37)).alloc (.cells #[] 48))) := HA.out.alloc (by simp only [World.size_alloc]; omega) _
    have hC0 : Hid (CodeO w.heap.size ((w.alloc (.cells #[.int .i64 o, .int .i64 n, .string s, .slice ka ks.length kc, .slice ma ms.length mc] 37)).alloc (.cells #[] 48)) (.slice (some ⟨w.heap.size + 1, 0, none⟩) 0 0) []) := by
      have := CodeO.made (B := w.heap.size) (w := (w.alloc (.cells #[.int .i64 o, .int .i64 n, .string s, .slice ka ks.length kc, .slice ma ms.length mc] 37))) (by simp only [World.size_alloc]; omega)
      rw [World.size_alloc] at this
      exact this
    have HX0 : Hid (((w.alloc (.cells #[.int .i64 o, .int .i64 n, .string s, .slice ka ks.length kc, .slice ma ms.length mc] 37)).alloc (.cells #[] 48)).heap[w.heap.size]? = some (.cells #[.int .i64 o, .int .i64 n, .string s, .slice ka ks.length kc, .slice ma ms.length mc] 37 (0, 0))) := by
      refine Lib.hid ?_
      rw [Lib.alloc_old _ _ _ (by simp only [World.size_alloc]; omega)]
      exact HArg.out
    go_wp2_with fail
    generalize ((w.alloc (.cells #[.int .i64 o, .int .i64 n, .string s, .slice ka ks.length kc, .slice ma ms.length mc] 37)).alloc (.cells #[] 48)) = W0 at *
    obtain ⟨a0, ha0⟩ : ∃ a0 : Option Addr, a0 = some ⟨w.heap.size + 1, 0, none⟩ := ⟨_, rfl⟩
    rw [← ha0] at hC0 ⊢
    clear ha0 HArg HA
    have HXL : Hid (w.heap.size < W0.heap.size) := (Array.getElem?_eq_some_iff.1 HX0.out).1
    go_loopw [3, 5] (fun vl vi wr => ∃ (k c : Nat) (a : Option Addr), k ≤ ks.length ∧ vi = .int .i64 k ∧ vl = .slice a ((ks.take k).map codeT).flatten.length c ∧ Hid (CodeO w.heap.size wr (.slice a ((ks.take k).map codeT).flatten.length c) ((ks.take k).map codeT).flatten) ∧ Hid (wr.heap[w.heap.size]? = some (.cells #[.int .i64 o, .int .i64 n, .string s, .slice ka ks.length kc, .slice ma ms.length mc] 37 (0, 0))) ∧ Below w.heap.size w wr) (fun _ vi _ => ks.length - (intOf vi).toNat)
    case atStart => exact ⟨0, 0, _, Nat.zero_le _, rfl, rfl, hC0, HX0, hB0.out⟩
    case round =>
      obtain ⟨k, c, a, hk, rfl, rfl, hC, HX, hb⟩ := hrel
      clear hC0 HX0 hB0
      have hfl := flat_le codeT (ks.take k) 0 (fun t ht => codeT_len (HOK.out t (List.mem_of_mem_take ht)))
      have hfl2 := wL_take ks k
      rcases Nat.lt_or_ge k ks.length with hlt | hge
      · have hkl : k < ks.length := by omega
        have k1 : (k : Int) < ks.length := by omega
        have k2 : (k : Int) < ks.length := by omega
        have k0 : (0 : Int) ≤ k := by omega
        obtain ⟨b, off, rfl, -, hbl, hrow⟩ := (HK.out.kept (same_of_below (N := All) hb)).cells (by omega)
        obtain ⟨f, ⟨y0, y1, y2, y3, y4⟩, ht⟩ := hrow k hkl
        have ca : wr.cell? ⟨w.heap.size, 3, none⟩ = some (Value.slice (some ⟨b, off, none⟩) ks.length kc) := by rw [Lib.cell_of_heap HX.out]; rfl
        have hcall := Lib.hid (IH.out ks[k] (List.getElem_mem _) f wr ht (HOK.out _ (List.getElem_mem _)))
        have HSN := Lib.hid (codes_snoc hkl)
        have hcl := codeT_len (HOK.out _ (List.getElem_mem hkl))
        have hcw := wL_mem (List.getElem_mem hkl)
        have hcp := codeT_pos ks[k]
        have HB := Lib.hid hb
        have hzr := hb.size
        unfold Fld.val MakeP at hcall
        generalize ((ks.take k).map codeT).flatten = DS at *
        generalize codeT ks[k] = CT at *
        generalize ks[k] = tk at *
        clear hrow ht hbl hb
        obtain ⟨FS, hCF⟩ := hC.out
        have HCF := Lib.hid hCF
        clear hCF hC
        go_wp2_with fail
        refine hcall.out.mono ?_
        rintro e w2 ⟨a', n', c', rfl, rfl, hC', d2⟩
        obtain ⟨FS', hCF'⟩ := hC'
        obtain ⟨g', cap', e1, hbg, -⟩ := hCF'.1.form (by omega)
        injection e1 with e1 _ e3
        subst e1 e3
        have HCF' := Lib.hid hCF'
        have HD2 := Lib.hid d2
        have HB2 := Lib.hid (HB.out.trans (d2.mono HB.out.size))
        have HX2 := Lib.hid ((d2.block _ (Array.getElem?_eq_some_iff.1 HX.out).1).trans HX.out)
        have hbz := HB2.out.size
        clear d2 hCF' hcall y0 y1 y2 y3 y4
        go_wp2_with (at_builtin; refine wpList_append_lies ?z6w ?z61 ?z6s ?z6x 22 ?z62 w.heap.size 48 ii0 (.agg #[.int .i64 0, .int .i64 0, .string ⟨#[]⟩, .slice none 0 0]) 4 56 ?z63 ?z64 ?z65 ?z66 ?z67 ?z68 ?z69 (.slice a DS.length c) DS.length (rowsI FS) ?z610 ?z6h1 ⟨g', 0, none⟩ CT.length c' (rowsI FS') ?z611 ?z612 ?z6h2 ?z6h3 ?z6c1 ?z6c2 ?z6c3 ?z6c4 w2.heap.size ?z6c5 ?_; (case z61 => rfl); (case z62 => rfl); (case z610 => rfl); (case z611 => rfl); (case z6h1 => exact (HCF.out.below HD2.out).1); (case z63 => exact Tryz.underlying22); (case z64 => exact hi); (case z65 => exact hz0); (case z66 => exact hz1); (case z67 => exact hz2); (case z68 => rfl); (case z69 => decide); (case z612 => exact (by rw [rowsI_len, allO_len HCF'.out.2.1])); (case z6h2 => exact (owns_news HCF'.out.1)); (case z6h3 => exact rowsI_one); (case z6c1 => exact (by omega)); (case z6c2 => unfold maxLen; omega); (case z6c3 => omega); (case z6c4 => exact hbz); (case z6c5 => rfl); intro g2 cp2 wz hownZ hgrowZ hatZ hltZ)
        have hCC := CodeF.app (C := wr.heap.size) (HCF.out.below HD2.out) (fun f hf b hb => (codeF_lt HCF.out f hf b hb).2) HB.out.size HCF'.out.2.1 HCF'.out.2.2 hownZ hgrowZ
        have hbN : Below w.heap.size w wz := HB2.out.grown hgrowZ hbz (fun y e => (HCF.out.1.lt y e).1)
        have HXN := Lib.hid ((hgrowZ.block _ (Array.getElem?_eq_some_iff.1 HX2.out).1 (fun e => by
          obtain ⟨-, cur, hcur⟩ := owns_typed (HCF.out.below HD2.out).1 e.symm
          rw [HX2.out] at hcur
          injection hcur with hcur
          injection hcur with _ h _
          exact absurd h (by decide))).trans HX2.out)
        go_roundw
        case rel => exact ⟨k + 1, cp2, some ⟨g2, 0, none⟩, by omega, by go_num, by rw [HSN.out, List.length_append], Lib.hid (by rw [HSN.out, List.length_append]; exact ⟨_, hCC⟩), HXN, hbN⟩
        case measure => simp [intOf]; omega
      · obtain rfl : k = ks.length := by omega
        rw [List.take_length] at hC hfl ⊢
        have HCT : Hid (codeT (.node o n s ks ms) = (ks.map codeT).flatten ++ [⟨o, n, s, ms⟩]) := codeT_op HN9.out
        have HM : Hid (∀ W, Below wr.heap.size wr W → MarksN All W ma ms.length ms) := fun W hW => HM0.out.kept (same_of_below (hb.trans (hW.mono hb.size)))
        have HBW := Lib.hid hb
        have HZW : Hid (w.heap.size ≤ wr.heap.size) := hb.size
        have HBXL : Hid (w.heap.size < wr.heap.size) := (Array.getElem?_eq_some_iff.1 HX.out).1
        have HBX := HX
        unfold MakeP
        generalize (ks.map codeT).flatten = DS at *
        obtain ⟨FS, hCF⟩ := hC.out
        have HCF := Lib.hid hCF
        clear hCF hC hb
        have c0b : wr.cell? ⟨w.heap.size, 0, none⟩ = some (Value.int .i64 o) := by rw [Lib.cell_of_heap HX.out]; rfl
        go_upto_region 14 with fail
        clear c0b
        generalize wr = wy at *
        refine wp_region_invK (by kernel_rfl) (fun kk L f W => TE (fun i => if i = 7 then 10 else 13) 13 (fun _ W => Below wy.heap.size wy W) (SMS a DS.length c w.heap.size wy.heap.size o n s ma mc ms) (.slice none 0 0) (fun v W => ∃ (a' : Option Addr) (c' : Nat), v = .slice a' (DS.length + 1) c' ∧ CodeO w.heap.size W v (DS ++ [⟨o, n, s, ms⟩]) ∧ Below w.heap.size w W) kk L f W) (by kernel_rfl) (TE.start rfl ((Below.refl _ _).drew)) ?_
        apply Exists.intro
        apply And.intro
        · intro f
          simp only [over, List.set]
          exact rfl
        refine ⟨?hops, ?hend⟩
        case hops =>
          refine EachOp.cons ?_ (EachOp.cons ?_ (EachOp.cons ?_ (EachOp.cons ?_ (EachOp.cons ?_ (EachOp.cons ?_ (EachOp.cons ?_ (EachOp.cons ?_ (EachOp.cons ?_ (EachOp.cons ?_ (EachOp.cons ?_ (EachOp.cons ?_ (EachOp.cons ?_ (EachOp.cons ?_ (EachOp.cons ?_ (EachOp.nil)))))))))))))))
          · intro L ff kk ww hkk hJ hcl hLi hwt QQ' hQ
            try dsimp only
            have nm : L 13 = false := by
              cases hx : L 13 with
              | false => rfl
              | true =>
                have h13x := hx
                have h0x : L 0 = true := hcl 13 _ rfl h13x 0 (by decide)
                have h2 : L 0 = false := hLi
                rw [h0x] at h2; cases h2
            have nm1 : L 14 = false := by
              cases hx : L 14 with
              | false => rfl
              | true =>
                have h14x := hx
                have h13x : L 13 = true := hcl 14 _ rfl h14x 13 (by decide)
                have h0x : L 0 = true := hcl 13 _ rfl h13x 0 (by decide)
                have h2 : L 0 = false := hLi
                rw [h0x] at h2; cases h2
            have cz : ff 14 = _ := hJ.zero nm1
            have hI := hJ.inv nm
            go_big_wp2_with fail
            refine hQ _ _ _ ?_ (hJ.pre_op (i := 0) (by decide) nm nm1 (hI) (fun j v _ _ h => h.kept (Below.refl _ _)) (rfl))
            first | rfl | (simp [upd, cz]; done)
          · intro L ff kk ww hkk hJ hcl hLi hwt QQ' hQ
            try dsimp only
            have nm : L 13 = false := by
              cases hx : L 13 with
              | false => rfl
              | true =>
                have h13x := hx
                have h12x : L 12 = true := hcl 13 _ rfl h13x 12 (by decide)
                have h11x : L 11 = true := hcl 12 _ rfl h12x 11 (by decide)
                have h2x : L 2 = true := hcl 11 _ rfl h11x 2 (by decide)
                have h1x : L 1 = true := hcl 2 _ rfl h2x 1 (by decide)
                have h2 : L 1 = false := hLi
                rw [h1x] at h2; cases h2
            have nm1 : L 14 = false := by
              cases hx : L 14 with
              | false => rfl
              | true =>
                have h14x := hx
                have h13x : L 13 = true := hcl 14 _ rfl h14x 13 (by decide)
                have h12x : L 12 = true := hcl 13 _ rfl h13x 12 (by decide)
                have h11x : L 11 = true := hcl 12 _ rfl h12x 11 (by decide)
                have h2x : L 2 = true := hcl 11 _ rfl h11x 2 (by decide)
                have h1x : L 1 = true := hcl 2 _ rfl h2x 1 (by decide)
                have h2 : L 1 = false := hLi
                rw [h1x] at h2; cases h2
            have hI := hJ.inv nm
            go_big_wp2_with fail
            refine hQ _ _ _ ?_ (hJ.pre_op (i := 1) (by decide) nm nm1 (hI) (fun j v _ _ h => h.kept (Below.refl _ _)) (rfl))
            first | rfl | (simp [upd]; done)
          · intro L ff kk ww hkk hJ hcl hLi hwt QQ' hQ
            try dsimp only
            have nm : L 13 = false := by
              cases hx : L 13 with
              | false => rfl
              | true =>
                have h13x := hx
                have h12x : L 12 = true := hcl 13 _ rfl h13x 12 (by decide)
                have h11x : L 11 = true := hcl 12 _ rfl h12x 11 (by decide)
                have h2x : L 2 = true := hcl 11 _ rfl h11x 2 (by decide)
                have h2 : L 2 = false := hLi
                rw [h2x] at h2; cases h2
            have nm1 : L 14 = false := by
              cases hx : L 14 with
              | false => rfl
              | true =>
                have h14x := hx
                have h13x : L 13 = true := hcl 14 _ rfl h14x 13 (by decide)
                have h12x : L 12 = true := hcl 13 _ rfl h13x 12 (by decide)
                have h11x : L 11 = true := hcl 12 _ rfl h12x 11 (by decide)
                have h2x : L 2 = true := hcl 11 _ rfl h11x 2 (by decide)
                have h2 : L 2 = false := hLi
                rw [h2x] at h2; cases h2
            have hI := hJ.inv nm
            have hbx := (hI.block _ HBXL.out).trans HBX.out
            have y0 : ww.cell? ⟨w.heap.size, 0, none⟩ = some (.int .i64 o) := by rw [Lib.cell_of_heap hbx]; rfl
            have y1 : ww.cell? ⟨w.heap.size, 1, none⟩ = some (.int .i64 n) := by rw [Lib.cell_of_heap hbx]; rfl
            have y2 : ww.cell? ⟨w.heap.size, 2, none⟩ = some (.string s) := by rw [Lib.cell_of_heap hbx]; rfl
            have y4 : ww.cell? ⟨w.heap.size, 4, none⟩ = some (.slice ma ms.length mc) := by rw [Lib.cell_of_heap hbx]; rfl
            clear hbx
            have c1' : ff 1 = _ := hJ.pre 1 (by decide) (hwt 1 (by decide)) nm nm
            go_big_wp2_with fail
            refine hQ _ _ _ ?_ (hJ.pre_op (i := 2) (by decide) nm nm1 (hI) (fun j v _ _ h => h.kept (Below.refl _ _)) (rfl))
            first | rfl | (simp [upd, c1']; done)
          · intro L ff kk ww hkk hJ hcl hLi hwt QQ' hQ
            try dsimp only
            have nm : L 13 = false := by
              cases hx : L 13 with
              | false => rfl
              | true =>
                have h13x := hx
                have h12x : L 12 = true := hcl 13 _ rfl h13x 12 (by decide)
                have h11x : L 11 = true := hcl 12 _ rfl h12x 11 (by decide)
                have h4x : L 4 = true := hcl 11 _ rfl h11x 4 (by decide)
                have h3x : L 3 = true := hcl 4 _ rfl h4x 3 (by decide)
                have h2 : L 3 = false := hLi
                rw [h3x] at h2; cases h2
            have nm1 : L 14 = false := by
              cases hx : L 14 with
              | false => rfl
              | true =>
                have h14x := hx
                have h13x : L 13 = true := hcl 14 _ rfl h14x 13 (by decide)
                have h12x : L 12 = true := hcl 13 _ rfl h13x 12 (by decide)
                have h11x : L 11 = true := hcl 12 _ rfl h12x 11 (by decide)
                have h4x : L 4 = true := hcl 11 _ rfl h11x 4 (by decide)
                have h3x : L 3 = true := hcl 4 _ rfl h4x 3 (by decide)
                have h2 : L 3 = false := hLi
                rw [h3x] at h2; cases h2
            have hI := hJ.inv nm
            go_big_wp2_with fail
            refine hQ _ _ _ ?_ (hJ.pre_op (i := 3) (by decide) nm nm1 (hI) (fun j v _ _ h => h.kept (Below.refl _ _)) (rfl))
            first | rfl | (simp [upd]; done)
          · intro L ff kk ww hkk hJ hcl hLi hwt QQ' hQ
            try dsimp only
            have nm : L 13 = false := by
              cases hx : L 13 with
              | false => rfl
              | true =>
                have h13x := hx
                have h12x : L 12 = true := hcl 13 _ rfl h13x 12 (by decide)
                have h11x : L 11 = true := hcl 12 _ rfl h12x 11 (by decide)
                have h4x : L 4 = true := hcl 11 _ rfl h11x 4 (by decide)
                have h2 : L 4 = false := hLi
                rw [h4x] at h2; cases h2
            have nm1 : L 14 = false := by
              cases hx : L 14 with
              | false => rfl
              | true =>
                have h14x := hx
                have h13x : L 13 = true := hcl 14 _ rfl h14x 13 (by decide)
                have h12x : L 12 = true := hcl 13 _ rfl h13x 12 (by decide)
                have h11x : L 11 = true := hcl 12 _ rfl h12x 11 (by decide)
                have h4x : L 4 = true := hcl 11 _ rfl h11x 4 (by decide)
                have h2 : L 4 = false := hLi
                rw [h4x] at h2; cases h2
            have hI := hJ.inv nm
            have hbx := (hI.block _ HBXL.out).trans HBX.out
            have y0 : ww.cell? ⟨w.heap.size, 0, none⟩ = some (.int .i64 o) := by rw [Lib.cell_of_heap hbx]; rfl
            have y1 : ww.cell? ⟨w.heap.size, 1, none⟩ = some (.int .i64 n) := by rw [Lib.cell_of_heap hbx]; rfl
            have y2 : ww.cell? ⟨w.heap.size, 2, none⟩ = some (.string s) := by rw [Lib.cell_of_heap hbx]; rfl
            have y4 : ww.cell? ⟨w.heap.size, 4, none⟩ = some (.slice ma ms.length mc) := by rw [Lib.cell_of_heap hbx]; rfl
            clear hbx
            have c3' : ff 3 = _ := hJ.pre 3 (by decide) (hwt 3 (by decide)) nm nm
            go_big_wp2_with fail
            refine hQ _ _ _ ?_ (hJ.pre_op (i := 4) (by decide) nm nm1 (hI) (fun j v _ _ h => h.kept (Below.refl _ _)) (rfl))
            first | rfl | (simp [upd, c3']; done)
          · intro L ff kk ww hkk hJ hcl hLi hwt QQ' hQ
            try dsimp only
            have nm : L 13 = false := by
              cases hx : L 13 with
              | false => rfl
              | true =>
                have h13x := hx
                have h12x : L 12 = true := hcl 13 _ rfl h13x 12 (by decide)
                have h11x : L 11 = true := hcl 12 _ rfl h12x 11 (by decide)
                have h6x : L 6 = true := hcl 11 _ rfl h11x 6 (by decide)
                have h5x : L 5 = true := hcl 6 _ rfl h6x 5 (by decide)
                have h2 : L 5 = false := hLi
                rw [h5x] at h2; cases h2
            have nm1 : L 14 = false := by
              cases hx : L 14 with
              | false => rfl
              | true =>
                have h14x := hx
                have h13x : L 13 = true := hcl 14 _ rfl h14x 13 (by decide)
                have h12x : L 12 = true := hcl 13 _ rfl h13x 12 (by decide)
                have h11x : L 11 = true := hcl 12 _ rfl h12x 11 (by decide)
                have h6x : L 6 = true := hcl 11 _ rfl h11x 6 (by decide)
                have h5x : L 5 = true := hcl 6 _ rfl h6x 5 (by decide)
                have h2 : L 5 = false := hLi
                rw [h5x] at h2; cases h2
            have hI := hJ.inv nm
            go_big_wp2_with fail
            refine hQ _ _ _ ?_ (hJ.pre_op (i := 5) (by decide) nm nm1 (hI) (fun j v _ _ h => h.kept (Below.refl _ _)) (rfl))
            first | rfl | (simp [upd]; done)
          · intro L ff kk ww hkk hJ hcl hLi hwt QQ' hQ
            try dsimp only
            have nm : L 13 = false := by
              cases hx : L 13 with
              | false => rfl
              | true =>
                have h13x := hx
                have h12x : L 12 = true := hcl 13 _ rfl h13x 12 (by decide)
                have h11x : L 11 = true := hcl 12 _ rfl h12x 11 (by decide)
                have h6x : L 6 = true := hcl 11 _ rfl h11x 6 (by decide)
                have h2 : L 6 = false := hLi
                rw [h6x] at h2; cases h2
            have nm1 : L 14 = false := by
              cases hx : L 14 with
              | false => rfl
              | true =>
                have h14x := hx
                have h13x : L 13 = true := hcl 14 _ rfl h14x 13 (by decide)
                have h12x : L 12 = true := hcl 13 _ rfl h13x 12 (by decide)
                have h11x : L 11 = true := hcl 12 _ rfl h12x 11 (by decide)
                have h6x : L 6 = true := hcl 11 _ rfl h11x 6 (by decide)
                have h2 : L 6 = false := hLi
                rw [h6x] at h2; cases h2
            have hI := hJ.inv nm
            have hbx := (hI.block _ HBXL.out).trans HBX.out
            have y0 : ww.cell? ⟨w.heap.size, 0, none⟩ = some (.int .i64 o) := by rw [Lib.cell_of_heap hbx]; rfl
            have y1 : ww.cell? ⟨w.heap.size, 1, none⟩ = some (.int .i64 n) := by rw [Lib.cell_of_heap hbx]; rfl
            have y2 : ww.cell? ⟨w.heap.size, 2, none⟩ = some (.string s) := by rw [Lib.cell_of_heap hbx]; rfl
            have y4 : ww.cell? ⟨w.heap.size, 4, none⟩ = some (.slice ma ms.length mc) := by rw [Lib.cell_of_heap hbx]; rfl
            clear hbx
            have c5' : ff 5 = _ := hJ.pre 5 (by decide) (hwt 5 (by decide)) nm nm
            go_big_wp2_with fail
            refine hQ _ _ _ ?_ (hJ.pre_op (i := 6) (by decide) nm nm1 (hI) (fun j v _ _ h => h.kept (Below.refl _ _)) (rfl))
            first | rfl | (simp [upd, c5']; done)
          · intro L ff kk ww hkk hJ hcl hLi hwt QQ' hQ
            try dsimp only
            have nm : L 13 = false := by
              cases hx : L 13 with
              | false => rfl
              | true =>
                have h13x := hx
                have h12x : L 12 = true := hcl 13 _ rfl h13x 12 (by decide)
                have h11x : L 11 = true := hcl 12 _ rfl h12x 11 (by decide)
                have h10x : L 10 = true := hcl 11 _ rfl h11x 10 (by decide)
                have h7x : L 7 = true := hcl 10 _ rfl h10x 7 (by decide)
                have h2 : L 7 = false := hLi
                rw [h7x] at h2; cases h2
            have nm1 : L 14 = false := by
              cases hx : L 14 with
              | false => rfl
              | true =>
                have h14x := hx
                have h13x : L 13 = true := hcl 14 _ rfl h14x 13 (by decide)
                have h12x : L 12 = true := hcl 13 _ rfl h13x 12 (by decide)
                have h11x : L 11 = true := hcl 12 _ rfl h12x 11 (by decide)
                have h10x : L 10 = true := hcl 11 _ rfl h11x 10 (by decide)
                have h7x : L 7 = true := hcl 10 _ rfl h10x 7 (by decide)
                have h2 : L 7 = false := hLi
                rw [h7x] at h2; cases h2
            have hI := hJ.inv nm
            go_big_wp2_with fail
            refine hQ _ _ (ww.alloc (.cells #[] tK)) ?_ (hJ.pre_op (i := 7) (by decide) nm nm1 (hI.alloc hI.size _) (fun j v _ _ h => h.kept ((Below.refl _ _).alloc (Nat.le_refl _) _)) (⟨ww.heap.size, rfl, World.ownsRow_made ww #[] 0 hI.size (by unfold maxLen; omega) rfl⟩))
            first | rfl | (simp [upd]; done)
          · intro L ff kk ww hkk hJ hcl hLi hwt QQ' hQ
            try dsimp only
            have nm : L 13 = false := by
              cases hx : L 13 with
              | false => rfl
              | true =>
                have h13x := hx
                have h12x : L 12 = true := hcl 13 _ rfl h13x 12 (by decide)
                have h11x : L 11 = true := hcl 12 _ rfl h12x 11 (by decide)
                have h10x : L 10 = true := hcl 11 _ rfl h11x 10 (by decide)
                have h9x : L 9 = true := hcl 10 _ rfl h10x 9 (by decide)
                have h8x : L 8 = true := hcl 9 _ rfl h9x 8 (by decide)
                have h2 : L 8 = false := hLi
                rw [h8x] at h2; cases h2
            have nm1 : L 14 = false := by
              cases hx : L 14 with
              | false => rfl
              | true =>
                have h14x := hx
                have h13x : L 13 = true := hcl 14 _ rfl h14x 13 (by decide)
                have h12x : L 12 = true := hcl 13 _ rfl h13x 12 (by decide)
                have h11x : L 11 = true := hcl 12 _ rfl h12x 11 (by decide)
                have h10x : L 10 = true := hcl 11 _ rfl h11x 10 (by decide)
                have h9x : L 9 = true := hcl 10 _ rfl h10x 9 (by decide)
                have h8x : L 8 = true := hcl 9 _ rfl h9x 8 (by decide)
                have h2 : L 8 = false := hLi
                rw [h8x] at h2; cases h2
            have hI := hJ.inv nm
            go_big_wp2_with fail
            refine hQ _ _ _ ?_ (hJ.pre_op (i := 8) (by decide) nm nm1 (hI) (fun j v _ _ h => h.kept (Below.refl _ _)) (rfl))
            first | rfl | (simp [upd]; done)
          · intro L ff kk ww hkk hJ hcl hLi hwt QQ' hQ
            try dsimp only
            have nm : L 13 = false := by
              cases hx : L 13 with
              | false => rfl
              | true =>
                have h13x := hx
                have h12x : L 12 = true := hcl 13 _ rfl h13x 12 (by decide)
                have h11x : L 11 = true := hcl 12 _ rfl h12x 11 (by decide)
                have h10x : L 10 = true := hcl 11 _ rfl h11x 10 (by decide)
                have h9x : L 9 = true := hcl 10 _ rfl h10x 9 (by decide)
                have h2 : L 9 = false := hLi
                rw [h9x] at h2; cases h2
            have nm1 : L 14 = false := by
              cases hx : L 14 with
              | false => rfl
              | true =>
                have h14x := hx
                have h13x : L 13 = true := hcl 14 _ rfl h14x 13 (by decide)
                have h12x : L 12 = true := hcl 13 _ rfl h13x 12 (by decide)
                have h11x : L 11 = true := hcl 12 _ rfl h12x 11 (by decide)
                have h10x : L 10 = true := hcl 11 _ rfl h11x 10 (by decide)
                have h9x : L 9 = true := hcl 10 _ rfl h10x 9 (by decide)
                have h2 : L 9 = false := hLi
                rw [h9x] at h2; cases h2
            have hI := hJ.inv nm
            have hbx := (hI.block _ HBXL.out).trans HBX.out
            have y0 : ww.cell? ⟨w.heap.size, 0, none⟩ = some (.int .i64 o) := by rw [Lib.cell_of_heap hbx]; rfl
            have y1 : ww.cell? ⟨w.heap.size, 1, none⟩ = some (.int .i64 n) := by rw [Lib.cell_of_heap hbx]; rfl
            have y2 : ww.cell? ⟨w.heap.size, 2, none⟩ = some (.string s) := by rw [Lib.cell_of_heap hbx]; rfl
            have y4 : ww.cell? ⟨w.heap.size, 4, none⟩ = some (.slice ma ms.length mc) := by rw [Lib.cell_of_heap hbx]; rfl
            clear hbx
            have c8' : ff 8 = _ := hJ.pre 8 (by decide) (hwt 8 (by decide)) nm nm
            go_big_wp2_with fail
            refine hQ _ _ _ ?_ (hJ.pre_op (i := 9) (by decide) nm nm1 (hI) (fun j v _ _ h => h.kept (Below.refl _ _)) (rfl))
            first | rfl | (simp [upd, c8']; done)
          · intro L ff kk ww hkk hJ hcl hLi hwt QQ' hQ
            try dsimp only
            have nm : L 13 = false := by
              cases hx : L 13 with
              | false => rfl
              | true =>
                have h13x := hx
                have h12x : L 12 = true := hcl 13 _ rfl h13x 12 (by decide)
                have h11x : L 11 = true := hcl 12 _ rfl h12x 11 (by decide)
                have h10x : L 10 = true := hcl 11 _ rfl h11x 10 (by decide)
                have h2 : L 10 = false := hLi
                rw [h10x] at h2; cases h2
            have nm1 : L 14 = false := by
              cases hx : L 14 with
              | false => rfl
              | true =>
                have h14x := hx
                have h13x : L 13 = true := hcl 14 _ rfl h14x 13 (by decide)
                have h12x : L 12 = true := hcl 13 _ rfl h13x 12 (by decide)
                have h11x : L 11 = true := hcl 12 _ rfl h12x 11 (by decide)
                have h10x : L 10 = true := hcl 11 _ rfl h11x 10 (by decide)
                have h2 : L 10 = false := hLi
                rw [h10x] at h2; cases h2
            have hI := hJ.inv nm
            have n11 : L 11 = false := by
              cases hx : L 11 with
              | false => rfl
              | true =>
                have h11x := hx
                have h10x : L 10 = true := hcl 11 _ rfl h11x 10 (by decide)
                have h2 : L 10 = false := hLi
                rw [h10x] at h2; cases h2
            have n12 : L 12 = false := by
              cases hx : L 12 with
              | false => rfl
              | true =>
                have h12x := hx
                have h11x : L 11 = true := hcl 12 _ rfl h12x 11 (by decide)
                have h10x : L 10 = true := hcl 11 _ rfl h11x 10 (by decide)
                have h2 : L 10 = false := hLi
                rw [h10x] at h2; cases h2
            have n10 : L 10 = false := hLi
            have c9' : ff 9 = _ := hJ.pre 9 (by decide) (hwt 9 (by decide)) nm nm
            obtain ⟨hsn, hsc⟩ := marksN_news ((HM.out _ hI))
            obtain ⟨ge, cl, hO⟩ := hJ.pre 7 (by decide) (hwt 7 (by decide)) n10 nm
            have cl' : ff 7 = _ := cl
            rw [cl] at hO
            refine wpList_append_sr2 ww rfl _ _ 35 rfl wy.heap.size tK im0 (.agg #[.int .i64 0, .int .i64 0]) 2 16 Tryz.underlying35 hmi hmz0 hmz1 hmz2 rfl (by decide) (.slice (some ⟨ge, 0, none⟩) 0 0) 0 [] cl' hO ma ms.length mc (rowsM ms) c9' hsn (rowsM_len ms) hsc rowsM_one (by unfold maxLen; omega) (by omega) hI.size ?_
            intro a1 c1 wz ho hg
            rw [Nat.zero_add ms.length] at ho ⊢
            rw [List.nil_append] at ho
            simp only [Act.put, List.setIfInBounds_toArray, List.set_cons_succ, List.set_cons_zero]
            have hbz : Below wy.heap.size wy wz := hI.grown hg hI.size (fun y e => (hO.lt y e).1)
            refine hQ _ _ wz rfl (hJ.pre_op (i := 10) (by decide) nm nm1 hbz (fun j v hL hE h => by
                  match j, h with
                  | 0, h | 1, h | 2, h | 3, h | 4, h | 5, h | 6, h | 8, h | 9, h => exact h
                  | 7, _ => exact absurd rfl hE
                  | 10, _ => exact absurd (hL.symm.trans n10) (by decide)
                  | 11, _ => exact absurd (hL.symm.trans n11) (by decide)
                  | 12, _ => exact absurd (hL.symm.trans n12) (by decide)
                  | n + 13, _ => exact True.intro) ⟨a1, c1, rfl, ho⟩)
          · intro L ff kk ww hkk hJ hcl hLi hwt QQ' hQ
            try dsimp only
            have nm : L 13 = false := by
              cases hx : L 13 with
              | false => rfl
              | true =>
                have h13x := hx
                have h12x : L 12 = true := hcl 13 _ rfl h13x 12 (by decide)
                have h11x : L 11 = true := hcl 12 _ rfl h12x 11 (by decide)
                have h2 : L 11 = false := hLi
                rw [h11x] at h2; cases h2
            have nm1 : L 14 = false := by
              cases hx : L 14 with
              | false => rfl
              | true =>
                have h14x := hx
                have h13x : L 13 = true := hcl 14 _ rfl h14x 13 (by decide)
                have h12x : L 12 = true := hcl 13 _ rfl h13x 12 (by decide)
                have h11x : L 11 = true := hcl 12 _ rfl h12x 11 (by decide)
                have h2 : L 11 = false := hLi
                rw [h11x] at h2; cases h2
            have hI := hJ.inv nm
            have c2' : ff 2 = _ := hJ.pre 2 (by decide) (hwt 2 (by decide)) nm nm
            have c4' : ff 4 = _ := hJ.pre 4 (by decide) (hwt 4 (by decide)) nm nm
            have c6' : ff 6 = _ := hJ.pre 6 (by decide) (hwt 6 (by decide)) nm nm
            obtain ⟨a1, c1, cl, hO⟩ := hJ.pre 10 (by decide) (hwt 10 (by decide)) nm nm
            have cl' : ff 10 = _ := cl
            rw [cl] at hO
            go_big_wp2_with fail
            refine hQ _ (FI.mk o n s a1 ms.length c1).val _ ?_ (hJ.pre_op (i := 11) (by decide) nm nm1 hI (fun j v _ _ h => h.kept (Below.refl _ _)) ⟨⟨o, n, s, a1, ms.length, c1⟩, rfl, rfl, rfl, rfl, rfl, hO⟩)
            first | rfl | (simp [upd, c2', c4', c6', cl', FI.val]; done)
          · intro L ff kk ww hkk hJ hcl hLi hwt QQ' hQ
            try dsimp only
            have nm : L 13 = false := by
              cases hx : L 13 with
              | false => rfl
              | true =>
                have h13x := hx
                have h12x : L 12 = true := hcl 13 _ rfl h13x 12 (by decide)
                have h2 : L 12 = false := hLi
                rw [h12x] at h2; cases h2
            have nm1 : L 14 = false := by
              cases hx : L 14 with
              | false => rfl
              | true =>
                have h14x := hx
                have h13x : L 13 = true := hcl 14 _ rfl h14x 13 (by decide)
                have h12x : L 12 = true := hcl 13 _ rfl h13x 12 (by decide)
                have h2 : L 12 = false := hLi
                rw [h12x] at h2; cases h2
            have hI := hJ.inv nm
            obtain ⟨f, cl, hP⟩ := hJ.pre 11 (by decide) (hwt 11 (by decide)) nm nm
            have cl' : ff 11 = _ := cl
            unfold FI.val at cl'
            rw [cl']
            go_big_wp2_with fail
            refine hQ _ _ (ww.alloc (.cells #[.int .i64 f.op, .int .i64 f.num, .string f.name, .slice f.ma f.ml f.mc] tI)) ?_ (hJ.pre_op (i := 12) (by decide) nm nm1 (hI.alloc hI.size _) (fun j v _ _ h => h.kept ((Below.refl _ _).alloc (Nat.le_refl _) _)) ⟨f, ww.heap.size, rfl, heap_alloc_new ww _, hP.below ((Below.refl _ _).alloc (Nat.le_refl _) _)⟩)
            first | rfl | (simp [upd, cl']; done)
          · intro L ff kk ww hkk hJ hcl hLi hwt QQ' hQ
            try dsimp only
            have nm : L 13 = false := hLi
            have nm1 : L 14 = false := by
              cases hx : L 14 with
              | false => rfl
              | true =>
                have h14x := hx
                have h13x : L 13 = true := hcl 14 _ rfl h14x 13 (by decide)
                have h2 : L 13 = false := hLi
                rw [h13x] at h2; cases h2
            have hI := hJ.inv nm
            have c0 : ff 0 = _ := hJ.pre 0 (by decide) (hwt 0 (by decide)) nm nm
            obtain ⟨f, gx, cl, hz5, hP⟩ := hJ.pre 12 (by decide) (hwt 12 (by decide)) nm nm
            have cl' : ff 12 = _ := cl
            have hC := HCF.out.below hI
            have hwz : w.heap.size ≤ ww.heap.size := Nat.le_trans HZW.out hI.size
            refine wpList_append_lies ww rfl _ _ 22 rfl w.heap.size 48 ii0 (.agg #[.int .i64 0, .int .i64 0, .string ⟨#[]⟩, .slice none 0 0]) 4 56 Tryz.underlying22 hi hz0 hz1 hz2 rfl (by decide) (.slice a DS.length c) DS.length (rowsI FS) c0 hC.1 ⟨gx, 0, none⟩ 1 1 (rowsI [f]) cl' rfl (World.news_of_block hz5) rowsI_one (by decide) (by unfold maxLen; omega) (by omega) hwz ww.heap.size rfl ?_
            intro g2 cp2 wz ho hg hat hlt
            simp only [Act.put, List.setIfInBounds_toArray, List.set_cons_succ, List.set_cons_zero]
            have hCC := CodeF.app (C := wy.heap.size) (ds' := [⟨o, n, s, ms⟩]) (fs' := [f]) hC (fun f hf b hb => (codeF_lt HCF.out f hf b hb).2) HZW.out ⟨hP, trivial⟩ (List.pairwise_singleton _ _) ho hg
            refine hQ _ _ wz rfl (hJ.app_op nm1 ⟨some ⟨g2, 0, none⟩, cp2, rfl, ⟨_, hCC⟩, ?_⟩)
            exact (HBW.out.trans (hI.mono HZW.out)).grown hg hwz (fun y e => (hC.1.lt y e).1)
          · intro L ff kk ww hkk hJ hcl hLi hwt QQ' hQ
            try dsimp only
            have hm : L 13 = true := hwt 13 (by decide)
            go_big_wp2_with fail
            refine hQ _ _ _ ?_ (hJ.fin_op hm rfl)
            first | rfl | (simp [upd]; done)
        case hend =>
        intro L ff kk w9 hkb hL hJ
        try dsimp only
        have hfin := hJ.fin (hL 14 (by decide))
        clear hJ hL
        obtain ⟨a9, c9, e9, ho9, hb9⟩ := hfin
        have H9 := Lib.hid ho9
        have B9 := Lib.hid hb9
        clear ho9 hb9
        rw [e9] at H9 ⊢
        clear e9
        go_wp2
        go_ret
        exact ⟨a9, DS.length + 1, c9, rfl, by rw [HCT.out, List.length_append]; rfl, by rw [HCT.out]; exact H9.out, B9.out⟩
theorem makeSC : ∀ (k : Nat) (t : Tr), wT t ≤ k → MakeAtS t
  | 0, .node o n s ks ms, hw => by rw [wT] at hw; omega
  | k + 1, .node o n s ks ms, hw => by
    rw [wT] at hw
    exact makeSN o n s ks ms (fun t ht => makeSC k t (by have := wL_mem ht; omega))
end Go.Proofs.YtjhgmmcglonokaaGreatDoor

namespace Go.Proofs.YtjhgmmcglonokaaGreatDoor
open Go.RowKit
set_option linter.unusedVariables false
set_option linter.unusedSimpArgs false

def codeR (t : Tr) : List Pl := if okR t then codeT t else []
def MakeRP (t : Tr) (w : World) (e : Ending) (w' : World) : Prop := ∃ (a : Option Addr) (n c : Nat), e = .returned (.slice a n c) ∧ n = (codeR t).length ∧ CodeO w.heap.size w' (.slice a n c) (codeR t) ∧ Below w.heap.size w w'
theorem codeT_small {t : Tr} (h : OkP t) : ∀ d ∈ codeT t, d.nm.size ≤ 8 ∧ d.ms.length ≤ 5 := by
  have key : ∀ (k : Nat) (t : Tr), wT t ≤ k → OkP t → ∀ d ∈ codeT t, d.nm.size ≤ 8 ∧ d.ms.length ≤ 5 := by
    intro k
    induction k with
    | zero => intro t hw _; cases t; rw [wT] at hw; omega
    | succ k ih =>
      rintro ⟨o, n, s, ks, ms⟩ hw hok d hd
      obtain ⟨hp, hoks⟩ := okP_parts hok
      rw [wT] at hw
      have hm : ∀ t ∈ ks, ∀ d ∈ codeT t, d.nm.size ≤ 8 ∧ d.ms.length ≤ 5 := fun t ht => ih t (by have := wL_mem ht; omega) (hoks t ht)
      have hfl : ∀ l : List Tr, (∀ t ∈ l, t ∈ ks) → ∀ d ∈ (l.map codeT).flatten, d.nm.size ≤ 8 ∧ d.ms.length ≤ 5 := by
        intro l hl d hd
        obtain ⟨x, hx, hdx⟩ := List.mem_flatten.1 hd
        obtain ⟨t, ht, rfl⟩ := List.mem_map.1 hx
        exact hm t (hl t ht) d hdx
      by_cases h9 : o = 9
      · subst h9
        have h4 : ks.length = 4 := by have := hp.1; unfold kidsN at this; simp at this; omega
        rw [codeT_if h4] at hd
        rcases List.mem_append.1 hd with hd | hd
        · exact hfl _ (fun t ht => List.mem_of_mem_take ht) d hd
        rcases List.mem_cons.1 hd with rfl | hd
        · exact ⟨Nat.zero_le _, Nat.zero_le _⟩
        rcases List.mem_append.1 hd with hd | hd
        · exact hm _ (List.getElem_mem _) d hd
        rcases List.mem_cons.1 hd with rfl | hd
        · exact ⟨Nat.zero_le _, Nat.zero_le _⟩
        · exact hm _ (List.getElem_mem _) d hd
      · rw [codeT_op h9] at hd
        rcases List.mem_append.1 hd with hd | hd
        · exact hfl ks (fun t ht => ht) d hd
        · rw [List.mem_singleton] at hd
          subst hd
          have h3 := hp.2
          unfold HoldsN at h3
          split at h3
          · exact ⟨by show s.size ≤ 8; omega, by show ms.length ≤ 5; omega⟩
          split at h3
          · exact ⟨nmB_size h3.1, by show ms.length ≤ 5; omega⟩
          split at h3
          · exact ⟨by show s.size ≤ 8; omega, (mok_mem h3.2.2).1⟩
          · exact ⟨by show s.size ≤ 8; omega, by show ms.length ≤ 5; omega⟩
  exact key _ t (Nat.le_refl _) h
theorem codeR_small (t : Tr) : (codeR t).length ≤ 60 ∧ ∀ d ∈ codeR t, d.nm.size ≤ 8 ∧ d.ms.length ≤ 5 := by
  unfold codeR
  split
  · rename_i h
    have hp := okR_P h.1
    have := codeT_len hp
    have := okP_w hp
    exact ⟨by omega, codeT_small hp⟩
  · exact ⟨Nat.zero_le _, fun d hd => by simp at hd⟩
set_option maxHeartbeats 8000000 in
theorem specVmMake {t : Tr} {f : Fld} {w : World} (h : TrF All w t f) (hs : szT t ≤ 1048576) :
    Calls Tryz.prog 78 #[f.val] w (MakeRP t w) := by
  have hA : Below w.heap.size w (w.alloc (RBox f)) := (Below.refl _ _).alloc (Nat.le_refl _) _
  have hArg : (w.alloc (RBox f)).heap[w.heap.size]? = some (RBox f) := heap_alloc_new w _
  have hO := Lib.hid (specRuleOk (h.kept (same_of_below hA)) hs)
  have H := Lib.hid h
  have HA := Lib.hid hA
  have HArg := Lib.hid hArg
  clear h hA hArg hs
  unfold RBox at HA HArg hO
  unfold MakeRP
  unfold Fld.val at hO ⊢
  cases hok : decide (okR t) with
  | false =>
    rw [hok] at hO
    have HF : Hid (codeR t = []) := by refine Lib.hid ?_; unfold codeR; rw [if_neg (by simpa using hok)]
    rw [HF.out]
    clear hok
    go_enter Tryz.func78, Tryz.ntmps78
    go_wp2_with fail
    refine hO.out.mono ?_
    rintro e w1 ⟨rfl, d1⟩
    have HB1 := Lib.hid (HA.out.trans (d1.mono HA.out.size))
    clear d1
    go_wp2
    go_ret
    exact ⟨some ⟨w1.heap.size, 0, none⟩, 0, 0, rfl, rfl, CodeO.made HB1.out.size, HB1.out.alloc HB1.out.size _⟩
  | true =>
    rw [hok] at hO
    have hk : okR t := by simpa using hok
    have HF : Hid (codeR t = codeT t) := by refine Lib.hid ?_; unfold codeR; rw [if_pos hk]
    have HP := Lib.hid (okR_P hk.1)
    rw [HF.out]
    clear hok hk
    go_enter Tryz.func78, Tryz.ntmps78
    go_wp2_with fail
    refine hO.out.mono ?_
    rintro e w1 ⟨rfl, d1⟩
    have HB1 := Lib.hid (HA.out.trans (d1.mono HA.out.size))
    have arg1 := (d1.block _ (Array.getElem?_eq_some_iff.1 HArg.out).1).trans HArg.out
    have y0 : w1.cell? ⟨w.heap.size, 0, none⟩ = some (.int .i64 f.op) := by rw [Lib.cell_of_heap arg1]; rfl
    have y1 : w1.cell? ⟨w.heap.size, 1, none⟩ = some (.int .i64 f.num) := by rw [Lib.cell_of_heap arg1]; rfl
    have y2 : w1.cell? ⟨w.heap.size, 2, none⟩ = some (.string f.name) := by rw [Lib.cell_of_heap arg1]; rfl
    have y3 : w1.cell? ⟨w.heap.size, 3, none⟩ = some (.slice f.ka f.kl f.kc) := by rw [Lib.cell_of_heap arg1]; rfl
    have y4 : w1.cell? ⟨w.heap.size, 4, none⟩ = some (.slice f.ma f.ml f.mc) := by rw [Lib.cell_of_heap arg1]; rfl
    have hM := Lib.hid (makeSC _ t (Nat.le_refl _) f w1 (H.out.kept (same_of_below HB1.out)) HP.out)
    unfold Fld.val MakeP at hM
    clear d1 arg1
    go_wp2_with fail
    refine hM.out.mono ?_
    rintro e w2 ⟨a, n, c, rfl, hn, hC, d2⟩
    have HC := Lib.hid (hC.mono HB1.out.size)
    have HN := Lib.hid hn
    clear hC hn y0 y1 y2 y3 y4
    go_wp2
    go_ret
    exact ⟨a, n, c, rfl, HN.out, HC.out, HB1.out.trans (d2.mono HB1.out.size)⟩
end Go.Proofs.YtjhgmmcglonokaaGreatDoor

namespace Go.Proofs.YtjhgmmcglonokaaGreatDoor
open Go.RowKit
set_option linter.unusedVariables false
set_option linter.unusedSimpArgs false
def SMI (a : Option Addr) (k c bx gw : Nat) (o n : Int) (s : ByteArray) (ma : Option Addr) (mc : Nat) (ms : List (Int × Int)) (i : Nat) (W : World) (v : Value) : Prop := match i with
  | 0 => v = .slice a k c
  | 1 => v = .pointer (some ⟨bx, 0, none⟩)
  | 2 => v = .int .i64 o
  | 3 => v = .pointer (some ⟨bx, 1, none⟩)
  | 4 => v = .int .i64 n
  | 5 => v = .pointer (some ⟨bx, 2, none⟩)
  | 6 => v = .string s
  | 7 => v = .pointer (some ⟨bx, 4, none⟩)
  | 8 => v = .slice ma ms.length mc
  | 9 => ∃ (a1 : Option Addr) (c1 : Nat), v = .slice a1 ms.length c1 ∧ W.ownsRow gw tK 2 v ms.length (rowsM ms)
  | 10 => ∃ f : FI, v = f.val ∧ PlO gw W ⟨o, n, s, ms⟩ f
  | 11 => ∃ (f : FI) (gx : Nat), v = .slice (some ⟨gx, 0, none⟩) 1 1 ∧ W.heap[gx]? = some (.cells #[.int .i64 f.op, .int .i64 f.num, .string f.name, .slice f.ma f.ml f.mc] tI (0, 0)) ∧ PlO gw W ⟨o, n, s, ms⟩ f
  | _ => True
theorem SMI.kept {a : Option Addr} {k c bx gw : Nat} {o n : Int} {s : ByteArray} {ma : Option Addr} {mc : Nat} {ms : List (Int × Int)} {i : Nat} {W W' : World} {v : Value} (h : SMI a k c bx gw o n s ma mc ms i W v) (hb : Below W.heap.size W W') : SMI a k c bx gw o n s ma mc ms i W' v := by
  match i, h with
  | 0, h | 1, h | 2, h | 3, h | 4, h | 5, h | 6, h | 7, h | 8, h => exact h
  | 9, ⟨a1, c1, h1, h2⟩ => exact ⟨a1, c1, h1, h2.kept (row := none) (below_grownM hb) (Classical.em _)⟩
  | 10, ⟨f, h1, h2⟩ => exact ⟨f, h1, h2.below hb⟩
  | 11, ⟨f, gx, h1, h2, h3⟩ => exact ⟨f, gx, h1, (hb.block gx (Array.getElem?_eq_some_iff.1 h2).1).trans h2, h3.below hb⟩
  | n + 12, _ => exact True.intro

def CodeV (B : Nat) (W : World) (v : Value) (C : List Pl) : Prop := ∃ (g c : Nat) (fs : List FI), v = .slice (some ⟨g, 0, none⟩) C.length c ∧ CodeF B W v C fs
def RAB (B : Nat) (CA CB : List Pl) (W : World) (x y : Value) : Prop := ∃ (gA cA gB cB : Nat) (FSA FSB : List FI), x = .slice (some ⟨gA, 0, none⟩) CA.length cA ∧ y = .slice (some ⟨gB, 0, none⟩) CB.length cB ∧ CodeF B W x CA FSA ∧ CodeF B W y CB FSB ∧ OtherF FSA FSB
def SAB (B bx b off kl kc : Nat) (fA fB : Fld) (CA CB : List Pl) (i : Nat) (W : World) (v : Value) : Prop := match i with
  | 0 => v = .pointer (some ⟨bx, 3, none⟩)
  | 1 => v = .slice (some ⟨b, off, none⟩) kl kc
  | 2 => v = .pointer (some ⟨b, off + 10, none⟩)
  | 3 => v = fA.val
  | 4 => CodeV B W v CA
  | 5 => v = .pointer (some ⟨bx, 3, none⟩)
  | 6 => v = .slice (some ⟨b, off, none⟩) kl kc
  | 7 => v = .pointer (some ⟨b, off + 15, none⟩)
  | 8 => v = fB.val
  | 9 => CodeV B W v CB
  | _ => True
theorem SAB.kept {B bx b off kl kc : Nat} {fA fB : Fld} {CA CB : List Pl} {i : Nat} {W W' : World} {v : Value} (h : SAB B bx b off kl kc fA fB CA CB i W v) (hb : Below W.heap.size W W') : SAB B bx b off kl kc fA fB CA CB i W' v := by
  match i, h with
  | 0, h | 1, h | 2, h | 3, h | 5, h | 6, h | 7, h | 8, h => exact h
  | 4, ⟨g, c, fs, h1, h2⟩ => exact ⟨g, c, fs, h1, h2.below hb⟩
  | 9, ⟨g, c, fs, h1, h2⟩ => exact ⟨g, c, fs, h1, h2.below hb⟩
  | n + 10, _ => exact True.intro
theorem RAB.kept {B : Nat} {CA CB : List Pl} {W W' : World} {x y : Value} (h : RAB B CA CB W x y) (hb : Below W.heap.size W W') : RAB B CA CB W' x y := by
  obtain ⟨gA, cA, gB, cB, FSA, FSB, h1, h2, h3, h4, h5⟩ := h
  exact ⟨gA, cA, gB, cB, FSA, FSB, h1, h2, h3.below hb, h4.below hb, h5⟩
theorem OtherF.symm {fs fs' : List FI} (h : OtherF fs fs') : OtherF fs' fs := fun f hf f' hf' b hb hb' => h f' hf' f hf b hb' hb
end Go.Proofs.YtjhgmmcglonokaaGreatDoor

namespace Go.Proofs.YtjhgmmcglonokaaGreatDoor
open Go.RowKit
set_option linter.unusedVariables false
set_option linter.unusedSimpArgs false

theorem cnt_small : ∀ {ds : List Pl}, (∀ d ∈ ds, d.ms.length ≤ 5) → cntL ds ≤ 13 * ds.length
  | [], _ => by simp [cntL]
  | d :: r, h => by
    have a := h d (by simp)
    have b := cnt_small (ds := r) (fun x hx => h x (by simp [hx]))
    simp only [cntL, List.map_cons, List.sum_cons, List.length_cons] at b ⊢
    unfold cntP at b ⊢
    omega
theorem owns_same {w w' : World} {B : Nat} {e : TypeId} {z : Nat} {v : Value} {n : Nat} {xs : List Value} (h : w.ownsRow B e z v n xs) (hb : ∀ b, B ≤ b → b < w.heap.size → w'.heap[b]? = w.heap[b]?) : w'.ownsRow B e z v n xs := by
  refine ⟨h.1, ?_⟩
  rcases h.2 with h2 | ⟨g, cap, cur, h3, hg, h4, h5⟩
  · exact Or.inl h2
  · exact Or.inr ⟨g, cap, cur, h3, hg, (hb g hg (Array.getElem?_eq_some_iff.1 h4).1).trans h4, h5⟩
theorem CodeO.same {B : Nat} {w w' : World} {v : Value} {ds : List Pl} (h : CodeO B w v ds) (hb : ∀ b, B ≤ b → b < w.heap.size → w'.heap[b]? = w.heap[b]?) : CodeO B w' v ds := by
  obtain ⟨fs, h1, h2, h3⟩ := h
  exact ⟨fs, owns_same h1 hb, allO_imp (fun _ _ k => ⟨k.1, k.2.1, k.2.2.1, k.2.2.2.1, owns_same k.2.2.2.2 hb⟩) h2, h3⟩
end Go.Proofs.YtjhgmmcglonokaaGreatDoor

namespace Go.Proofs.YtjhgmmcglonokaaGreatDoor
open Go.RowKit
set_option linter.unusedVariables false
set_option linter.unusedSimpArgs false

theorem four {α : Type} {l : List α} (h : l.length = 4) : ∃ a b c d, l = [a, b, c, d] := by
  match l, h with
  | [a, b, c, d], _ => exact ⟨a, b, c, d, rfl⟩
end Go.Proofs.YtjhgmmcglonokaaGreatDoor

namespace Go.Proofs.YtjhgmmcglonokaaGreatDoor
open Go.RowKit
set_option linter.unusedVariables false
set_option linter.unusedSimpArgs false

/-- What is said: a value, a code, and the fuel that is left. -/
structure Said where
  v : Int
  c : Int
  f : Int
def varV : List (ByteArray × Int) → ByteArray → Int × Int
  | [], _ => (0, 4)
  | p :: r, s => if p.1 = s then (if okB p.2 then (p.2, 0) else (0, 2)) else varV r s
/-- One number, or two much. -/
def orB (x : Int) (b : Bool) : Int × Int := if b then (x, 0) else (0, 2)
def twoV (o a b : Int) : Int × Int :=
  if o = 3 then orB (a + b) (okB (a + b)) else if o = 4 then orB (a - b) (okB (a - b)) else if o = 5 then orB (a * b) (okB (a * b))
  else if o = 7 then (if b < a then b else a, 0) else (if a < b then b else a, 0)
def partW (a b c : Int) : Int × Int := if c = 0 then (0, 3) else orB (partV a b c) (partOk a b c)
def tierV (ms : List (Int × Int)) (a : Int) : Int × Int := if a < 0 then (0, 2) else orB (tSum (mF ms) (mP ms) ms.length a ms.length) (decide (tSum (mF ms) (mP ms) ms.length a ms.length ≤ 1000000000000))
def doR (ns : List (ByteArray × Int)) (o n : Int) (s : ByteArray) (ms : List (Int × Int)) (l : List Int) : Int × Int :=
  if o = 1 then (n, 0) else if o = 2 then varV ns s else if o = 6 then partW (l.getD 0 0) (l.getD 1 0) (l.getD 2 0)
  else if o = 10 then tierV ms (l.getD 0 0) else twoV o (l.getD 0 0) (l.getD 1 0)
/-- A value within limits, a code that is known, no more fuel than there was. -/
def SOk (fu : Int) (r : Said) : Prop := okB r.v = true ∧ (0 ≤ r.c ∧ r.c ≤ 4) ∧ (0 ≤ r.f ∧ r.f ≤ fu) ∧ (r.c ≠ 0 → r.v = 0)
theorem okB0 : okB 0 = true := by decide
theorem varV_ok : ∀ (ns : List (ByteArray × Int)) (s : ByteArray), okB (varV ns s).1 = true ∧ (0 ≤ (varV ns s).2 ∧ (varV ns s).2 ≤ 4) ∧ ((varV ns s).2 ≠ 0 → (varV ns s).1 = 0)
  | [], s => by simp [varV, okB0]
  | p :: r, s => by
    rw [varV]
    split
    · split
      · rename_i h; simp [h]
      · simp [okB0]
    · exact varV_ok r s
theorem orB_ok {x : Int} {b : Bool} (h : b = true → okB x = true) : okB (orB x b).1 = true ∧ (0 ≤ (orB x b).2 ∧ (orB x b).2 ≤ 4) ∧ ((orB x b).2 ≠ 0 → (orB x b).1 = 0) := by
  cases b with
  | true => simp [orB, h rfl]
  | false => simp [orB, okB0]
theorem partOk_ok {a b c : Int} (h : partOk a b c = true) : okB (partV a b c) = true := by
  have h2 := h
  unfold partOk at h2
  simp only [Bool.and_eq_true] at h2
  rw [partV, if_pos h]
  exact h2.2
theorem getD_ok {l : List Int} (h : ∀ x ∈ l, okB x = true) (i : Nat) : okB (l.getD i 0) = true := by
  rcases Nat.lt_or_ge i l.length with hi | hi
  · have : l.getD i 0 = l[i] := by simp [hi]
    rw [this]; exact h _ (List.getElem_mem _)
  · have : l.getD i 0 = 0 := by simp [List.getD, List.getElem?_eq_none hi]
    rw [this]; exact okB0
theorem doR_ok {ns : List (ByteArray × Int)} {o n : Int} {s : ByteArray} {ms : List (Int × Int)} {l : List Int} (hp : HoldsN o n s ms) (hl : ∀ x ∈ l, okB x = true) : okB (doR ns o n s ms l).1 = true ∧ (0 ≤ (doR ns o n s ms l).2 ∧ (doR ns o n s ms l).2 ≤ 4) ∧ ((doR ns o n s ms l).2 ≠ 0 → (doR ns o n s ms l).1 = 0) := by
  have g0 := okB_yes (getD_ok hl 0)
  have g1 := okB_yes (getD_ok hl 1)
  unfold doR
  split
  · rename_i h1
    unfold HoldsN at hp
    rw [if_pos h1] at hp
    exact ⟨okB_mk (by simp only; omega), by simp, by simp⟩
  split
  · exact varV_ok ns s
  split
  · unfold partW
    split
    · exact ⟨okB0, by simp, by simp⟩
    · exact orB_ok partOk_ok
  split
  · rename_i h1 h2 h6 h10
    unfold tierV
    split
    · exact ⟨okB0, by simp, by simp⟩
    · rename_i hn
      refine orB_ok fun h => okB_mk ?_
      have h3 := of_decide_eq_true h
      unfold HoldsN at hp
      rw [if_neg h1, if_neg h2, if_pos h10] at hp
      have := (tSum_bd hp.2.2 (by omega : 0 ≤ l.getD 0 0) g0.2 ms.length (Nat.le_refl _)).1
      omega
  · unfold twoV
    split
    · exact orB_ok fun h => h
    split
    · exact orB_ok fun h => h
    split
    · exact orB_ok fun h => h
    split
    · refine ⟨?_, by simp, by simp⟩
      simp only
      split
      · exact getD_ok hl 1
      · exact getD_ok hl 0
    · refine ⟨?_, by simp, by simp⟩
      simp only
      split
      · exact getD_ok hl 1
      · exact getD_ok hl 0
end Go.Proofs.YtjhgmmcglonokaaGreatDoor

namespace Go.Proofs.YtjhgmmcglonokaaGreatDoor
open Go.RowKit
set_option linter.unusedVariables false
set_option linter.unusedSimpArgs false

/-- Names and their numbers in memory. -/
def PairsN (N : Nat → Prop) (w : World) (a : Option Addr) (len : Nat) (ns : List (ByteArray × Int)) : Prop :=
  len = ns.length ∧ (len = 0 ∨ ∃ b off, a = some ⟨b, off, none⟩ ∧ N b ∧ b < w.heap.size ∧ ∀ i, i < len → w.cell? ⟨b, off + i * 2, none⟩ = some (.string (ns.getD i (⟨#[]⟩, 0)).1) ∧ w.cell? ⟨b, off + i * 2 + 1, none⟩ = some (.int .i64 (ns.getD i (⟨#[]⟩, 0)).2))
theorem PairsN.kept {N : Nat → Prop} {w w' : World} {a : Option Addr} {len : Nat} {ns : List (ByteArray × Int)} (h : PairsN N w a len ns) (s : Same N w w') : PairsN N w' a len ns := by
  obtain ⟨h1, h2⟩ := h
  refine ⟨h1, ?_⟩
  rcases h2 with h | ⟨b, off, k1, k2, k3, k4⟩
  · exact Or.inl h
  · have e := s.2 b k2 k3
    exact Or.inr ⟨b, off, k1, k2, Nat.lt_of_lt_of_le k3 s.1, fun i hi => ⟨(World.cell?_of_block (a := ⟨b, off + i * 2, none⟩) e).trans (k4 i hi).1, (World.cell?_of_block (a := ⟨b, off + i * 2 + 1, none⟩) e).trans (k4 i hi).2⟩⟩
theorem PairsN.mono {N N' : Nat → Prop} (hN : ∀ b, N b → N' b) {w : World} {a : Option Addr} {len : Nat} {ns : List (ByteArray × Int)} (h : PairsN N w a len ns) : PairsN N' w a len ns := by
  obtain ⟨h1, h2⟩ := h
  refine ⟨h1, ?_⟩
  rcases h2 with h | ⟨b, off, k1, k2, k3, k4⟩
  · exact Or.inl h
  · exact Or.inr ⟨b, off, k1, hN b k2, k3, k4⟩
end Go.Proofs.YtjhgmmcglonokaaGreatDoor

namespace Go.Proofs.YtjhgmmcglonokaaGreatDoor
open Go.RowKit
set_option linter.unusedVariables false
set_option linter.unusedSimpArgs false

/-- What a rule is run by, in memory: the names, and the fuel that is left. -/
def Ev (w : World) (eb : Nat) (na : Option Addr) (nl nc : Nat) (fu : Int) : Prop := eb < w.heap.size ∧ w.cell? ⟨eb, 0, none⟩ = some (.slice na nl nc) ∧ w.cell? ⟨eb, 1, none⟩ = some (.int .i64 fu) ∧ w.frozen? ⟨eb, 1, none⟩ = false
theorem Ev.kept {w w' : World} {eb : Nat} {na : Option Addr} {nl nc : Nat} {fu : Int} (h : Ev w eb na nl nc fu) (hb : Below w.heap.size w w') : Ev w' eb na nl nc fu := by
  have e := hb.block eb h.1
  exact ⟨Nat.lt_of_lt_of_le h.1 hb.size, (World.cell?_of_block (a := ⟨eb, 0, none⟩) e).trans h.2.1, (World.cell?_of_block (a := ⟨eb, 1, none⟩) e).trans h.2.2.1, (World.frozen?_of_block (a := ⟨eb, 1, none⟩) e).trans h.2.2.2⟩
theorem Ev.blk {w w' : World} {eb : Nat} {na : Option Addr} {nl nc : Nat} {fu : Int} (h : Ev w eb na nl nc fu) (e : w'.heap[eb]? = w.heap[eb]?) (hs : w.heap.size ≤ w'.heap.size) : Ev w' eb na nl nc fu :=
  ⟨Nat.lt_of_lt_of_le h.1 hs, (World.cell?_of_block (a := ⟨eb, 0, none⟩) e).trans h.2.1, (World.cell?_of_block (a := ⟨eb, 1, none⟩) e).trans h.2.2.1, (World.frozen?_of_block (a := ⟨eb, 1, none⟩) e).trans h.2.2.2⟩
theorem Ev.set {w : World} {eb : Nat} {na : Option Addr} {nl nc : Nat} {fu g : Int} (h : Ev w eb na nl nc fu) : Ev (w.setCell ⟨eb, 1, none⟩ (.int .i64 g)) eb na nl nc g := by
  obtain ⟨h1, h2, h3, h4⟩ := h
  refine ⟨by simpa [World.setCell] using h1, ?_, ?_, ?_⟩
  · rw [World.cell?_setCell_other (h := by simp)]; exact h2
  · exact World.cell?_setCell_same (h := h3) ..
  · rw [World.frozen?_setCell]; exact h4
def IntsN (N : Nat → Prop) (w : World) (a : Option Addr) (len : Nat) (l : List Int) : Prop :=
  len = l.length ∧ (len = 0 ∨ ∃ b off, a = some ⟨b, off, none⟩ ∧ N b ∧ b < w.heap.size ∧ ∀ i, i < len → w.cell? ⟨b, off + i, none⟩ = some (.int .i64 (l.getD i 0)))
theorem IntsN.kept {N : Nat → Prop} {w w' : World} {a : Option Addr} {len : Nat} {l : List Int} (h : IntsN N w a len l) (s : Same N w w') : IntsN N w' a len l := by
  obtain ⟨h1, h2⟩ := h
  refine ⟨h1, ?_⟩
  rcases h2 with h | ⟨b, off, k1, k2, k3, k4⟩
  · exact Or.inl h
  · have e := s.2 b k2 k3
    exact Or.inr ⟨b, off, k1, k2, Nat.lt_of_lt_of_le k3 s.1, fun i hi => (World.cell?_of_block (a := ⟨b, off + i, none⟩) e).trans (k4 i hi)⟩
end Go.Proofs.YtjhgmmcglonokaaGreatDoor
