/-
  A rule's text: the program's answer.
  Whether a rule is ok, and its text: the model's answers and the program's.
-/
import Derived.Test.YtemjooejfmkkbaaGreatDoorMarksText
import Derived.Test.YtemjooejfmkkbaaGreatDoorRuleTextM
import Derived.Test.YtemjooejfmkkbaaGreatDoorJ18
import Derived.Test.YtemjooejfmkkbaaGreatDoorRuleFits
namespace Go.Proofs.YtemjooejfmkkbaaGreatDoor
open Go.RowKit
set_option linter.unusedVariables false
set_option linter.unusedSimpArgs false

def strsT (ks : List Tr) : List Value := ks.map fun t => .string (textB t)
def TextIAt (t : Tr) : Prop := ∀ (f : Fld) (w : World), TrF All w t f → OkP t → Laid w → Calls Tryz.prog 94 #[f.val] w fun e w' => e = .returned (.string (textB t)) ∧ Below w.heap.size w w'
theorem bsz (l : List UInt8) : (⟨l.toArray⟩ : ByteArray).size = l.length := by show l.toArray.size = _; simp
set_option maxRecDepth 20000 in
set_option maxHeartbeats 8000000 in
theorem textIN (o n : Int) (s : ByteArray) (ks : List Tr) (ms : List (Int × Int)) (ih : ∀ t ∈ ks, TextIAt t) : TextIAt (.node o n s ks ms) := by
  intro f w h hok hL
  obtain ⟨it0, hi, hz0, hz1, hz2⟩ := info_parts infoStrM
  obtain ⟨e1, e2, e3, hm, hk, hc1, hc2⟩ := trF_iff.1 h
  obtain ⟨fo, fn, fs, ka, kl, kc, ma, ml, mc⟩ := f
  dsimp only at e1 e2 e3 hm hk hc1 hc2
  have q1 := e1.symm
  have q2 := e2.symm
  have q3 := e3.symm
  clear e1 e2 e3
  subst q1 q2 q3
  obtain rfl := hk.1
  obtain rfl := hm.1
  obtain ⟨hpl, hoks⟩ := okP_parts hok
  have hw29 : wL ks ≤ 29 := by have := okP_w hok; rw [wT] at this; omega
  have hin := op_in hpl
  have HK := Lib.hid hk
  have HM := Lib.hid hm
  have IH := Lib.hid ih
  have HPL := Lib.hid hpl
  have HOK := Lib.hid hoks
  have HL := Lib.hid hL
  clear h hk hm ih hc1 hc2 hpl hoks hok hL
  unfold Fld.val
  dsimp only
  have hA : Below w.heap.size w (w.alloc (.cells #[.int .i64 o, .int .i64 n, .string s, .slice ka ks.length kc, .slice ma ms.length mc] 38)) := (Below.refl _ _).alloc (Nat.le_refl _) _
  have hArg : (w.alloc (.cells #[.int .i64 o, .int .i64 n, .string s, .slice ka ks.length kc, .slice ma ms.length mc] 38)).heap[w.heap.size]? = some (.cells #[.int .i64 o, .int .i64 n, .string s, .slice ka ks.length kc, .slice ma ms.length mc] 38 (0, 0)) := heap_alloc_new w _
  have HA := Lib.hid hA
  have HArg := Lib.hid hArg
  clear hA hArg
  by_cases h1 : o = 1
  · subst h1
    have hn : -1000000000 ≤ n ∧ n ≤ 1000000000 := by have := HPL.out.2; unfold HoldsN at this; rw [if_pos rfl] at this; exact this.1
    have HT : Hid (textB (.node 1 n s ks ms) = intB n) := by show _ = _; rw [textB, textT, if_pos rfl]; rfl
    go_enter Tryz.func94, Tryz.ntmps94
    go_wp2_with fail
    refine (itoaZ n _ (laid_stays HL.out HA.out) (by omega) (by omega)).mono ?_
    rintro e w1 ⟨rfl, d1⟩
    go_wp2
    go_ret
    exact ⟨retS HT.out.symm, HA.out.trans (d1.mono HA.out.size)⟩
  by_cases h2 : o = 2
  · subst h2
    have HT : Hid (textB (.node 2 n s ks ms) = s) := by show _ = _; rw [textB, textT, if_neg (by decide), if_pos rfl]
    go_enter Tryz.func94, Tryz.ntmps94
    go_wp2
    go_ret
    exact ⟨retS HT.out.symm, HA.out⟩
  have b1 : (o == 1) = false := by simpa using h1
  have b2 : (o == 2) = false := by simpa using h2
  have HT : Hid (textT (.node o n s ks ms) = wordT o ++ 40 :: (joinS 44 (ks.map textB) ++ ((if ms.length = 0 then [] else 59 :: marksT 44 ms) ++ [41]))) := textT_op h1 h2
  have hwl := wordT_len o
  have HMO : Hid ((o = 10 → MOk (mF ms) (mP ms) ms.length) ∧ (o ≠ 10 → ms.length = 0)) := by
    have h3 := HPL.out.2
    unfold HoldsN at h3
    rw [if_neg h1, if_neg h2] at h3
    split at h3
    · exact ⟨fun _ => h3.2.2, fun h => absurd ‹_› h⟩
    · exact ⟨fun h => absurd h ‹_›, fun _ => h3.2.2⟩
  have hkpos : 0 < ks.length := by
    have h3 := HPL.out.1
    unfold kidsN at h3
    repeat (split at h3; · omega)
    omega
  have hkb : ks.length ≤ 29 := by have := len_wL ks; omega
  have kidz := kidsT_len HOK.out hw29 ks.length
  rw [List.take_length] at kidz
  clear h1 h2
  have Hin := Lib.hid hin
  clear hin
  go_enter Tryz.func94, Tryz.ntmps94
  go_wp2_with fail
  generalize hW0 : (w.alloc (.cells #[.int .i64 o, .int .i64 n, .string s, .slice ka ks.length kc, .slice ma ms.length mc] 38)) = W0 at *
  clear hW0
  have sz0 : w.heap.size < W0.heap.size := (Array.getElem?_eq_some_iff.1 HArg.out).1
  go_loopw [3, 21] (fun vl vi wr => ∃ (k c : Nat) (a : Option Addr), k ≤ ks.length ∧ vi = .int .i64 k ∧ vl = .slice a k c ∧ wr.ownsRow W0.heap.size 9 1 (.slice a k c) k (strsT (ks.take k)) ∧ Below W0.heap.size W0 wr) (fun _ vi _ => ks.length - (intOf vi).toNat)
  case atStart => exact ⟨0, 0, none, Nat.zero_le _, rfl, rfl, World.ownsRow_nil _ _ _ _, Below.refl _ _⟩
  case round =>
    obtain ⟨k, c, a, hk, rfl, rfl, hown, hb⟩ := hrel
    have argr : wr.heap[w.heap.size]? = some (.cells #[.int .i64 o, .int .i64 n, .string s, .slice ka ks.length kc, .slice ma ms.length mc] 38 (0, 0)) := (hb.block _ sz0).trans HArg.out
    have hbw : Below w.heap.size w wr := HA.out.trans (hb.mono HA.out.size)
    rcases Nat.lt_or_ge k ks.length with hlt | hge
    · have k1 : (k : Int) < ks.length := by omega
      have k0 : (0 : Int) ≤ k := by omega
      obtain ⟨b, off, rfl, -, hbl, hrow⟩ := (HK.out.kept (same_of_below (N := All) hbw)).cells (by omega)
      obtain ⟨f, ⟨y0, y1, y2, y3, y4⟩, ht⟩ := hrow k hlt
      have hXB : Below wr.heap.size wr (wr.alloc (.cells #[.int .i64 f.op, .int .i64 f.num, .string f.name, .slice f.ka f.kl f.kc, .slice f.ma f.ml f.mc] 38)) := (Below.refl _ _).alloc (Nat.le_refl _) _
      have hcall := Lib.hid (IH.out ks[k] (List.getElem_mem _) f _ (ht.kept (same_of_below hXB)) (HOK.out _ (List.getElem_mem _)) (laid_stays HL.out (hbw.trans (hXB.mono hbw.size))))
      have HXB := Lib.hid hXB
      have HOW := Lib.hid hown
      have HB := Lib.hid hb
      have HSN : Hid (strsT (ks.take (k + 1)) = strsT (ks.take k) ++ [.string (textB ks[k])]) := by show _ = _; unfold strsT; rw [List.take_succ_eq_append_getElem hlt, List.map_append]; rfl
      generalize hX : textB ks[k] = X at *
      clear hrow hbl ht argr hX hXB hown hb hbw
      go_wp2_with fail
      refine hcall.out.mono ?_
      rintro e w2 ⟨rfl, d2⟩
      clear y0 y1 y2 y3 y4
      have hb2 := Lib.hid (HB.out.trans ((HXB.out.trans (d2.mono HXB.out.size)).mono HB.out.size))
      have hown2 : Hid (w2.ownsRow W0.heap.size 9 1 (.slice a k c) k (strsT (ks.take k))) := (HOW.out.kept (row := none) (below_grownM HXB.out) (Classical.em _)).kept (row := none) (below_grownM d2) (Classical.em _)
      have hz2' : W0.heap.size ≤ w2.heap.size := hb2.out.size
      clear d2
      go_wp2_with (at_builtin; refine wpList_append_lies ?pw ?p1 ?ps ?px 60 ?p2 W0.heap.size 9 it0 (.string ⟨#[]⟩) 1 16 ?p3 ?p4 ?p5 ?p6 ?p7 ?p8 ?p9 (.slice a k c) k (strsT (ks.take k)) ?p10 ?ph1 ⟨w2.heap.size, 0, none⟩ 1 1 [.string X] ?p11 ?p12 ?ph2 ?ph3 ?pc1 ?pc2 ?pc3 ?pc4 (w2.heap.size + 1) ?pc5 ?_; (case p1 => rfl); (case p2 => rfl); (case p10 => rfl); (case p11 => rfl); (case ph1 => exact hown2.out.alloc _); (case p3 => exact Tryz.underlying60); (case p4 => exact hi); (case p5 => exact hz0); (case p6 => exact hz1); (case p7 => exact hz2); (case p8 => rfl); (case p9 => decide); (case p12 => rfl); (case ph2 => exact World.news_of_block (heap_alloc_new w2 _)); (case ph3 => intro u hu; simp at hu; subst hu; rfl); (case pc1 => decide); (case pc2 => unfold maxLen; omega); (case pc3 => omega); (case pc4 => simp only [World.size_alloc]; omega); (case pc5 => simp only [World.size_alloc]); intro g2 cp2 wz hownZ hgrowZ hatZ hltZ)
      have hbZ : Below W0.heap.size W0 wz := (hb2.out.alloc hz2' (.cells #[.string X] 9)).grown hgrowZ (by simp only [World.size_alloc]; omega) (fun y e => ((hown2.out.alloc (.cells #[.string X] 9)).lt y e).1)
      rw [← HSN.out] at hownZ
      go_roundw
      case rel => exact ⟨k + 1, cp2, some ⟨g2, 0, none⟩, by omega, by go_num, rfl, hownZ, hbZ⟩
      case measure => simp [intOf]; omega
    · obtain rfl : k = ks.length := by omega
      rw [List.take_length] at hown
      obtain ⟨g, cap, cur, hv, hbg, hcur, hnc, hcm, hcs, htk⟩ : ∃ g cap cur, (Value.slice a ks.length c) = .slice (some ⟨g, 0, none⟩) ks.length cap ∧ W0.heap.size ≤ g ∧ wr.heap[g]? = some (.cells cur 9 (0, 0)) ∧ ks.length ≤ cap ∧ cap ≤ maxLen ∧ cur.size = cap * 1 ∧ cur.toList.take (ks.length * 1) = strsT ks := by
        obtain ⟨-, h | h⟩ := hown
        · exact absurd h.2 (by omega)
        · exact h
      obtain ⟨rfl, -, rfl⟩ : a = some ⟨g, 0, none⟩ ∧ ks.length = ks.length ∧ c = cap := by simpa using hv
      have hcells : ∀ (j : Nat) x, (ks.map textB)[j]? = some x → wr.cell? ⟨g, 0 + j, none⟩ = some (.string x) := by
        intro j x hj
        have hjk : j < ks.length := by have := (List.getElem?_eq_some_iff.1 hj).1; simpa using this
        rw [Nat.zero_add, hown.cellAt j (by omega)]
        unfold strsT
        rw [List.getElem?_map] at hj ⊢
        cases hq : ks[j]? with
        | none => rw [hq] at hj; cases hj
        | some q => rw [hq] at hj; cases hj; rfl
      have J := Tryz.strings_Join g 0 c (ks.map textB) ⟨#[44]⟩ wr hcells (lt_heapM hcur) (by rw [List.length_map]; omega) (by rw [List.length_map]; omega) (by show (joinS 44 (ks.map textB)).length ≤ _; omega)
      rw [List.length_map] at J
      have HJ : Hid (Calls Tryz.prog 152 #[.slice (some ⟨g, 0, none⟩) ks.length c, .string ⟨#[44]⟩] wr fun e w' => e = .returned (.string ⟨(joinS 44 (ks.map textB)).toArray⟩) ∧ Below wr.heap.size wr w') := J
      have HBW := Lib.hid hbw
      have HAr := Lib.hid argr
      clear J hcells hown hb hcur htk hcs hv argr hbw
      have jz : (⟨(joinS 44 (ks.map textB)).toArray⟩ : ByteArray).size ≤ 7000 := by rw [bsz]; exact kidz
      generalize hJS : (⟨(joinS 44 (ks.map textB)).toArray⟩ : ByteArray) = JS at *
      have HJS : Hid (JS.data.toList = joinS 44 (ks.map textB)) := by show _ = _; rw [← hJS]
      clear hJS kidz
      go_wp2_with fail
      refine HJ.out.mono ?_
      rintro e wj ⟨rfl, dj⟩
      have hBj := Lib.hid (HBW.out.trans (dj.mono HBW.out.size))
      have hAj := Lib.hid ((dj.block _ (Array.getElem?_eq_some_iff.1 HAr.out).1).trans HAr.out)
      clear dj
      have ca0 : wj.cell? ⟨w.heap.size, 0, none⟩ = some (Value.int .i64 o) := by rw [Lib.cell_of_heap hAj.out]; rfl
      have ca4 : wj.cell? ⟨w.heap.size, 4, none⟩ = some (Value.slice ma ms.length mc) := by rw [Lib.cell_of_heap hAj.out]; rfl
      have mk := fun W => meth_word o Hin.out W
      have nk := fun W => nil_word o Hin.out W
      have fk := fun a W => call_word o Hin.out a W
      have hws : (⟨(wordT o).toArray⟩ : ByteArray).size ≤ 5 := by rw [bsz]; exact hwl
      have HW : Hid ((⟨(wordT o).toArray⟩ : ByteArray).data.toList = wordT o) := rfl
      have cW : Hid (∀ W, Calls Tryz.prog (wordF o) #[.agg #[]] W fun e w' => e = .returned (.string ⟨(wordT o).toArray⟩) ∧ Below W.heap.size W w') := fun W => wordI o Hin.out W
      generalize (⟨(wordT o).toArray⟩ : ByteArray) = WB at *
      have s40 : (⟨#[40]⟩ : ByteArray).size = 1 := rfl
      have s41 : (⟨#[41]⟩ : ByteArray).size = 1 := rfl
      have s59 : (⟨#[59]⟩ : ByteArray).size = 1 := rfl
      by_cases h10 : o = 10
      · have g0 : (o == 10) = true := by simpa using h10
        have hmo := HMO.out.1 h10
        have HMo := Lib.hid hmo
        have hcM := Lib.hid (marksI 44 ma mc ms wj (HM.out.kept (same_of_below hBj.out)) hmo (laid_stays HL.out hBj.out))
        have mz : (⟨(marksT 44 ms).toArray⟩ : ByteArray).size ≤ 220 := by rw [bsz]; exact marksT_len 44 hmo
        have HMT : Hid ((⟨(marksT 44 ms).toArray⟩ : ByteArray).data.toList = marksT 44 ms) := rfl
        have hml : ms.length ≠ 0 := by have := hmo.1; omega
        generalize (⟨(marksT 44 ms).toArray⟩ : ByteArray) = MT at *
        have HO10 := Lib.hid h10
        clear hmo h10
        have m1 : ¬ 9223372036854775807 < 1 + MT.size := by omega
        have m2 : ¬ 9223372036854775807 < JS.size + (1 + MT.size) := by omega
        have m3 : ¬ 9223372036854775807 < WB.size + 1 := by omega
        have m4 : ¬ 9223372036854775807 < WB.size + 1 + (JS.size + (1 + MT.size)) := by omega
        have m5 : ¬ 9223372036854775807 < WB.size + 1 + (JS.size + (1 + MT.size)) + 1 := by omega
        go_wp2_with fail
        refine hcM.out.mono ?_
        rintro e wm ⟨rfl, dm⟩
        have hBm := Lib.hid (hBj.out.trans (dm.mono hBj.out.size))
        have ca0m : wm.cell? ⟨w.heap.size, 0, none⟩ = some (Value.int .i64 o) := (dm.cell (p := ⟨w.heap.size, 0, none⟩) (Array.getElem?_eq_some_iff.1 hAj.out).1).trans ca0
        clear dm
        go_wp2_with fail
        refine (opOf o wm Hin.out).mono ?_
        rintro e wo ⟨rfl, d3⟩
        have hBo := Lib.hid (hBm.out.trans (d3.mono hBm.out.size))
        clear d3
        go_wp2_with fail
        refine (cW.out wo).mono ?_
        rintro e wq ⟨rfl, d4⟩
        have hBq := hBo.out.trans (d4.mono hBo.out.size)
        clear d4
        go_wp2
        go_ret
        refine ⟨retS ?_, hBq⟩
        rw [textB]
        refine bext ?_
        rw [HT.out, if_neg hml]
        simp [HW.out, HJS.out, HMT.out]
      · have g0 : (o == 10) = false := by simpa using h10
        have hm0 := HMO.out.2 h10
        have HM0 := Lib.hid hm0
        have HO10 := Lib.hid h10
        clear hm0 h10
        have m3 : ¬ 9223372036854775807 < WB.size + 1 := by omega
        have m4 : ¬ 9223372036854775807 < WB.size + 1 + JS.size := by omega
        have m5 : ¬ 9223372036854775807 < WB.size + 1 + JS.size + 1 := by omega
        go_wp2_with fail
        refine (opOf o wj Hin.out).mono ?_
        rintro e wo ⟨rfl, d3⟩
        have hBo := Lib.hid (hBj.out.trans (d3.mono hBj.out.size))
        clear d3
        go_wp2_with fail
        refine (cW.out wo).mono ?_
        rintro e wq ⟨rfl, d4⟩
        have hBq := hBo.out.trans (d4.mono hBo.out.size)
        clear d4
        go_wp2
        go_ret
        refine ⟨retS ?_, hBq⟩
        rw [textB]
        refine bext ?_
        rw [HT.out, if_pos HM0.out]
        simp [HW.out, HJS.out]
theorem textIC : ∀ (k : Nat) (t : Tr), wT t ≤ k → TextIAt t
  | 0, .node o n s ks ms, hw => by rw [wT] at hw; omega
  | k + 1, .node o n s ks ms, hw => by
    rw [wT] at hw
    exact textIN o n s ks ms (fun t ht => textIC k t (by have := wL_mem ht; omega))
end Go.Proofs.YtemjooejfmkkbaaGreatDoor

namespace Go.Proofs.YtemjooejfmkkbaaGreatDoor
open Go.RowKit
set_option linter.unusedVariables false
set_option linter.unusedSimpArgs false

def okR (t : Tr) : Prop := 0 ≤ partsT t 1 30 ∧ (textT t).length ≤ 300
instance (t : Tr) : Decidable (okR t) := by unfold okR; infer_instance
theorem okR_P {t : Tr} (h : 0 ≤ partsT t 1 30) : OkP t := ⟨1, 30, Int.le_refl _, h⟩
def RBox (f : Fld) : Obj := .cells #[.int .i64 f.op, .int .i64 f.num, .string f.name, .slice f.ka f.kl f.kc, .slice f.ma f.ml f.mc] 38
set_option maxHeartbeats 4000000 in
theorem specRuleOk {t : Tr} {f : Fld} {w : World} (h : TrF All w t f) (hs : szT t ≤ 1048576) :
    Calls Tryz.prog 38 #[f.val] w fun e w' => e = .returned (.bool (decide (okR t))) ∧ Below w.heap.size w w' := by
  have hA : Below w.heap.size w (w.alloc (RBox f)) := (Below.refl _ _).alloc (Nat.le_refl _) _
  have hArg : (w.alloc (RBox f)).heap[w.heap.size]? = some (RBox f) := heap_alloc_new w _
  have hP := Lib.hid (partsC _ t (Nat.le_refl _) hs f 1 30 _ (h.kept (same_of_below hA)) (by omega) (by omega) (by omega))
  have H := Lib.hid h
  have HA := Lib.hid hA
  have HS := Lib.hid hs
  clear h hA hs
  unfold Fld.val
  generalize hpv : partsT t 1 30 = pv at *
  have HPV := Lib.hid hpv
  clear hpv
  rcases Int.lt_or_le pv 0 with c | c
  · have z0 : decide (0 ≤ pv) = false := decide_eq_false (by omega)
    have hno : Hid (decide (okR t) = false) := decide_eq_false (fun k => by have := k.1; rw [HPV.out] at this; omega)
    go_enter Tryz.func38, Tryz.ntmps38
    go_wp2_with fail
    refine hP.out.mono ?_
    rintro e w1 ⟨rfl, d1⟩
    go_wp2
    go_ret
    exact ⟨retB hno.out.symm, HA.out.trans (d1.mono HA.out.size)⟩
  · have z0 : decide (0 ≤ pv) = true := decide_eq_true c
    have hok : Hid (OkP t) := okR_P (by rw [HPV.out]; exact c)
    have HArg := Lib.hid hArg
    have hTL := textT_len _ t (Nat.le_refl _) hok.out
    have hTW := okP_w hok.out
    have hTZ : (textB t).size ≤ 7200 := by rw [textB_size]; omega
    have HE : Hid (decide (okR t) = decide (((textB t).size : Int) ≤ 300)) := by
      show _ = _
      rw [textB_size]
      refine decide_eq_decide.2 ⟨fun k => by have := k.2; omega, fun k => ⟨by rw [HPV.out]; exact c, by omega⟩⟩
    clear hArg hTL hTW
    go_enter Tryz.func38, Tryz.ntmps38
    go_wp2_with fail
    refine hP.out.mono ?_
    rintro e w1 ⟨rfl, d1⟩
    have arg1 := (d1.block _ (by simp)).trans HArg.out
    have hB1 := Lib.hid (HA.out.trans (d1.mono HA.out.size))
    unfold RBox at arg1
    have y0 : w1.cell? ⟨w.heap.size, 0, none⟩ = some (.int .i64 f.op) := by rw [Lib.cell_of_heap arg1]; rfl
    have y1 : w1.cell? ⟨w.heap.size, 1, none⟩ = some (.int .i64 f.num) := by rw [Lib.cell_of_heap arg1]; rfl
    have y2 : w1.cell? ⟨w.heap.size, 2, none⟩ = some (.string f.name) := by rw [Lib.cell_of_heap arg1]; rfl
    have y3 : w1.cell? ⟨w.heap.size, 3, none⟩ = some (.slice f.ka f.kl f.kc) := by rw [Lib.cell_of_heap arg1]; rfl
    have y4 : w1.cell? ⟨w.heap.size, 4, none⟩ = some (.slice f.ma f.ml f.mc) := by rw [Lib.cell_of_heap arg1]; rfl
    have hT := Lib.hid (textC _ t (Nat.le_refl _) f w1 (H.out.kept (same_of_below hB1.out)) hok.out)
    clear arg1 d1
    go_wp2_with fail
    refine hT.out.mono ?_
    rintro e w2 ⟨rfl, d2⟩
    go_wp2
    go_ret
    refine ⟨retB ?_, hB1.out.trans (d2.mono hB1.out.size)⟩
    rw [HE.out]
set_option maxHeartbeats 4000000 in
theorem implRuleOk {t : Tr} {f : Fld} {w : World} (h : TrF All w t f) (hs : szT t ≤ 1048576) (hL : Laid w) :
    Calls Tryz.prog 37 #[f.val] w fun e w' => e = .returned (.bool (decide (okR t))) ∧ Below w.heap.size w w' := by
  have hA : Below w.heap.size w ((w.alloc (RBox f)).alloc (.cells #[.int .i64 0] 126)) := ((Below.refl _ _).alloc (Nat.le_refl _) _).alloc (by simp only [World.size_alloc]; omega) _
  have hArg : ((w.alloc (RBox f)).alloc (.cells #[.int .i64 0] 126)).heap[w.heap.size]? = some (RBox f) := by
    rw [Lib.alloc_old _ _ _ (by simp only [World.size_alloc]; omega)]
    exact heap_alloc_new w _
  have hCnt : ((w.alloc (RBox f)).alloc (.cells #[.int .i64 0] 126)).heap[w.heap.size + 1]? = some (.cells #[.int .i64 0] 126 (0, 0)) := by
    have := heap_alloc_new (w.alloc (RBox f)) (.cells #[.int .i64 0] 126)
    simpa only [World.size_alloc] using this
  have hc : Cnt ((w.alloc (RBox f)).alloc (.cells #[.int .i64 0] 126)) (w.heap.size + 1) 0 := ⟨(Array.getElem?_eq_some_iff.1 hCnt).1, by rw [Lib.cell_of_heap hCnt]; rfl, Lib.frozen_of_heap hCnt 0⟩
  have hT2 : TrF (fun b => b ≠ w.heap.size + 1) ((w.alloc (RBox f)).alloc (.cells #[.int .i64 0] 126)) t f := (h.lt.kept (same_of_below hA)).mono (fun b hb => by have := hb.2; omega)
  have hF := Lib.hid (fitsC _ t (Nat.le_refl _) hs f 1 (w.heap.size + 1) 0 _ hT2 hc (by omega) (by omega) (by omega))
  have H := Lib.hid h
  have HA := Lib.hid hA
  have HS := Lib.hid hs
  have HL := Lib.hid hL
  have HArg := Lib.hid hArg
  clear h hA hs hL hCnt hc hT2 hArg
  unfold Fld.val
  go_enter Tryz.func37, Tryz.ntmps37
  go_wp2_with fail
  refine hF.out.mono ?_
  rintro e w1 ⟨b, rfl, hb, g1⟩
  have e30 : (30 : Int) - 0 = 30 := rfl
  have hbv : Hid (b = decide (0 ≤ partsT t 1 30)) := hb.out.1
  have hB1 : Hid (Below w.heap.size w w1) := HA.out.grown g1 HA.out.size (fun k e => by cases e; omega)
  have arg1 := (g1.block w.heap.size (by simp; omega) (by simp)).trans HArg.out
  clear hb g1 e30
  cases b with
  | false =>
    have hno : Hid (decide (okR t) = false) := decide_eq_false (fun k => by have h1 := hbv.out; have h2 := k.1; simp at h1; omega)
    clear arg1
    go_wp2
    go_ret
    exact ⟨retB hno.out.symm, hB1.out⟩
  | true =>
    have c : 0 ≤ partsT t 1 30 := by have h1 := hbv.out; simpa using h1.symm
    have hok : Hid (OkP t) := okR_P c
    have hTL := textT_len _ t (Nat.le_refl _) hok.out
    have hTW := okP_w hok.out
    have hTZ : (textB t).size ≤ 7200 := by rw [textB_size]; omega
    have HE : Hid (decide (okR t) = decide (((textB t).size : Int) ≤ 300)) := by
      show _ = _
      rw [textB_size]
      refine decide_eq_decide.2 ⟨fun k => by have := k.2; omega, fun k => ⟨c, by omega⟩⟩
    have hT := Lib.hid (textIC _ t (Nat.le_refl _) f w1 (H.out.kept (same_of_below hB1.out)) hok.out (laid_stays HL.out hB1.out))
    unfold RBox at arg1
    have y0 : w1.cell? ⟨w.heap.size, 0, none⟩ = some (.int .i64 f.op) := by rw [Lib.cell_of_heap arg1]; rfl
    have y1 : w1.cell? ⟨w.heap.size, 1, none⟩ = some (.int .i64 f.num) := by rw [Lib.cell_of_heap arg1]; rfl
    have y2 : w1.cell? ⟨w.heap.size, 2, none⟩ = some (.string f.name) := by rw [Lib.cell_of_heap arg1]; rfl
    have y3 : w1.cell? ⟨w.heap.size, 3, none⟩ = some (.slice f.ka f.kl f.kc) := by rw [Lib.cell_of_heap arg1]; rfl
    have y4 : w1.cell? ⟨w.heap.size, 4, none⟩ = some (.slice f.ma f.ml f.mc) := by rw [Lib.cell_of_heap arg1]; rfl
    clear arg1 hTL hTW c
    go_wp2_with fail
    refine hT.out.mono ?_
    rintro e w2 ⟨rfl, d2⟩
    go_wp2
    go_ret
    refine ⟨retB ?_, hB1.out.trans (d2.mono hB1.out.size)⟩
    rw [HE.out]
/-- What is written of a rule: nothing, if it is not ok. -/
def writeR (t : Tr) : ByteArray := if okR t then textB t else ⟨#[]⟩
set_option maxHeartbeats 4000000 in
theorem specRuleWrite {t : Tr} {f : Fld} {w : World} (h : TrF All w t f) (hs : szT t ≤ 1048576) :
    Calls Tryz.prog 36 #[f.val] w fun e w' => e = .returned (.string (writeR t)) ∧ Below w.heap.size w w' := by
  have hA : Below w.heap.size w (w.alloc (RBox f)) := (Below.refl _ _).alloc (Nat.le_refl _) _
  have hArg : (w.alloc (RBox f)).heap[w.heap.size]? = some (RBox f) := heap_alloc_new w _
  have hP := Lib.hid (specRuleOk (h.kept (same_of_below hA)) hs)
  have H := Lib.hid h
  have HA := Lib.hid hA
  clear h hA hs
  unfold Fld.val
  by_cases c : okR t
  · have z : Hid (decide (okR t) = true) := decide_eq_true c
    have hW : Hid (writeR t = textB t) := by show _ = _; rw [writeR, if_pos c]
    have hok : Hid (OkP t) := okR_P c.1
    have HArg := Lib.hid hArg
    clear hArg c
    rw [z.out] at hP
    go_enter Tryz.func36, Tryz.ntmps36
    go_wp2_with fail
    refine hP.out.mono ?_
    rintro e w1 ⟨rfl, d1⟩
    have arg1 := (d1.block _ (by simp)).trans HArg.out
    have hB1 := Lib.hid (HA.out.trans (d1.mono HA.out.size))
    unfold RBox at arg1
    have y0 : w1.cell? ⟨w.heap.size, 0, none⟩ = some (.int .i64 f.op) := by rw [Lib.cell_of_heap arg1]; rfl
    have y1 : w1.cell? ⟨w.heap.size, 1, none⟩ = some (.int .i64 f.num) := by rw [Lib.cell_of_heap arg1]; rfl
    have y2 : w1.cell? ⟨w.heap.size, 2, none⟩ = some (.string f.name) := by rw [Lib.cell_of_heap arg1]; rfl
    have y3 : w1.cell? ⟨w.heap.size, 3, none⟩ = some (.slice f.ka f.kl f.kc) := by rw [Lib.cell_of_heap arg1]; rfl
    have y4 : w1.cell? ⟨w.heap.size, 4, none⟩ = some (.slice f.ma f.ml f.mc) := by rw [Lib.cell_of_heap arg1]; rfl
    have hT := Lib.hid (textC _ t (Nat.le_refl _) f w1 (H.out.kept (same_of_below hB1.out)) hok.out)
    clear arg1 d1
    go_wp2_with fail
    refine hT.out.mono ?_
    rintro e w2 ⟨rfl, d2⟩
    go_wp2
    go_ret
    exact ⟨retS hW.out.symm, hB1.out.trans (d2.mono hB1.out.size)⟩
  · have z : Hid (decide (okR t) = false) := decide_eq_false c
    have hW : Hid (writeR t = ⟨#[]⟩) := by show _ = _; rw [writeR, if_neg c]
    clear c hArg
    rw [z.out] at hP
    go_enter Tryz.func36, Tryz.ntmps36
    go_wp2_with fail
    refine hP.out.mono ?_
    rintro e w1 ⟨rfl, d1⟩
    go_wp2
    go_ret
    exact ⟨retS hW.out.symm, HA.out.trans (d1.mono HA.out.size)⟩
set_option maxHeartbeats 4000000 in
theorem implRuleWrite {t : Tr} {f : Fld} {w : World} (h : TrF All w t f) (hs : szT t ≤ 1048576) (hL : Laid w) :
    Calls Tryz.prog 34 #[f.val] w fun e w' => e = .returned (.string (writeR t)) ∧ Below w.heap.size w w' := by
  have hA : Below w.heap.size w (w.alloc (RBox f)) := (Below.refl _ _).alloc (Nat.le_refl _) _
  have hArg : (w.alloc (RBox f)).heap[w.heap.size]? = some (RBox f) := heap_alloc_new w _
  have hP := Lib.hid (implRuleOk (h.kept (same_of_below hA)) hs (laid_stays hL hA))
  have H := Lib.hid h
  have HA := Lib.hid hA
  have HL := Lib.hid hL
  clear h hA hs hL
  unfold Fld.val
  by_cases c : okR t
  · have z : Hid (decide (okR t) = true) := decide_eq_true c
    have hW : Hid (writeR t = textB t) := by show _ = _; rw [writeR, if_pos c]
    have hok : Hid (OkP t) := okR_P c.1
    have HArg := Lib.hid hArg
    clear hArg c
    rw [z.out] at hP
    go_enter Tryz.func34, Tryz.ntmps34
    go_wp2_with fail
    refine hP.out.mono ?_
    rintro e w1 ⟨rfl, d1⟩
    have arg1 := (d1.block _ (by simp)).trans HArg.out
    have hB1 := Lib.hid (HA.out.trans (d1.mono HA.out.size))
    unfold RBox at arg1
    have y0 : w1.cell? ⟨w.heap.size, 0, none⟩ = some (.int .i64 f.op) := by rw [Lib.cell_of_heap arg1]; rfl
    have y1 : w1.cell? ⟨w.heap.size, 1, none⟩ = some (.int .i64 f.num) := by rw [Lib.cell_of_heap arg1]; rfl
    have y2 : w1.cell? ⟨w.heap.size, 2, none⟩ = some (.string f.name) := by rw [Lib.cell_of_heap arg1]; rfl
    have y3 : w1.cell? ⟨w.heap.size, 3, none⟩ = some (.slice f.ka f.kl f.kc) := by rw [Lib.cell_of_heap arg1]; rfl
    have y4 : w1.cell? ⟨w.heap.size, 4, none⟩ = some (.slice f.ma f.ml f.mc) := by rw [Lib.cell_of_heap arg1]; rfl
    have hT := Lib.hid (textIC _ t (Nat.le_refl _) f w1 (H.out.kept (same_of_below hB1.out)) hok.out (laid_stays HL.out hB1.out))
    clear arg1 d1
    go_wp2_with fail
    refine hT.out.mono ?_
    rintro e w2 ⟨rfl, d2⟩
    go_wp2
    go_ret
    exact ⟨retS hW.out.symm, hB1.out.trans (d2.mono hB1.out.size)⟩
  · have z : Hid (decide (okR t) = false) := decide_eq_false c
    have hW : Hid (writeR t = ⟨#[]⟩) := by show _ = _; rw [writeR, if_neg c]
    clear c hArg
    rw [z.out] at hP
    go_enter Tryz.func34, Tryz.ntmps34
    go_wp2_with fail
    refine hP.out.mono ?_
    rintro e w1 ⟨rfl, d1⟩
    go_wp2
    go_ret
    exact ⟨retS hW.out.symm, HA.out.trans (d1.mono HA.out.size)⟩
end Go.Proofs.YtemjooejfmkkbaaGreatDoor
