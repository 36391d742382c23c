/-
  A rule's text: the program's answer.
  Whether a rule is ok, and its text: the model's answers and the program's.
  How much fuel a rule needs: the model's answer and the program's.
  What a rule says by names' numbers and fuel: the mathematical answer.
  What the model does to numbers: two, a product, a part, a name's number, tiers; its fuel.
-/
import Derived.Test.YtjphjnopdlfplaaGreatDoorMarksText
import Derived.Test.YtjphjnopdlfplaaGreatDoorRuleTextM
import Derived.Test.YtjphjnopdlfplaaGreatDoorJ19
import Derived.Test.YtjphjnopdlfplaaGreatDoorJ20
import Derived.Test.YtjphjnopdlfplaaGreatDoorJ1
import Derived.Test.YtjphjnopdlfplaaGreatDoorJ18
import Derived.Deep.RegionWith
import Derived.Lib.QuietBelow
namespace Go.Proofs.YtjphjnopdlfplaaGreatDoor
open Go.RowKit
set_option linter.unusedVariables false
set_option linter.unusedSimpArgs false

def strsT (ks : List Tr) : List Value := ks.map fun t => .string (textB t)
def TextIAt (t : Tr) : Prop := ∀ (f : Fld) (w : World), TrF All w t f → OkP t → Laid w → Calls Tryz.prog 50 #[f.val] w fun e w' => e = .returned (.string (textB t)) ∧ Below w.heap.size w w'
theorem bsz (l : List UInt8) : (⟨l.toArray⟩ : ByteArray).size = l.length := by show l.toArray.size = _; simp
set_option maxRecDepth 20000 in
set_option maxHeartbeats 8000000 in
theorem textIN (o n : Int) (s : ByteArray) (ks : List Tr) (ms : List (Int × Int)) (ih : ∀ t ∈ ks, TextIAt t) : TextIAt (.node o n s ks ms) := by
  intro f w h hok hL
  obtain ⟨it0, hi, hz0, hz1, hz2⟩ := info_parts infoStrM
  obtain ⟨e1, e2, e3, hm, hk, hc1, hc2⟩ := trF_iff.1 h
  obtain ⟨fo, fn, fs, ka, kl, kc, ma, ml, mc⟩ := f
  dsimp only at e1 e2 e3 hm hk hc1 hc2
  have q1 := e1.symm
  have q2 := e2.symm
  have q3 := e3.symm
  clear e1 e2 e3
  subst q1 q2 q3
  obtain rfl := hk.1
  obtain rfl := hm.1
  obtain ⟨hpl, hoks⟩ := okP_parts hok
  have hw29 : wL ks ≤ 29 := by have := okP_w hok; rw [wT] at this; omega
  have hin := op_in hpl
  have HK := Lib.hid hk
  have HM := Lib.hid hm
  have IH := Lib.hid ih
  have HPL := Lib.hid hpl
  have HOK := Lib.hid hoks
  have HL := Lib.hid hL
  clear h hk hm ih hc1 hc2 hpl hoks hok hL
  unfold Fld.val
  dsimp only
  have hA : Below w.heap.size w (w.alloc (.cells #[.int .i64 o, .int .i64 n, .string s, .slice ka ks.length kc, .slice ma ms.length mc] 39)) := (Below.refl _ _).alloc (Nat.le_refl _) _
  have hArg : (w.alloc (.cells #[.int .i64 o, .int .i64 n, .string s, .slice ka ks.length kc, .slice ma ms.length mc] 39)).heap[w.heap.size]? = some (.cells #[.int .i64 o, .int .i64 n, .string s, .slice ka ks.length kc, .slice ma ms.length mc] 39 (0, 0)) := heap_alloc_new w _
  have HA := Lib.hid hA
  have HArg := Lib.hid hArg
  clear hA hArg
  by_cases h1 : o = 1
  · subst h1
    have hn : -1000000000 ≤ n ∧ n ≤ 1000000000 := by have := HPL.out.2; unfold HoldsN at this; rw [if_pos rfl] at this; exact this.1
    have HT : Hid (textB (.node 1 n s ks ms) = intB n) := by show _ = _; rw [textB, textT, if_pos rfl]; rfl
    go_enter Tryz.func50, Tryz.ntmps50
    go_wp2_with fail
    refine (itoaZ n _ (laid_stays HL.out HA.out) (by omega) (by omega)).mono ?_
    rintro e w1 ⟨rfl, d1⟩
    go_wp2
    go_ret
    exact ⟨retS HT.out.symm, HA.out.trans (d1.mono HA.out.size)⟩
  by_cases h2 : o = 2
  · subst h2
    have HT : Hid (textB (.node 2 n s ks ms) = s) := by show _ = _; rw [textB, textT, if_neg (by decide), if_pos rfl]
    go_enter Tryz.func50, Tryz.ntmps50
    go_wp2
    go_ret
    exact ⟨retS HT.out.symm, HA.out⟩
  have b1 : (o == 1) = false := by simpa using h1
  have b2 : (o == 2) = false := by simpa using h2
  have HT : Hid (textT (.node o n s ks ms) = wordT o ++ 40 :: (joinS 44 (ks.map textB) ++ ((if ms.length = 0 then [] else 59 :: marksT 44 ms) ++ [41]))) := textT_op h1 h2
  have hwl := wordT_len o
  have HMO : Hid ((o = 10 → MOk (mF ms) (mP ms) ms.length) ∧ (o ≠ 10 → ms.length = 0)) := by
    have h3 := HPL.out.2
    unfold HoldsN at h3
    rw [if_neg h1, if_neg h2] at h3
    split at h3
    · exact ⟨fun _ => h3.2.2, fun h => absurd ‹_› h⟩
    · exact ⟨fun h => absurd h ‹_›, fun _ => h3.2.2⟩
  have hkpos : 0 < ks.length := by
    have h3 := HPL.out.1
    unfold kidsN at h3
    repeat (split at h3; · omega)
    omega
  have hkb : ks.length ≤ 29 := by have := len_wL ks; omega
  have kidz := kidsT_len HOK.out hw29 ks.length
  rw [List.take_length] at kidz
  clear h1 h2
  have Hin := Lib.hid hin
  clear hin
  go_enter Tryz.func50, Tryz.ntmps50
  go_wp2_with fail
  generalize hW0 : (w.alloc (.cells #[.int .i64 o, .int .i64 n, .string s, .slice ka ks.length kc, .slice ma ms.length mc] 39)) = W0 at *
  clear hW0
  have sz0 : w.heap.size < W0.heap.size := (Array.getElem?_eq_some_iff.1 HArg.out).1
  go_loopw [3, 21] (fun vl vi wr => ∃ (k c : Nat) (a : Option Addr), k ≤ ks.length ∧ vi = .int .i64 k ∧ vl = .slice a k c ∧ wr.ownsRow W0.heap.size 9 1 (.slice a k c) k (strsT (ks.take k)) ∧ Below W0.heap.size W0 wr) (fun _ vi _ => ks.length - (intOf vi).toNat)
  case atStart => exact ⟨0, 0, none, Nat.zero_le _, rfl, rfl, World.ownsRow_nil _ _ _ _, Below.refl _ _⟩
  case round =>
    obtain ⟨k, c, a, hk, rfl, rfl, hown, hb⟩ := hrel
    have argr : wr.heap[w.heap.size]? = some (.cells #[.int .i64 o, .int .i64 n, .string s, .slice ka ks.length kc, .slice ma ms.length mc] 39 (0, 0)) := (hb.block _ sz0).trans HArg.out
    have hbw : Below w.heap.size w wr := HA.out.trans (hb.mono HA.out.size)
    rcases Nat.lt_or_ge k ks.length with hlt | hge
    · have k1 : (k : Int) < ks.length := by omega
      have k0 : (0 : Int) ≤ k := by omega
      obtain ⟨b, off, rfl, -, hbl, hrow⟩ := (HK.out.kept (same_of_below (N := All) hbw)).cells (by omega)
      obtain ⟨f, ⟨y0, y1, y2, y3, y4⟩, ht⟩ := hrow k hlt
      have hXB : Below wr.heap.size wr (wr.alloc (.cells #[.int .i64 f.op, .int .i64 f.num, .string f.name, .slice f.ka f.kl f.kc, .slice f.ma f.ml f.mc] 39)) := (Below.refl _ _).alloc (Nat.le_refl _) _
      have hcall := Lib.hid (IH.out ks[k] (List.getElem_mem _) f _ (ht.kept (same_of_below hXB)) (HOK.out _ (List.getElem_mem _)) (laid_stays HL.out (hbw.trans (hXB.mono hbw.size))))
      have HXB := Lib.hid hXB
      have HOW := Lib.hid hown
      have HB := Lib.hid hb
      have HSN : Hid (strsT (ks.take (k + 1)) = strsT (ks.take k) ++ [.string (textB ks[k])]) := by show _ = _; unfold strsT; rw [List.take_succ_eq_append_getElem hlt, List.map_append]; rfl
      generalize hX : textB ks[k] = X at *
      clear hrow hbl ht argr hX hXB hown hb hbw
      go_wp2_with fail
      refine hcall.out.mono ?_
      rintro e w2 ⟨rfl, d2⟩
      clear y0 y1 y2 y3 y4
      have hb2 := Lib.hid (HB.out.trans ((HXB.out.trans (d2.mono HXB.out.size)).mono HB.out.size))
      have hown2 : Hid (w2.ownsRow W0.heap.size 9 1 (.slice a k c) k (strsT (ks.take k))) := (HOW.out.kept (row := none) (below_grownM HXB.out) (Classical.em _)).kept (row := none) (below_grownM d2) (Classical.em _)
      have hz2' : W0.heap.size ≤ w2.heap.size := hb2.out.size
      clear d2
      go_wp2_with (at_builtin; refine wpList_append_lies ?pw ?p1 ?ps ?px 112 ?p2 W0.heap.size 9 it0 (.string ⟨#[]⟩) 1 16 ?p3 ?p4 ?p5 ?p6 ?p7 ?p8 ?p9 (.slice a k c) k (strsT (ks.take k)) ?p10 ?ph1 ⟨w2.heap.size, 0, none⟩ 1 1 [.string X] ?p11 ?p12 ?ph2 ?ph3 ?pc1 ?pc2 ?pc3 ?pc4 (w2.heap.size + 1) ?pc5 ?_; (case p1 => rfl); (case p2 => rfl); (case p10 => rfl); (case p11 => rfl); (case ph1 => exact hown2.out.alloc _); (case p3 => exact Tryz.underlying112); (case p4 => exact hi); (case p5 => exact hz0); (case p6 => exact hz1); (case p7 => exact hz2); (case p8 => rfl); (case p9 => decide); (case p12 => rfl); (case ph2 => exact World.news_of_block (heap_alloc_new w2 _)); (case ph3 => intro u hu; simp at hu; subst hu; rfl); (case pc1 => decide); (case pc2 => unfold maxLen; omega); (case pc3 => omega); (case pc4 => simp only [World.size_alloc]; omega); (case pc5 => simp only [World.size_alloc]); intro g2 cp2 wz hownZ hgrowZ hatZ hltZ)
      have hbZ : Below W0.heap.size W0 wz := (hb2.out.alloc hz2' (.cells #[.string X] 9)).grown hgrowZ (by simp only [World.size_alloc]; omega) (fun y e => ((hown2.out.alloc (.cells #[.string X] 9)).lt y e).1)
      rw [← HSN.out] at hownZ
      go_roundw
      case rel => exact ⟨k + 1, cp2, some ⟨g2, 0, none⟩, by omega, by go_num, rfl, hownZ, hbZ⟩
      case measure => simp [intOf]; omega
    · obtain rfl : k = ks.length := by omega
      rw [List.take_length] at hown
      obtain ⟨g, cap, cur, hv, hbg, hcur, hnc, hcm, hcs, htk⟩ : ∃ g cap cur, (Value.slice a ks.length c) = .slice (some ⟨g, 0, none⟩) ks.length cap ∧ W0.heap.size ≤ g ∧ wr.heap[g]? = some (.cells cur 9 (0, 0)) ∧ ks.length ≤ cap ∧ cap ≤ maxLen ∧ cur.size = cap * 1 ∧ cur.toList.take (ks.length * 1) = strsT ks := by
        obtain ⟨-, h | h⟩ := hown
        · exact absurd h.2 (by omega)
        · exact h
      obtain ⟨rfl, -, rfl⟩ : a = some ⟨g, 0, none⟩ ∧ ks.length = ks.length ∧ c = cap := by simpa using hv
      have hcells : ∀ (j : Nat) x, (ks.map textB)[j]? = some x → wr.cell? ⟨g, 0 + j, none⟩ = some (.string x) := by
        intro j x hj
        have hjk : j < ks.length := by have := (List.getElem?_eq_some_iff.1 hj).1; simpa using this
        rw [Nat.zero_add, hown.cellAt j (by omega)]
        unfold strsT
        rw [List.getElem?_map] at hj ⊢
        cases hq : ks[j]? with
        | none => rw [hq] at hj; cases hj
        | some q => rw [hq] at hj; cases hj; rfl
      have J := Tryz.strings_Join g 0 c (ks.map textB) ⟨#[44]⟩ wr hcells (lt_heapM hcur) (by rw [List.length_map]; omega) (by rw [List.length_map]; omega) (by show (joinS 44 (ks.map textB)).length ≤ _; omega)
      rw [List.length_map] at J
      have HJ : Hid (Calls Tryz.prog 78 #[.slice (some ⟨g, 0, none⟩) ks.length c, .string ⟨#[44]⟩] wr fun e w' => e = .returned (.string ⟨(joinS 44 (ks.map textB)).toArray⟩) ∧ Below wr.heap.size wr w') := J
      have HBW := Lib.hid hbw
      have HAr := Lib.hid argr
      clear J hcells hown hb hcur htk hcs hv argr hbw
      have jz : (⟨(joinS 44 (ks.map textB)).toArray⟩ : ByteArray).size ≤ 7000 := by rw [bsz]; exact kidz
      generalize hJS : (⟨(joinS 44 (ks.map textB)).toArray⟩ : ByteArray) = JS at *
      have HJS : Hid (JS.data.toList = joinS 44 (ks.map textB)) := by show _ = _; rw [← hJS]
      clear hJS kidz
      go_wp2_with fail
      refine HJ.out.mono ?_
      rintro e wj ⟨rfl, dj⟩
      have hBj := Lib.hid (HBW.out.trans (dj.mono HBW.out.size))
      have hAj := Lib.hid ((dj.block _ (Array.getElem?_eq_some_iff.1 HAr.out).1).trans HAr.out)
      clear dj
      have ca0 : wj.cell? ⟨w.heap.size, 0, none⟩ = some (Value.int .i64 o) := by rw [Lib.cell_of_heap hAj.out]; rfl
      have ca4 : wj.cell? ⟨w.heap.size, 4, none⟩ = some (Value.slice ma ms.length mc) := by rw [Lib.cell_of_heap hAj.out]; rfl
      have mk := fun W => meth_word o Hin.out W
      have nk := fun W => nil_word o Hin.out W
      have fk := fun a W => call_word o Hin.out a W
      have hws : (⟨(wordT o).toArray⟩ : ByteArray).size ≤ 5 := by rw [bsz]; exact hwl
      have HW : Hid ((⟨(wordT o).toArray⟩ : ByteArray).data.toList = wordT o) := rfl
      have cW : Hid (∀ W, Calls Tryz.prog (wordF o) #[.agg #[]] W fun e w' => e = .returned (.string ⟨(wordT o).toArray⟩) ∧ Below W.heap.size W w') := fun W => wordI o Hin.out W
      generalize (⟨(wordT o).toArray⟩ : ByteArray) = WB at *
      have s40 : (⟨#[40]⟩ : ByteArray).size = 1 := rfl
      have s41 : (⟨#[41]⟩ : ByteArray).size = 1 := rfl
      have s59 : (⟨#[59]⟩ : ByteArray).size = 1 := rfl
      by_cases h10 : o = 10
      · have g0 : (o == 10) = true := by simpa using h10
        have hmo := HMO.out.1 h10
        have HMo := Lib.hid hmo
        have hcM := Lib.hid (marksI 44 ma mc ms wj (HM.out.kept (same_of_below hBj.out)) hmo (laid_stays HL.out hBj.out))
        have mz : (⟨(marksT 44 ms).toArray⟩ : ByteArray).size ≤ 220 := by rw [bsz]; exact marksT_len 44 hmo
        have HMT : Hid ((⟨(marksT 44 ms).toArray⟩ : ByteArray).data.toList = marksT 44 ms) := rfl
        have hml : ms.length ≠ 0 := by have := hmo.1; omega
        generalize (⟨(marksT 44 ms).toArray⟩ : ByteArray) = MT at *
        have HO10 := Lib.hid h10
        clear hmo h10
        have m1 : ¬ 9223372036854775807 < 1 + MT.size := by omega
        have m2 : ¬ 9223372036854775807 < JS.size + (1 + MT.size) := by omega
        have m3 : ¬ 9223372036854775807 < WB.size + 1 := by omega
        have m4 : ¬ 9223372036854775807 < WB.size + 1 + (JS.size + (1 + MT.size)) := by omega
        have m5 : ¬ 9223372036854775807 < WB.size + 1 + (JS.size + (1 + MT.size)) + 1 := by omega
        go_wp2_with fail
        refine hcM.out.mono ?_
        rintro e wm ⟨rfl, dm⟩
        have hBm := Lib.hid (hBj.out.trans (dm.mono hBj.out.size))
        have ca0m : wm.cell? ⟨w.heap.size, 0, none⟩ = some (Value.int .i64 o) := (dm.cell (p := ⟨w.heap.size, 0, none⟩) (Array.getElem?_eq_some_iff.1 hAj.out).1).trans ca0
        clear dm
        go_wp2_with fail
        refine (opOf o wm Hin.out).mono ?_
        rintro e wo ⟨rfl, d3⟩
        have hBo := Lib.hid (hBm.out.trans (d3.mono hBm.out.size))
        clear d3
        go_wp2_with fail
        refine (cW.out wo).mono ?_
        rintro e wq ⟨rfl, d4⟩
        have hBq := hBo.out.trans (d4.mono hBo.out.size)
        clear d4
        go_wp2
        go_ret
        refine ⟨retS ?_, hBq⟩
        rw [textB]
        refine bext ?_
        rw [HT.out, if_neg hml]
        simp [HW.out, HJS.out, HMT.out]
      · have g0 : (o == 10) = false := by simpa using h10
        have hm0 := HMO.out.2 h10
        have HM0 := Lib.hid hm0
        have HO10 := Lib.hid h10
        clear hm0 h10
        have m3 : ¬ 9223372036854775807 < WB.size + 1 := by omega
        have m4 : ¬ 9223372036854775807 < WB.size + 1 + JS.size := by omega
        have m5 : ¬ 9223372036854775807 < WB.size + 1 + JS.size + 1 := by omega
        go_wp2_with fail
        refine (opOf o wj Hin.out).mono ?_
        rintro e wo ⟨rfl, d3⟩
        have hBo := Lib.hid (hBj.out.trans (d3.mono hBj.out.size))
        clear d3
        go_wp2_with fail
        refine (cW.out wo).mono ?_
        rintro e wq ⟨rfl, d4⟩
        have hBq := hBo.out.trans (d4.mono hBo.out.size)
        clear d4
        go_wp2
        go_ret
        refine ⟨retS ?_, hBq⟩
        rw [textB]
        refine bext ?_
        rw [HT.out, if_pos HM0.out]
        simp [HW.out, HJS.out]
theorem textIC : ∀ (k : Nat) (t : Tr), wT t ≤ k → TextIAt t
  | 0, .node o n s ks ms, hw => by rw [wT] at hw; omega
  | k + 1, .node o n s ks ms, hw => by
    rw [wT] at hw
    exact textIN o n s ks ms (fun t ht => textIC k t (by have := wL_mem ht; omega))
end Go.Proofs.YtjphjnopdlfplaaGreatDoor

namespace Go.Proofs.YtjphjnopdlfplaaGreatDoor
open Go.RowKit
set_option linter.unusedVariables false
set_option linter.unusedSimpArgs false

def okR (t : Tr) : Prop := 0 ≤ partsT t 1 30 ∧ (textT t).length ≤ 300
instance (t : Tr) : Decidable (okR t) := by unfold okR; infer_instance
theorem okR_P {t : Tr} (h : 0 ≤ partsT t 1 30) : OkP t := ⟨1, 30, Int.le_refl _, h⟩
def RBox (f : Fld) : Obj := .cells #[.int .i64 f.op, .int .i64 f.num, .string f.name, .slice f.ka f.kl f.kc, .slice f.ma f.ml f.mc] 39
set_option maxHeartbeats 4000000 in
theorem specRuleOk {t : Tr} {f : Fld} {w : World} (h : TrF All w t f) (hs : szT t ≤ 1048576) :
    Calls Tryz.prog 21 #[f.val] w fun e w' => e = .returned (.bool (decide (okR t))) ∧ Below w.heap.size w w' := by
  have hA : Below w.heap.size w (w.alloc (RBox f)) := (Below.refl _ _).alloc (Nat.le_refl _) _
  have hArg : (w.alloc (RBox f)).heap[w.heap.size]? = some (RBox f) := heap_alloc_new w _
  have hP := Lib.hid (partsC _ t (Nat.le_refl _) hs f 1 30 _ (h.kept (same_of_below hA)) (by omega) (by omega) (by omega))
  have H := Lib.hid h
  have HA := Lib.hid hA
  have HS := Lib.hid hs
  clear h hA hs
  unfold Fld.val
  generalize hpv : partsT t 1 30 = pv at *
  have HPV := Lib.hid hpv
  clear hpv
  rcases Int.lt_or_le pv 0 with c | c
  · have z0 : decide (0 ≤ pv) = false := decide_eq_false (by omega)
    have hno : Hid (decide (okR t) = false) := decide_eq_false (fun k => by have := k.1; rw [HPV.out] at this; omega)
    go_enter Tryz.func21, Tryz.ntmps21
    go_wp2_with fail
    refine hP.out.mono ?_
    rintro e w1 ⟨rfl, d1⟩
    go_wp2
    go_ret
    exact ⟨retB hno.out.symm, HA.out.trans (d1.mono HA.out.size)⟩
  · have z0 : decide (0 ≤ pv) = true := decide_eq_true c
    have hok : Hid (OkP t) := okR_P (by rw [HPV.out]; exact c)
    have HArg := Lib.hid hArg
    have hTL := textT_len _ t (Nat.le_refl _) hok.out
    have hTW := okP_w hok.out
    have hTZ : (textB t).size ≤ 7200 := by rw [textB_size]; omega
    have HE : Hid (decide (okR t) = decide (((textB t).size : Int) ≤ 300)) := by
      show _ = _
      rw [textB_size]
      refine decide_eq_decide.2 ⟨fun k => by have := k.2; omega, fun k => ⟨by rw [HPV.out]; exact c, by omega⟩⟩
    clear hArg hTL hTW
    go_enter Tryz.func21, Tryz.ntmps21
    go_wp2_with fail
    refine hP.out.mono ?_
    rintro e w1 ⟨rfl, d1⟩
    have arg1 := (d1.block _ (by simp)).trans HArg.out
    have hB1 := Lib.hid (HA.out.trans (d1.mono HA.out.size))
    unfold RBox at arg1
    have y0 : w1.cell? ⟨w.heap.size, 0, none⟩ = some (.int .i64 f.op) := by rw [Lib.cell_of_heap arg1]; rfl
    have y1 : w1.cell? ⟨w.heap.size, 1, none⟩ = some (.int .i64 f.num) := by rw [Lib.cell_of_heap arg1]; rfl
    have y2 : w1.cell? ⟨w.heap.size, 2, none⟩ = some (.string f.name) := by rw [Lib.cell_of_heap arg1]; rfl
    have y3 : w1.cell? ⟨w.heap.size, 3, none⟩ = some (.slice f.ka f.kl f.kc) := by rw [Lib.cell_of_heap arg1]; rfl
    have y4 : w1.cell? ⟨w.heap.size, 4, none⟩ = some (.slice f.ma f.ml f.mc) := by rw [Lib.cell_of_heap arg1]; rfl
    have hT := Lib.hid (textC _ t (Nat.le_refl _) f w1 (H.out.kept (same_of_below hB1.out)) hok.out)
    clear arg1 d1
    go_wp2_with fail
    refine hT.out.mono ?_
    rintro e w2 ⟨rfl, d2⟩
    go_wp2
    go_ret
    refine ⟨retB ?_, hB1.out.trans (d2.mono hB1.out.size)⟩
    rw [HE.out]
set_option maxHeartbeats 4000000 in
theorem implRuleOk {t : Tr} {f : Fld} {w : World} (h : TrF All w t f) (hs : szT t ≤ 1048576) (hL : Laid w) :
    Calls Tryz.prog 20 #[f.val] w fun e w' => e = .returned (.bool (decide (okR t))) ∧ Below w.heap.size w w' := by
  have hA : Below w.heap.size w ((w.alloc (RBox f)).alloc (.cells #[.int .i64 0] 86)) := ((Below.refl _ _).alloc (Nat.le_refl _) _).alloc (by simp only [World.size_alloc]; omega) _
  have hArg : ((w.alloc (RBox f)).alloc (.cells #[.int .i64 0] 86)).heap[w.heap.size]? = some (RBox f) := by
    rw [Lib.alloc_old _ _ _ (by simp only [World.size_alloc]; omega)]
    exact heap_alloc_new w _
  have hCnt : ((w.alloc (RBox f)).alloc (.cells #[.int .i64 0] 86)).heap[w.heap.size + 1]? = some (.cells #[.int .i64 0] 86 (0, 0)) := by
    have := heap_alloc_new (w.alloc (RBox f)) (.cells #[.int .i64 0] 86)
    simpa only [World.size_alloc] using this
  have hc : Cnt ((w.alloc (RBox f)).alloc (.cells #[.int .i64 0] 86)) (w.heap.size + 1) 0 := ⟨(Array.getElem?_eq_some_iff.1 hCnt).1, by rw [Lib.cell_of_heap hCnt]; rfl, Lib.frozen_of_heap hCnt 0⟩
  have hT2 : TrF (fun b => b ≠ w.heap.size + 1) ((w.alloc (RBox f)).alloc (.cells #[.int .i64 0] 86)) t f := (h.lt.kept (same_of_below hA)).mono (fun b hb => by have := hb.2; omega)
  have hF := Lib.hid (fitsC _ t (Nat.le_refl _) hs f 1 (w.heap.size + 1) 0 _ hT2 hc (by omega) (by omega) (by omega))
  have H := Lib.hid h
  have HA := Lib.hid hA
  have HS := Lib.hid hs
  have HL := Lib.hid hL
  have HArg := Lib.hid hArg
  clear h hA hs hL hCnt hc hT2 hArg
  unfold Fld.val
  go_enter Tryz.func20, Tryz.ntmps20
  go_wp2_with fail
  refine hF.out.mono ?_
  rintro e w1 ⟨b, rfl, hb, g1⟩
  have e30 : (30 : Int) - 0 = 30 := rfl
  have hbv : Hid (b = decide (0 ≤ partsT t 1 30)) := hb.out.1
  have hB1 : Hid (Below w.heap.size w w1) := HA.out.grown g1 HA.out.size (fun k e => by cases e; omega)
  have arg1 := (g1.block w.heap.size (by simp; omega) (by simp)).trans HArg.out
  clear hb g1 e30
  cases b with
  | false =>
    have hno : Hid (decide (okR t) = false) := decide_eq_false (fun k => by have h1 := hbv.out; have h2 := k.1; simp at h1; omega)
    clear arg1
    go_wp2
    go_ret
    exact ⟨retB hno.out.symm, hB1.out⟩
  | true =>
    have c : 0 ≤ partsT t 1 30 := by have h1 := hbv.out; simpa using h1.symm
    have hok : Hid (OkP t) := okR_P c
    have hTL := textT_len _ t (Nat.le_refl _) hok.out
    have hTW := okP_w hok.out
    have hTZ : (textB t).size ≤ 7200 := by rw [textB_size]; omega
    have HE : Hid (decide (okR t) = decide (((textB t).size : Int) ≤ 300)) := by
      show _ = _
      rw [textB_size]
      refine decide_eq_decide.2 ⟨fun k => by have := k.2; omega, fun k => ⟨c, by omega⟩⟩
    have hT := Lib.hid (textIC _ t (Nat.le_refl _) f w1 (H.out.kept (same_of_below hB1.out)) hok.out (laid_stays HL.out hB1.out))
    unfold RBox at arg1
    have y0 : w1.cell? ⟨w.heap.size, 0, none⟩ = some (.int .i64 f.op) := by rw [Lib.cell_of_heap arg1]; rfl
    have y1 : w1.cell? ⟨w.heap.size, 1, none⟩ = some (.int .i64 f.num) := by rw [Lib.cell_of_heap arg1]; rfl
    have y2 : w1.cell? ⟨w.heap.size, 2, none⟩ = some (.string f.name) := by rw [Lib.cell_of_heap arg1]; rfl
    have y3 : w1.cell? ⟨w.heap.size, 3, none⟩ = some (.slice f.ka f.kl f.kc) := by rw [Lib.cell_of_heap arg1]; rfl
    have y4 : w1.cell? ⟨w.heap.size, 4, none⟩ = some (.slice f.ma f.ml f.mc) := by rw [Lib.cell_of_heap arg1]; rfl
    clear arg1 hTL hTW c
    go_wp2_with fail
    refine hT.out.mono ?_
    rintro e w2 ⟨rfl, d2⟩
    go_wp2
    go_ret
    refine ⟨retB ?_, hB1.out.trans (d2.mono hB1.out.size)⟩
    rw [HE.out]
end Go.Proofs.YtjphjnopdlfplaaGreatDoor

namespace Go.Proofs.YtjphjnopdlfplaaGreatDoor
open Go.RowKit
set_option linter.unusedVariables false
set_option linter.unusedSimpArgs false

def ifC : List Int → Int
  | [a, b, c, d] => a + b + (if c < d then d else c)
  | _ => 0
mutual
def costT : Tr → Int
  | .node o n s ks ms => 1 + ms.length + (if o = 9 then ifC (costsL ks) else (costsL ks).sum)
def costsL : List Tr → List Int
  | [] => []
  | t :: r => costT t :: costsL r
end
theorem costsL_eq : ∀ ks : List Tr, costsL ks = ks.map costT
  | [] => by rw [costsL]; rfl
  | t :: r => by rw [costsL, costsL_eq r]; rfl
theorem sum_take {α : Type} (f : α → Int) (l : List α) (k : Nat) (h : k < l.length) : ((l.take (k + 1)).map f).sum = ((l.take k).map f).sum + f l[k] := by
  rw [List.take_succ_eq_append_getElem h, List.map_append, List.sum_append]; simp
theorem ms_len {o n : Int} {s : ByteArray} {k : Nat} {ms : List (Int × Int)} (h : PlainN o n s k ms) : ms.length ≤ 5 := by
  have h2 := h.2
  unfold HoldsN at h2
  split at h2
  · omega
  split at h2
  · omega
  split at h2
  · exact h2.2.2.2.1
  · omega
theorem four {α : Type} {l : List α} (h : l.length = 4) : ∃ a b c d, l = [a, b, c, d] := by
  match l, h with
  | [a, b, c, d], _ => exact ⟨a, b, c, d, rfl⟩
theorem if_kids {n : Int} {s : ByteArray} {ks : List Tr} {ms : List (Int × Int)} (h : PlainN 9 n s ks.length ms) : ks.length = 4 := by
  have h1 := h.1
  have e : kidsN 9 = 4 := rfl
  omega
theorem cost_bd : ∀ (k : Nat) (t : Tr), wT t ≤ k → OkP t → 1 ≤ costT t ∧ costT t ≤ 6 * wT t := by
  intro k
  induction k with
  | zero => intro t h; cases t; rw [wT] at h; omega
  | succ k ih =>
    intro t hk h
    obtain ⟨o, n, s, ks, ms⟩ := t
    obtain ⟨hp, h3⟩ := okP_parts h
    have h5 := ms_len hp
    rw [wT] at hk ⊢
    have e : ∀ ks : List Tr, wL ks ≤ k → (∀ t ∈ ks, OkP t) → 0 ≤ (ks.map costT).sum ∧ (ks.map costT).sum ≤ 6 * wL ks := by
      intro ks
      induction ks with
      | nil => intro _ _; simp [wL]
      | cons t r ihr =>
        intro hw ho
        rw [wL] at hw ⊢
        have a := ihr (by omega) (fun x hx => ho x (by simp [hx]))
        have b := ih t (by omega) (ho t (by simp))
        simp only [List.map_cons, List.sum_cons] at a ⊢
        omega
    have hs := e ks (by omega) h3
    rw [costT, costsL_eq]
    split
    · rename_i h9
      subst h9
      obtain ⟨a, b, c, d, rfl⟩ := four (if_kids hp)
      simp only [wL] at hk ⊢
      have ha := ih a (by omega) (h3 a (by simp))
      have hb := ih b (by omega) (h3 b (by simp))
      have hc := ih c (by omega) (h3 c (by simp))
      have hd := ih d (by omega) (h3 d (by simp))
      simp only [List.map_cons, List.map_nil, ifC]
      split <;> omega
    · omega
def CostAt (F : FuncId) (t : Tr) : Prop := ∀ (f : Fld) (w : World), TrF All w t f → OkP t → Calls Tryz.prog F #[f.val] w fun e w' => e = .returned (.int .i64 (costT t)) ∧ Below w.heap.size w w'
theorem cellsF_b {w W : World} {b o : Nat} {f : Fld} (h : CellsF w b o f) (hb : b < w.heap.size) (hB : Below w.heap.size w W) : CellsF W b o f := h.kept (hB.block b hb)
/-- What a choice's kids read as, in all worlds behind. -/
def Four (w : World) (b off : Nat) (g0 g1 g2 g3 : Fld) (k0 k1 k2 k3 : Tr) : Prop := ∀ W, Below w.heap.size w W → (CellsF W b off g0 ∧ CellsF W b (off + 5) g1 ∧ CellsF W b (off + 10) g2 ∧ CellsF W b (off + 15) g3) ∧ TrF All W k0 g0 ∧ TrF All W k1 g1 ∧ TrF All W k2 g2 ∧ TrF All W k3 g3
theorem four_rows {w : World} {a : Option Addr} {k0 k1 k2 k3 : Tr} (h : RowsT All w a 4 [k0, k1, k2, k3]) : ∃ b off g0 g1 g2 g3, a = some ⟨b, off, none⟩ ∧ Four w b off g0 g1 g2 g3 k0 k1 k2 k3 := by
  obtain ⟨b, off, e, -, hb, hr⟩ := h.cells (by omega)
  obtain ⟨g0, c0, t0⟩ := hr 0 (by simp)
  obtain ⟨g1, c1, t1⟩ := hr 1 (by simp)
  obtain ⟨g2, c2, t2⟩ := hr 2 (by simp)
  obtain ⟨g3, c3, t3⟩ := hr 3 (by simp)
  refine ⟨b, off, g0, g1, g2, g3, e, fun W hW => ⟨⟨?_, ?_, ?_, ?_⟩, t0.kept (same_of_below hW), t1.kept (same_of_below hW), t2.kept (same_of_below hW), t3.kept (same_of_below hW)⟩⟩
  · have := cellsF_b c0 hb hW; rw [Nat.zero_mul, Nat.add_zero] at this; exact this
  · exact cellsF_b c1 hb hW
  · exact cellsF_b c2 hb hW
  · exact cellsF_b c3 hb hW
end Go.Proofs.YtjphjnopdlfplaaGreatDoor

namespace Go.Proofs.YtjphjnopdlfplaaGreatDoor
open Go.RowKit
set_option linter.unusedVariables false
set_option linter.unusedSimpArgs false

/-- What is said: a value, a code, and the fuel that is left. -/
structure Said where
  v : Int
  c : Int
  f : Int
def varV : List (ByteArray × Int) → ByteArray → Int × Int
  | [], _ => (0, 4)
  | p :: r, s => if p.1 = s then (if okB p.2 then (p.2, 0) else (0, 2)) else varV r s
/-- One number, or two much. -/
def orB (x : Int) (b : Bool) : Int × Int := if b then (x, 0) else (0, 2)
def twoV (o a b : Int) : Int × Int :=
  if o = 3 then orB (a + b) (okB (a + b)) else if o = 4 then orB (a - b) (okB (a - b)) else if o = 5 then orB (a * b) (okB (a * b))
  else if o = 7 then (if b < a then b else a, 0) else (if a < b then b else a, 0)
def partW (a b c : Int) : Int × Int := if c = 0 then (0, 3) else orB (partV a b c) (partOk a b c)
def tierV (ms : List (Int × Int)) (a : Int) : Int × Int := if a < 0 then (0, 2) else orB (tSum (mF ms) (mP ms) ms.length a ms.length) (decide (tSum (mF ms) (mP ms) ms.length a ms.length ≤ 1000000000000))
def doR (ns : List (ByteArray × Int)) (o n : Int) (s : ByteArray) (ms : List (Int × Int)) (l : List Int) : Int × Int :=
  if o = 1 then (n, 0) else if o = 2 then varV ns s else if o = 6 then partW (l.getD 0 0) (l.getD 1 0) (l.getD 2 0)
  else if o = 10 then tierV ms (l.getD 0 0) else twoV o (l.getD 0 0) (l.getD 1 0)
/-- Kids one behind the other: their values, a code, and the fuel that is left. -/
def seqF : List (Int → Said) → Int → List Int × Int × Int
  | [], fu => ([], 0, fu)
  | g :: r, fu => if (g fu).c = 0 then ((g fu).v :: (seqF r (g fu).f).1, (seqF r (g fu).f).2) else ([], (g fu).c, (g fu).f)
def noSaid : Int → Said := fun fu => ⟨0, 0, fu⟩
def nodeV (ns : List (ByteArray × Int)) (o n : Int) (s : ByteArray) (ms : List (Int × Int)) (gs : List (Int → Said)) (fu : Int) : Said :=
  if (seqF (gs.take (if o = 9 then 2 else gs.length)) fu).2.1 ≠ 0 then ⟨0, (seqF (gs.take (if o = 9 then 2 else gs.length)) fu).2.1, (seqF (gs.take (if o = 9 then 2 else gs.length)) fu).2.2⟩
  else if (seqF (gs.take (if o = 9 then 2 else gs.length)) fu).2.2 < 1 + ms.length then ⟨0, 1, (seqF (gs.take (if o = 9 then 2 else gs.length)) fu).2.2⟩
  else if o = 9 then
    (if (seqF (gs.take (if o = 9 then 2 else gs.length)) fu).1.getD 0 0 < (seqF (gs.take (if o = 9 then 2 else gs.length)) fu).1.getD 1 0 then gs.getD 2 noSaid else gs.getD 3 noSaid) ((seqF (gs.take (if o = 9 then 2 else gs.length)) fu).2.2 - (1 + ms.length))
  else ⟨(doR ns o n s ms (seqF (gs.take (if o = 9 then 2 else gs.length)) fu).1).1, (doR ns o n s ms (seqF (gs.take (if o = 9 then 2 else gs.length)) fu).1).2, (seqF (gs.take (if o = 9 then 2 else gs.length)) fu).2.2 - (1 + ms.length)⟩
mutual
def evalT (ns : List (ByteArray × Int)) : Tr → Int → Said
  | .node o n s ks ms => nodeV ns o n s ms (evalFs ns ks)
def evalFs (ns : List (ByteArray × Int)) : List Tr → List (Int → Said)
  | [] => []
  | t :: r => evalT ns t :: evalFs ns r
end
theorem evalFs_eq (ns : List (ByteArray × Int)) : ∀ ks : List Tr, evalFs ns ks = ks.map (evalT ns)
  | [] => by rw [evalFs]; rfl
  | t :: r => by rw [evalFs, evalFs_eq ns r]; rfl
/-- A value within limits, a code that is known, no more fuel than there was. -/
def SOk (fu : Int) (r : Said) : Prop := okB r.v = true ∧ (0 ≤ r.c ∧ r.c ≤ 4) ∧ (0 ≤ r.f ∧ r.f ≤ fu) ∧ (r.c ≠ 0 → r.v = 0)
theorem okB0 : okB 0 = true := by decide
theorem varV_ok : ∀ (ns : List (ByteArray × Int)) (s : ByteArray), okB (varV ns s).1 = true ∧ (0 ≤ (varV ns s).2 ∧ (varV ns s).2 ≤ 4) ∧ ((varV ns s).2 ≠ 0 → (varV ns s).1 = 0)
  | [], s => by simp [varV, okB0]
  | p :: r, s => by
    rw [varV]
    split
    · split
      · rename_i h; simp [h]
      · simp [okB0]
    · exact varV_ok r s
theorem orB_ok {x : Int} {b : Bool} (h : b = true → okB x = true) : okB (orB x b).1 = true ∧ (0 ≤ (orB x b).2 ∧ (orB x b).2 ≤ 4) ∧ ((orB x b).2 ≠ 0 → (orB x b).1 = 0) := by
  cases b with
  | true => simp [orB, h rfl]
  | false => simp [orB, okB0]
theorem partOk_ok {a b c : Int} (h : partOk a b c = true) : okB (partV a b c) = true := by
  have h2 := h
  unfold partOk at h2
  simp only [Bool.and_eq_true] at h2
  rw [partV, if_pos h]
  exact h2.2
theorem getD_ok {l : List Int} (h : ∀ x ∈ l, okB x = true) (i : Nat) : okB (l.getD i 0) = true := by
  rcases Nat.lt_or_ge i l.length with hi | hi
  · have : l.getD i 0 = l[i] := by simp [hi]
    rw [this]; exact h _ (List.getElem_mem _)
  · have : l.getD i 0 = 0 := by simp [List.getD, List.getElem?_eq_none hi]
    rw [this]; exact okB0
theorem doR_ok {ns : List (ByteArray × Int)} {o n : Int} {s : ByteArray} {ms : List (Int × Int)} {l : List Int} (hp : HoldsN o n s ms) (hl : ∀ x ∈ l, okB x = true) : okB (doR ns o n s ms l).1 = true ∧ (0 ≤ (doR ns o n s ms l).2 ∧ (doR ns o n s ms l).2 ≤ 4) ∧ ((doR ns o n s ms l).2 ≠ 0 → (doR ns o n s ms l).1 = 0) := by
  have g0 := okB_yes (getD_ok hl 0)
  have g1 := okB_yes (getD_ok hl 1)
  unfold doR
  split
  · rename_i h1
    unfold HoldsN at hp
    rw [if_pos h1] at hp
    exact ⟨okB_mk (by simp only; omega), by simp, by simp⟩
  split
  · exact varV_ok ns s
  split
  · unfold partW
    split
    · exact ⟨okB0, by simp, by simp⟩
    · exact orB_ok partOk_ok
  split
  · rename_i h1 h2 h6 h10
    unfold tierV
    split
    · exact ⟨okB0, by simp, by simp⟩
    · rename_i hn
      refine orB_ok fun h => okB_mk ?_
      have h3 := of_decide_eq_true h
      unfold HoldsN at hp
      rw [if_neg h1, if_neg h2, if_pos h10] at hp
      have := (tSum_bd hp.2.2 (by omega : 0 ≤ l.getD 0 0) g0.2 ms.length (Nat.le_refl _)).1
      omega
  · unfold twoV
    split
    · exact orB_ok fun h => h
    split
    · exact orB_ok fun h => h
    split
    · exact orB_ok fun h => h
    split
    · refine ⟨?_, by simp, by simp⟩
      simp only
      split
      · exact getD_ok hl 1
      · exact getD_ok hl 0
    · refine ⟨?_, by simp, by simp⟩
      simp only
      split
      · exact getD_ok hl 1
      · exact getD_ok hl 0
theorem seqF_ok : ∀ (gs : List (Int → Said)) (fu : Int), 0 ≤ fu → (∀ g ∈ gs, ∀ fu, 0 ≤ fu → SOk fu (g fu)) → (0 ≤ (seqF gs fu).2.1 ∧ (seqF gs fu).2.1 ≤ 4) ∧ (0 ≤ (seqF gs fu).2.2 ∧ (seqF gs fu).2.2 ≤ fu) ∧ (∀ x ∈ (seqF gs fu).1, okB x = true) ∧ ((seqF gs fu).2.1 = 0 → (seqF gs fu).1.length = gs.length)
  | [], fu, h0, h => by simp [seqF, h0]
  | g :: r, fu, h0, h => by
    have hg := h g (by simp) fu h0
    obtain ⟨k1, k2, k3, k4⟩ := hg
    rw [seqF]
    split
    · have ih := seqF_ok r (g fu).f k3.1 (fun g' hg' => h g' (by simp [hg']))
      refine ⟨ih.1, ⟨ih.2.1.1, Int.le_trans ih.2.1.2 k3.2⟩, fun x hx => ?_, fun e => ?_⟩
      · simp only [List.mem_cons] at hx
        rcases hx with rfl | hx
        · exact k1
        · exact ih.2.2.1 x hx
      · simp [ih.2.2.2 e]
    · rename_i hc
      exact ⟨k2, k3, by simp, fun e => absurd e hc⟩
theorem eval_ok (ns : List (ByteArray × Int)) : ∀ (k : Nat) (t : Tr), wT t ≤ k → OkP t → ∀ fu, 0 ≤ fu → SOk fu (evalT ns t fu) := by
  intro k
  induction k with
  | zero => intro t h; cases t; rw [wT] at h; omega
  | succ k ih =>
    intro t hk h fu h0
    obtain ⟨o, n, s, ks, ms⟩ := t
    obtain ⟨hp, h3⟩ := okP_parts h
    rw [wT] at hk
    have hg : ∀ g ∈ ks.map (evalT ns), ∀ fu, 0 ≤ fu → SOk fu (g fu) := fun g hg fu hf => by
      obtain ⟨t, ht, rfl⟩ := List.mem_map.1 hg
      exact ih t (by have := wL_mem ht; omega) (h3 t ht) fu hf
    rw [evalT, evalFs_eq]
    have hs := seqF_ok ((ks.map (evalT ns)).take (if o = 9 then 2 else (ks.map (evalT ns)).length)) fu h0 (fun g h => hg g (List.mem_of_mem_take h))
    unfold nodeV
    generalize seqF ((ks.map (evalT ns)).take (if o = 9 then 2 else (ks.map (evalT ns)).length)) fu = q at *
    obtain ⟨q1, q2, q3, q4⟩ := hs
    split
    · exact ⟨okB0, q1, q2, fun _ => rfl⟩
    split
    · exact ⟨okB0, by simp, q2, fun _ => rfl⟩
    split
    · rename_i h9
      subst h9
      have hk4 := if_kids hp
      have hf2 : 0 ≤ q.2.2 - (1 + (ms.length : Int)) := by omega
      have hm : ∀ i, i < 4 → SOk (q.2.2 - (1 + (ms.length : Int))) (((ks.map (evalT ns)).getD i noSaid) (q.2.2 - (1 + (ms.length : Int)))) := fun i hi => by
        have : (ks.map (evalT ns)).getD i noSaid = evalT ns (ks[i]'(by omega)) := by simp [List.getD, show i < ks.length by omega]
        rw [this]
        exact ih _ (by have := wL_mem (List.getElem_mem (l := ks) (n := i) (by omega)); omega) (h3 _ (List.getElem_mem _)) _ hf2
      have up : ∀ {r : Said}, SOk (q.2.2 - (1 + (ms.length : Int))) r → SOk fu r := fun h => ⟨h.1, h.2.1, ⟨h.2.2.1.1, by have := h.2.2.1.2; omega⟩, h.2.2.2⟩
      split
      · exact up (hm 2 (by omega))
      · exact up (hm 3 (by omega))
    · have hd := doR_ok (ns := ns) (o := o) (n := n) (s := s) (ms := ms) hp.2 q3
      exact ⟨hd.1, hd.2.1, ⟨by simp only; omega, by simp only; omega⟩, hd.2.2⟩
end Go.Proofs.YtjphjnopdlfplaaGreatDoor

namespace Go.Proofs.YtjphjnopdlfplaaGreatDoor
open Go.RowKit
set_option linter.unusedVariables false
set_option linter.unusedSimpArgs false

theorem nm_eq {a b : ByteArray} (h : a = b) : (a.toList == b.toList) = true := by rw [h]; simp
theorem nm_neq {a b : ByteArray} (h : ¬ a = b) : (a.toList == b.toList) = false := by
  rw [beq_eq_false_iff_ne]
  intro e
  rw [Lib.toList_data, Lib.toList_data] at e
  exact h (ByteArray.ext (Array.ext' e))
theorem ret2 {a b c d : Int} (h : a = c) (k : b = d) : Ending.returned (.tuple #[.int .i64 a, .int .i64 b]) = .returned (.tuple #[.int .i64 c, .int .i64 d]) := by rw [h, k]
def Amt (x : Int) : Prop := -1000000000000 ≤ x ∧ x ≤ 1000000000000
theorem mul_okB {x y a b : Int} (hx : 0 ≤ x) (hy : 0 ≤ y) (hab : a * b = x * y ∨ a * b = -(x * y)) : okB (a * b) = decide (x * y ≤ 1000000000000) := by
  have h0 : 0 ≤ x * y := Int.mul_nonneg hx hy
  by_cases h : x * y ≤ 1000000000000
  · rw [decide_eq_true h]; exact okB_mk (by omega)
  · rw [decide_eq_false h]; exact okB_no (by omega)
theorem mul_le {x y : Int} (hx : 0 < x) (h : ¬ 1000000000000 / x < y) : y * x ≤ 1000000000000 := by
  have h2 : y ≤ 1000000000000 / x := by omega
  exact Int.mul_le_of_le_ediv hx h2
set_option maxHeartbeats 4000000 in
theorem specMul (a b : Int) (w : World) (ha : Amt a) (hb : Amt b) :
    Calls Tryz.prog 116 #[.int .i64 a, .int .i64 b] w fun e w' => e = .returned (.tuple #[.int .i64 (orB (a * b) (okB (a * b))).1, .int .i64 (orB (a * b) (okB (a * b))).2]) ∧ w' = w := by
  obtain ⟨a0, a1⟩ := ha
  obtain ⟨b0, b1⟩ := hb
  -- the two without their signs
  obtain ⟨x, hx, hx0, hx1⟩ : ∃ x, (if a < 0 then -a else a) = x ∧ 0 ≤ x ∧ x ≤ 1000000000000 := ⟨_, rfl, by split <;> omega, by split <;> omega⟩
  obtain ⟨y, hy, hy0, hy1⟩ : ∃ y, (if b < 0 then -b else b) = y ∧ 0 ≤ y ∧ y ≤ 1000000000000 := ⟨_, rfl, by split <;> omega, by split <;> omega⟩
  have hab : a * b = x * y ∨ a * b = -(x * y) := by
    rcases Int.lt_or_le a 0 with s | s <;> rcases Int.lt_or_le b 0 with t | t
    · left; rw [← hx, ← hy, if_pos s, if_pos t, Int.neg_mul_neg]
    · right; rw [← hx, ← hy, if_pos s, if_neg (by omega), Int.neg_mul, Int.neg_neg]
    · right; rw [← hx, ← hy, if_neg (by omega), if_pos t, Int.mul_neg, Int.neg_neg]
    · left; rw [← hx, ← hy, if_neg (by omega), if_neg (by omega)]
  have hok := mul_okB hx0 hy0 hab
  have HE : ∀ (v c : Int), (v = (orB (a * b) (okB (a * b))).1 ∧ c = (orB (a * b) (okB (a * b))).2) → Ending.returned (.tuple #[.int .i64 v, .int .i64 c]) = .returned (.tuple #[.int .i64 (orB (a * b) (okB (a * b))).1, .int .i64 (orB (a * b) (okB (a * b))).2]) := fun v c h => ret2 h.1 h.2
  have HEX := Lib.hid HE
  clear HE
  have ea : IntKind.i64.wrap (-a) = -a := IntWalk.i64_in _ (by omega)
  have eb : IntKind.i64.wrap (-b) = -b := IntWalk.i64_in _ (by omega)
  have HA := Lib.hid ea
  have HBb := Lib.hid eb
  have HX := Lib.hid (And.intro hx0 hx1)
  have HY := Lib.hid (And.intro hy0 hy1)
  by_cases big : 0 < x ∧ 1000000000000 / x < y
  · have hbig : 1000000000000 < x * y := by have := div_big big.1 big.2; rw [Int.mul_comm] at this; exact this
    have HB : Hid (okB (a * b) = false) := by show _ = _; rw [hok]; exact decide_eq_false (by omega)
    obtain ⟨g1, g2⟩ := big
    have z1 : decide (0 < x) = true := decide_eq_true g1
    have xz : ¬ x = 0 := by omega
    have qd : Int.tdiv 1000000000000 x = 1000000000000 / x := Int.tdiv_eq_ediv_of_nonneg (by omega)
    have qb0 : 0 ≤ 1000000000000 / x := Int.ediv_nonneg (by omega) (by omega)
    have qb1 : 1000000000000 / x ≤ 1000000000000 := Int.ediv_le_self _ (by omega)
    have qw : IntKind.i64.wrap (Int.tdiv 1000000000000 x) = 1000000000000 / x := by rw [qd]; exact IntWalk.i64_in _ (by omega)
    clear qd qb0 qb1
    have z2 : decide (1000000000000 / x < y) = true := decide_eq_true g2
    clear hok hab hbig a0 a1 b0 b1 hx0 hx1 hy0 hy1 g1 g2 ea eb
    rcases Int.lt_or_le a 0 with s | s <;> rcases Int.lt_or_le b 0 with t | t
    all_goals
      first | (rw [if_pos s] at hx; have ea : IntKind.i64.wrap (-a) = x := by rw [HA.out]; exact hx) | (rw [if_neg (by omega)] at hx; subst hx)
      first | (rw [if_pos t] at hy; have eb : IntKind.i64.wrap (-b) = y := by rw [HBb.out]; exact hy) | (rw [if_neg (by omega)] at hy; subst hy)
      first | (have sa : decide (a < 0) = true := decide_eq_true s) | (have sa : decide (a < 0) = false := decide_eq_false (by omega))
      first | (have sb : decide (b < 0) = true := decide_eq_true t) | (have sb : decide (b < 0) = false := decide_eq_false (by omega))
      have S := Lib.hid s
      have T := Lib.hid t
      try have HX2 := Lib.hid hx
      try have HY2 := Lib.hid hy
      clear s t
      try clear hx
      try clear hy
      go_enter Tryz.func116, Tryz.ntmps116
      go_wp2
      go_ret2
      exact ⟨HEX.out _ _ (by rw [HB.out]; exact ⟨rfl, rfl⟩), rfl⟩
  · have hsm : x * y ≤ 1000000000000 := by
      rcases Int.lt_or_le 0 x with g | g
      · have := mul_le g (fun h => big ⟨g, h⟩); rw [Int.mul_comm]; exact this
      · obtain rfl : x = 0 := by omega
        rw [Int.zero_mul]; omega
    have HB : Hid (okB (a * b) = true) := by show _ = _; rw [hok]; exact decide_eq_true hsm
    have hnn : 0 ≤ x * y := Int.mul_nonneg hx0 hy0
    have em : IntKind.i64.wrap (a * b) = a * b := IntWalk.i64_in _ (by omega)
    have HM : Hid (∀ v c : Int, v = a * b → c = 0 → Ending.returned (.tuple #[.int .i64 v, .int .i64 c]) = .returned (.tuple #[.int .i64 (orB (a * b) (okB (a * b))).1, .int .i64 (orB (a * b) (okB (a * b))).2])) := fun v c h1 h2 => HEX.out _ _ (by rw [HB.out, h1, h2]; exact ⟨rfl, rfl⟩)
    have bg : x ≤ 0 ∨ (0 < x ∧ ¬ 1000000000000 / x < y) := by
      rcases Int.lt_or_le 0 x with g | g
      · exact .inr ⟨g, fun h => big ⟨g, h⟩⟩
      · exact .inl g
    clear hok hab hsm hnn big HB a0 a1 b0 b1 hy0 hy1 ea eb
    rcases bg with g1 | ⟨g1, g2⟩
    · have z1 : decide (0 < x) = false := decide_eq_false (by omega)
      clear g1 hx0 hx1
      rcases Int.lt_or_le a 0 with s | s <;> rcases Int.lt_or_le b 0 with t | t
      all_goals
        first | (rw [if_pos s] at hx; have ea : IntKind.i64.wrap (-a) = x := by rw [HA.out]; exact hx) | (rw [if_neg (by omega)] at hx; subst hx)
        first | (rw [if_pos t] at hy; have eb : IntKind.i64.wrap (-b) = y := by rw [HBb.out]; exact hy) | (rw [if_neg (by omega)] at hy; subst hy)
        first | (have sa : decide (a < 0) = true := decide_eq_true s) | (have sa : decide (a < 0) = false := decide_eq_false (by omega))
        first | (have sb : decide (b < 0) = true := decide_eq_true t) | (have sb : decide (b < 0) = false := decide_eq_false (by omega))
        have S := Lib.hid s
        have T := Lib.hid t
        try have HX2 := Lib.hid hx
        try have HY2 := Lib.hid hy
        clear s t
        try clear hx
        try clear hy
        go_enter Tryz.func116, Tryz.ntmps116
        go_wp2
        go_ret2
        exact ⟨HM.out _ _ rfl rfl, rfl⟩
    · have z1 : decide (0 < x) = true := decide_eq_true g1
      have xz : ¬ x = 0 := by omega
      have qd : Int.tdiv 1000000000000 x = 1000000000000 / x := Int.tdiv_eq_ediv_of_nonneg (by omega)
      have qb0 : 0 ≤ 1000000000000 / x := Int.ediv_nonneg (by omega) (by omega)
      have qb1 : 1000000000000 / x ≤ 1000000000000 := Int.ediv_le_self _ (by omega)
      have qw : IntKind.i64.wrap (Int.tdiv 1000000000000 x) = 1000000000000 / x := by rw [qd]; exact IntWalk.i64_in _ (by omega)
      clear qd qb0 qb1
      have z2 : decide (1000000000000 / x < y) = false := decide_eq_false g2
      clear g1 g2 hx0 hx1
      rcases Int.lt_or_le a 0 with s | s <;> rcases Int.lt_or_le b 0 with t | t
      all_goals
        first | (rw [if_pos s] at hx; have ea : IntKind.i64.wrap (-a) = x := by rw [HA.out]; exact hx) | (rw [if_neg (by omega)] at hx; subst hx)
        first | (rw [if_pos t] at hy; have eb : IntKind.i64.wrap (-b) = y := by rw [HBb.out]; exact hy) | (rw [if_neg (by omega)] at hy; subst hy)
        first | (have sa : decide (a < 0) = true := decide_eq_true s) | (have sa : decide (a < 0) = false := decide_eq_false (by omega))
        first | (have sb : decide (b < 0) = true := decide_eq_true t) | (have sb : decide (b < 0) = false := decide_eq_false (by omega))
        have S := Lib.hid s
        have T := Lib.hid t
        try have HX2 := Lib.hid hx
        try have HY2 := Lib.hid hy
        clear s t
        try clear hx
        try clear hy
        go_enter Tryz.func116, Tryz.ntmps116
        go_wp2
        go_ret2
        exact ⟨HM.out _ _ rfl rfl, rfl⟩
set_option maxHeartbeats 4000000 in
theorem specTwo (o a b : Int) (w : World) (ho : 3 ≤ o ∧ o ≤ 8 ∧ o ≠ 6) (ha : Amt a) (hb : Amt b) :
    Calls Tryz.prog 93 #[.int .i64 o, .int .i64 a, .int .i64 b] w fun e w' => e = .returned (.tuple #[.int .i64 (twoV o a b).1, .int .i64 (twoV o a b).2]) ∧ w' = w := by
  obtain ⟨a0, a1⟩ := ha
  obtain ⟨b0, b1⟩ := hb
  have hc : o = 3 ∨ o = 4 ∨ o = 5 ∨ o = 7 ∨ o = 8 := by omega
  clear ho
  rcases hc with rfl | rfl | rfl | rfl | rfl
  · have HE : Hid (twoV 3 a b = orB (a + b) (okB (a + b))) := rfl
    rw [HE.out]
    have e1 : IntKind.i64.wrap (a + b) = a + b := IntWalk.i64_in _ (by omega)
    cases hk : okB (a + b) with
    | false =>
      have HK := Lib.hid hk
      clear hk
      go_enter Tryz.func93, Tryz.ntmps93
      go_wp2_with fail
      refine (specMoneyOk _ _).mono ?_
      rintro e w' ⟨rfl, rfl⟩
      rw [HK.out]
      go_wp2
      go_ret2
      exact ⟨rfl, rfl⟩
    | true =>
      have HK := Lib.hid hk
      clear hk
      go_enter Tryz.func93, Tryz.ntmps93
      go_wp2_with fail
      refine (specMoneyOk _ _).mono ?_
      rintro e w' ⟨rfl, rfl⟩
      rw [HK.out]
      go_wp2
      go_ret2
      exact ⟨rfl, rfl⟩
  · have HE : Hid (twoV 4 a b = orB (a - b) (okB (a - b))) := rfl
    rw [HE.out]
    have e1 : IntKind.i64.wrap (a - b) = a - b := IntWalk.i64_in _ (by omega)
    cases hk : okB (a - b) with
    | false =>
      have HK := Lib.hid hk
      clear hk
      go_enter Tryz.func93, Tryz.ntmps93
      go_wp2_with fail
      refine (specMoneyOk _ _).mono ?_
      rintro e w' ⟨rfl, rfl⟩
      rw [HK.out]
      go_wp2
      go_ret2
      exact ⟨rfl, rfl⟩
    | true =>
      have HK := Lib.hid hk
      clear hk
      go_enter Tryz.func93, Tryz.ntmps93
      go_wp2_with fail
      refine (specMoneyOk _ _).mono ?_
      rintro e w' ⟨rfl, rfl⟩
      rw [HK.out]
      go_wp2
      go_ret2
      exact ⟨rfl, rfl⟩
  · have HE : Hid (twoV 5 a b = orB (a * b) (okB (a * b))) := rfl
    rw [HE.out]
    have HM := Lib.hid (specMul a b w ⟨a0, a1⟩ ⟨b0, b1⟩)
    generalize (orB (a * b) (okB (a * b))).1 = v at *
    generalize (orB (a * b) (okB (a * b))).2 = c at *
    go_enter Tryz.func93, Tryz.ntmps93
    go_wp2_with fail
    refine HM.out.mono ?_
    rintro e w' ⟨rfl, rfl⟩
    go_wp2
    go_ret2
    exact ⟨rfl, rfl⟩
  · have HE : Hid (twoV 7 a b = (if b < a then b else a, 0)) := rfl
    rw [HE.out]
    rcases Int.lt_or_le b a with c | c
    · have z : decide (b < a) = true := decide_eq_true c
      rw [if_pos c]
      have hk := Lib.hid (okB_mk ⟨b0, b1⟩)
      clear c
      go_enter Tryz.func93, Tryz.ntmps93
      go_wp2_with fail
      refine (specMoneyOk _ _).mono ?_
      rintro e w' ⟨rfl, rfl⟩
      rw [hk.out]
      go_wp2
      go_ret2
      exact ⟨rfl, rfl⟩
    · have z : decide (b < a) = false := decide_eq_false (by omega)
      rw [if_neg (by omega)]
      have hk := Lib.hid (okB_mk ⟨a0, a1⟩)
      clear c
      go_enter Tryz.func93, Tryz.ntmps93
      go_wp2_with fail
      refine (specMoneyOk _ _).mono ?_
      rintro e w' ⟨rfl, rfl⟩
      rw [hk.out]
      go_wp2
      go_ret2
      exact ⟨rfl, rfl⟩
  · have HE : Hid (twoV 8 a b = (if a < b then b else a, 0)) := rfl
    rw [HE.out]
    rcases Int.lt_or_le a b with c | c
    · have z : decide (a < b) = true := decide_eq_true c
      rw [if_pos c]
      have hk := Lib.hid (okB_mk ⟨b0, b1⟩)
      clear c
      go_enter Tryz.func93, Tryz.ntmps93
      go_wp2_with fail
      refine (specMoneyOk _ _).mono ?_
      rintro e w' ⟨rfl, rfl⟩
      rw [hk.out]
      go_wp2
      go_ret2
      exact ⟨rfl, rfl⟩
    · have z : decide (a < b) = false := decide_eq_false (by omega)
      rw [if_neg (by omega)]
      have hk := Lib.hid (okB_mk ⟨a0, a1⟩)
      clear c
      go_enter Tryz.func93, Tryz.ntmps93
      go_wp2_with fail
      refine (specMoneyOk _ _).mono ?_
      rintro e w' ⟨rfl, rfl⟩
      rw [hk.out]
      go_wp2
      go_ret2
      exact ⟨rfl, rfl⟩
set_option maxHeartbeats 4000000 in
theorem specPartW (a b c : Int) (w : World) :
    Calls Tryz.prog 91 #[.int .i64 a, .int .i64 b, .int .i64 c] w fun e w' => e = .returned (.tuple #[.int .i64 (partW a b c).1, .int .i64 (partW a b c).2]) ∧ w' = w := by
  by_cases h : c = 0
  · subst h
    have HE : Hid (partW a b 0 = (0, 3)) := rfl
    rw [HE.out]
    go_enter Tryz.func91, Tryz.ntmps91
    go_wp2
    go_ret2
    exact ⟨rfl, rfl⟩
  · have HE : Hid (partW a b c = orB (partV a b c) (partOk a b c)) := by show _ = _; rw [partW, if_neg h]
    rw [HE.out]
    have z : (c == 0) = false := by simpa using h
    have HP := Lib.hid (specMoneyPart a b c w)
    clear h
    generalize partV a b c = v at *
    cases hk : partOk a b c with
    | false =>
      rw [hk] at HP
      clear hk
      go_enter Tryz.func91, Tryz.ntmps91
      go_wp2_with fail
      refine HP.out.mono ?_
      rintro e w' ⟨rfl, rfl⟩
      go_wp2
      go_ret2
      exact ⟨rfl, rfl⟩
    | true =>
      rw [hk] at HP
      clear hk
      go_enter Tryz.func91, Tryz.ntmps91
      go_wp2_with fail
      refine HP.out.mono ?_
      rintro e w' ⟨rfl, rfl⟩
      go_wp2
      go_ret2
      exact ⟨rfl, rfl⟩
/-- Names and their numbers in memory. -/
def PairsN (N : Nat → Prop) (w : World) (a : Option Addr) (len : Nat) (ns : List (ByteArray × Int)) : Prop :=
  len = ns.length ∧ (len = 0 ∨ ∃ b off, a = some ⟨b, off, none⟩ ∧ N b ∧ b < w.heap.size ∧ ∀ i, i < len → w.cell? ⟨b, off + i * 2, none⟩ = some (.string (ns.getD i (⟨#[]⟩, 0)).1) ∧ w.cell? ⟨b, off + i * 2 + 1, none⟩ = some (.int .i64 (ns.getD i (⟨#[]⟩, 0)).2))
theorem PairsN.kept {N : Nat → Prop} {w w' : World} {a : Option Addr} {len : Nat} {ns : List (ByteArray × Int)} (h : PairsN N w a len ns) (s : Same N w w') : PairsN N w' a len ns := by
  obtain ⟨h1, h2⟩ := h
  refine ⟨h1, ?_⟩
  rcases h2 with h | ⟨b, off, k1, k2, k3, k4⟩
  · exact Or.inl h
  · have e := s.2 b k2 k3
    exact Or.inr ⟨b, off, k1, k2, Nat.lt_of_lt_of_le k3 s.1, fun i hi => ⟨(World.cell?_of_block (a := ⟨b, off + i * 2, none⟩) e).trans (k4 i hi).1, (World.cell?_of_block (a := ⟨b, off + i * 2 + 1, none⟩) e).trans (k4 i hi).2⟩⟩
theorem PairsN.mono {N N' : Nat → Prop} (hN : ∀ b, N b → N' b) {w : World} {a : Option Addr} {len : Nat} {ns : List (ByteArray × Int)} (h : PairsN N w a len ns) : PairsN N' w a len ns := by
  obtain ⟨h1, h2⟩ := h
  refine ⟨h1, ?_⟩
  rcases h2 with h | ⟨b, off, k1, k2, k3, k4⟩
  · exact Or.inl h
  · exact Or.inr ⟨b, off, k1, hN b k2, k3, k4⟩
theorem varV_drop {ns : List (ByteArray × Int)} {k : Nat} (h : k < ns.length) {s : ByteArray} : varV (ns.drop k) s = if (ns.getD k (⟨#[]⟩, 0)).1 = s then (if okB (ns.getD k (⟨#[]⟩, 0)).2 then ((ns.getD k (⟨#[]⟩, 0)).2, 0) else (0, 2)) else varV (ns.drop (k + 1)) s := by
  have e : ns.getD k (⟨#[]⟩, 0) = ns[k] := by simp [h]
  rw [List.drop_eq_getElem_cons h, varV, e]
set_option maxHeartbeats 4000000 in
theorem specVar (a : Option Addr) (len cap : Nat) (ns : List (ByteArray × Int)) (s : ByteArray) (w : World) (h : PairsN All w a len ns) (hl : len ≤ 1048576) :
    Calls Tryz.prog 90 #[.slice a len cap, .string s] w fun e w' => e = .returned (.tuple #[.int .i64 (varV ns s).1, .int .i64 (varV ns s).2]) ∧ w' = w := by
  have H := Lib.hid h
  clear h
  go_enter Tryz.func90, Tryz.ntmps90
  go_wp2_with fail
  go_loopw [6] (fun i wr => ∃ k : Nat, k ≤ len ∧ i = .int .i64 k ∧ Hid (varV (ns.drop k) s = varV ns s) ∧ wr = w) (fun i _ => len - (intOf i).toNat)
  case atStart => exact ⟨0, Nat.zero_le _, rfl, by show _ = _; rw [List.drop_zero], rfl⟩
  case round =>
    obtain ⟨k, hk, rfl, hs, rfl⟩ := hrel
    rcases Nat.lt_or_ge k len with hlt | hge
    · obtain ⟨hln, hc | ⟨b, off, rfl, -, hbl, hrow⟩⟩ := H.out
      · omega
      obtain ⟨y0, y1⟩ := hrow k hlt
      have hV := varV_drop (s := s) (show k < ns.length by omega)
      have k1 : (k : Int) < len := by omega
      have k0 : (0 : Int) ≤ k := by omega
      clear hrow hbl
      generalize (ns.getD k (⟨#[]⟩, 0)).1 = nm at *
      generalize (ns.getD k (⟨#[]⟩, 0)).2 = v at *
      by_cases e : nm = s
      · have z := nm_eq e
        have zd : decide (nm = s) = true := decide_eq_true e
        rw [if_pos e] at hV
        have HV := Lib.hid (hs.out.symm.trans hV)
        clear e hV hs
        cases hkb : okB v with
        | true =>
          have HK := Lib.hid hkb
          clear hkb
          go_wp2_with fail
          refine (specMoneyOk _ _).mono ?_
          rintro e w' ⟨rfl, rfl⟩
          rw [HK.out]
          go_wp2
          go_ret2
          exact ⟨ret2 (by rw [HV.out, if_pos HK.out]) (by rw [HV.out, if_pos HK.out]), rfl⟩
        | false =>
          have HK := Lib.hid hkb
          clear hkb
          go_wp2_with fail
          refine (specMoneyOk _ _).mono ?_
          rintro e w' ⟨rfl, rfl⟩
          rw [HK.out]
          go_wp2
          go_ret2
          exact ⟨ret2 (by rw [HV.out, if_neg (by rw [HK.out]; decide)]) (by rw [HV.out, if_neg (by rw [HK.out]; decide)]), rfl⟩
      · have z := nm_neq e
        have zd : decide (nm = s) = false := decide_eq_false e
        rw [if_neg e] at hV
        have HV := Lib.hid hV
        clear e hV
        go_wp2
        go_roundw
        case rel => exact ⟨k + 1, by omega, by go_num, by show _ = _; rw [← hs.out, HV.out], (by first | rfl | trivial)⟩
        case measure => simp [intOf]; omega
    · obtain rfl : k = len := by omega
      have HE : Hid (varV ns s = (0, 4)) := by
        have := hs.out
        rw [List.drop_of_length_le (by have := H.out.1; omega), varV] at this
        exact this.symm
      go_wp2
      go_ret2
      exact ⟨ret2 (by rw [HE.out]) (by rw [HE.out]), rfl⟩
theorem specTierV (ma : Option Addr) (mc : Nat) (ms : List (Int × Int)) (a : Int) (w : World) (h : MarksN All w ma ms.length ms) (hm : MOk (mF ms) (mP ms) ms.length) (a0 : 0 ≤ a) (a1 : a ≤ 1000000000000) :
    Calls Tryz.prog 92 #[.int .i64 a, .slice ma ms.length mc] w fun e w' => e = .returned (.tuple #[.int .i64 (tierV ms a).1, .int .i64 (tierV ms a).2]) ∧ Below w.heap.size w w' := by
  refine (specTiers a ma ms.length mc (mF ms) (mP ms) w (marks_of_N h) hm a0 a1).mono ?_
  rintro e w' ⟨x, c, rfl, hx, hb⟩
  refine ⟨?_, hb⟩
  rw [tierV, if_neg (by omega)]
  rcases hx with ⟨rfl, rfl, h⟩ | ⟨rfl, rfl, h⟩
  · rw [decide_eq_true h]; rfl
  · rw [decide_eq_false (by omega)]; rfl
end Go.Proofs.YtjphjnopdlfplaaGreatDoor
