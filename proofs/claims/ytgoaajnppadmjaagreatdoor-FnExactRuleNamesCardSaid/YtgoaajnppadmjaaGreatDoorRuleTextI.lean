/-
  A rule's text: the program's answer.
-/
import Derived.Test.YtgoaajnppadmjaaGreatDoorMarksText
import Derived.Test.YtgoaajnppadmjaaGreatDoorRuleTextM
import Derived.Test.YtgoaajnppadmjaaGreatDoorRuleOps
namespace Go.Proofs.YtgoaajnppadmjaaGreatDoor
open Go.RowKit
set_option linter.unusedVariables false
set_option linter.unusedSimpArgs false

def strsT (ks : List Tr) : List Value := ks.map fun t => .string (textB t)
def TextIAt (t : Tr) : Prop := ∀ (f : Fld) (w : World), TrF All w t f → OkP t → Laid w → Calls Tryz.prog 65 #[f.val] w fun e w' => e = .returned (.string (textB t)) ∧ Below w.heap.size w w'
theorem bsz (l : List UInt8) : (⟨l.toArray⟩ : ByteArray).size = l.length := by show l.toArray.size = _; simp
set_option maxRecDepth 20000 in
set_option maxHeartbeats 8000000 in
theorem textIN (o n : Int) (s : ByteArray) (ks : List Tr) (ms : List (Int × Int)) (ih : ∀ t ∈ ks, TextIAt t) : TextIAt (.node o n s ks ms) := by
  intro f w h hok hL
  obtain ⟨it0, hi, hz0, hz1, hz2⟩ := info_parts infoStrM
  obtain ⟨e1, e2, e3, hm, hk, hc1, hc2⟩ := trF_iff.1 h
  obtain ⟨fo, fn, fs, ka, kl, kc, ma, ml, mc⟩ := f
  dsimp only at e1 e2 e3 hm hk hc1 hc2
  have q1 := e1.symm
  have q2 := e2.symm
  have q3 := e3.symm
  clear e1 e2 e3
  subst q1 q2 q3
  obtain rfl := hk.1
  obtain rfl := hm.1
  obtain ⟨hpl, hoks⟩ := okP_parts hok
  have hw29 : wL ks ≤ 29 := by have := okP_w hok; rw [wT] at this; omega
  have hin := op_in hpl
  have HK := Lib.hid hk
  have HM := Lib.hid hm
  have IH := Lib.hid ih
  have HPL := Lib.hid hpl
  have HOK := Lib.hid hoks
  have HL := Lib.hid hL
  clear h hk hm ih hc1 hc2 hpl hoks hok hL
  unfold Fld.val
  dsimp only
  have hA : Below w.heap.size w (w.alloc (.cells #[.int .i64 o, .int .i64 n, .string s, .slice ka ks.length kc, .slice ma ms.length mc] 32)) := (Below.refl _ _).alloc (Nat.le_refl _) _
  have hArg : (w.alloc (.cells #[.int .i64 o, .int .i64 n, .string s, .slice ka ks.length kc, .slice ma ms.length mc] 32)).heap[w.heap.size]? = some (.cells #[.int .i64 o, .int .i64 n, .string s, .slice ka ks.length kc, .slice ma ms.length mc] 32 (0, 0)) := heap_alloc_new w _
  have HA := Lib.hid hA
  have HArg := Lib.hid hArg
  clear hA hArg
  by_cases h1 : o = 1
  · subst h1
    have hn : -1000000000 ≤ n ∧ n ≤ 1000000000 := by have := HPL.out.2; unfold HoldsN at this; rw [if_pos rfl] at this; exact this.1
    have HT : Hid (textB (.node 1 n s ks ms) = intB n) := by show _ = _; rw [textB, textT, if_pos rfl]; rfl
    go_enter Tryz.func65, Tryz.ntmps65
    go_wp2_with fail
    refine (itoaZ n _ (laid_stays HL.out HA.out) (by omega) (by omega)).mono ?_
    rintro e w1 ⟨rfl, d1⟩
    go_wp2
    go_ret
    exact ⟨retS HT.out.symm, HA.out.trans (d1.mono HA.out.size)⟩
  by_cases h2 : o = 2
  · subst h2
    have HT : Hid (textB (.node 2 n s ks ms) = s) := by show _ = _; rw [textB, textT, if_neg (by decide), if_pos rfl]
    go_enter Tryz.func65, Tryz.ntmps65
    go_wp2
    go_ret
    exact ⟨retS HT.out.symm, HA.out⟩
  have b1 : (o == 1) = false := by simpa using h1
  have b2 : (o == 2) = false := by simpa using h2
  have HT : Hid (textT (.node o n s ks ms) = wordT o ++ 40 :: (joinS 44 (ks.map textB) ++ ((if ms.length = 0 then [] else 59 :: marksT 44 ms) ++ [41]))) := textT_op h1 h2
  have hwl := wordT_len o
  have HMO : Hid ((o = 10 → MOk (mF ms) (mP ms) ms.length) ∧ (o ≠ 10 → ms.length = 0)) := by
    have h3 := HPL.out.2
    unfold HoldsN at h3
    rw [if_neg h1, if_neg h2] at h3
    split at h3
    · exact ⟨fun _ => h3.2.2, fun h => absurd ‹_› h⟩
    · exact ⟨fun h => absurd h ‹_›, fun _ => h3.2.2⟩
  have hkpos : 0 < ks.length := by
    have h3 := HPL.out.1
    unfold kidsN at h3
    repeat (split at h3; · omega)
    omega
  have hkb : ks.length ≤ 29 := by have := len_wL ks; omega
  have kidz := kidsT_len HOK.out hw29 ks.length
  rw [List.take_length] at kidz
  clear h1 h2
  have Hin := Lib.hid hin
  clear hin
  go_enter Tryz.func65, Tryz.ntmps65
  go_wp2_with fail
  generalize hW0 : (w.alloc (.cells #[.int .i64 o, .int .i64 n, .string s, .slice ka ks.length kc, .slice ma ms.length mc] 32)) = W0 at *
  clear hW0
  have sz0 : w.heap.size < W0.heap.size := (Array.getElem?_eq_some_iff.1 HArg.out).1
  go_loopw [3, 21] (fun vl vi wr => ∃ (k c : Nat) (a : Option Addr), k ≤ ks.length ∧ vi = .int .i64 k ∧ vl = .slice a k c ∧ wr.ownsRow W0.heap.size 9 1 (.slice a k c) k (strsT (ks.take k)) ∧ Below W0.heap.size W0 wr) (fun _ vi _ => ks.length - (intOf vi).toNat)
  case atStart => exact ⟨0, 0, none, Nat.zero_le _, rfl, rfl, World.ownsRow_nil _ _ _ _, Below.refl _ _⟩
  case round =>
    obtain ⟨k, c, a, hk, rfl, rfl, hown, hb⟩ := hrel
    have argr : wr.heap[w.heap.size]? = some (.cells #[.int .i64 o, .int .i64 n, .string s, .slice ka ks.length kc, .slice ma ms.length mc] 32 (0, 0)) := (hb.block _ sz0).trans HArg.out
    have hbw : Below w.heap.size w wr := HA.out.trans (hb.mono HA.out.size)
    rcases Nat.lt_or_ge k ks.length with hlt | hge
    · have k1 : (k : Int) < ks.length := by omega
      have k0 : (0 : Int) ≤ k := by omega
      obtain ⟨b, off, rfl, -, hbl, hrow⟩ := (HK.out.kept (same_of_below (N := All) hbw)).cells (by omega)
      obtain ⟨f, ⟨y0, y1, y2, y3, y4⟩, ht⟩ := hrow k hlt
      have hXB : Below wr.heap.size wr (wr.alloc (.cells #[.int .i64 f.op, .int .i64 f.num, .string f.name, .slice f.ka f.kl f.kc, .slice f.ma f.ml f.mc] 32)) := (Below.refl _ _).alloc (Nat.le_refl _) _
      have hcall := Lib.hid (IH.out ks[k] (List.getElem_mem _) f _ (ht.kept (same_of_below hXB)) (HOK.out _ (List.getElem_mem _)) (laid_stays HL.out (hbw.trans (hXB.mono hbw.size))))
      have HXB := Lib.hid hXB
      have HOW := Lib.hid hown
      have HB := Lib.hid hb
      have HSN : Hid (strsT (ks.take (k + 1)) = strsT (ks.take k) ++ [.string (textB ks[k])]) := by show _ = _; unfold strsT; rw [List.take_succ_eq_append_getElem hlt, List.map_append]; rfl
      generalize hX : textB ks[k] = X at *
      clear hrow hbl ht argr hX hXB hown hb hbw
      go_wp2_with fail
      refine hcall.out.mono ?_
      rintro e w2 ⟨rfl, d2⟩
      clear y0 y1 y2 y3 y4
      have hb2 := Lib.hid (HB.out.trans ((HXB.out.trans (d2.mono HXB.out.size)).mono HB.out.size))
      have hown2 : Hid (w2.ownsRow W0.heap.size 9 1 (.slice a k c) k (strsT (ks.take k))) := (HOW.out.kept (row := none) (below_grownM HXB.out) (Classical.em _)).kept (row := none) (below_grownM d2) (Classical.em _)
      have hz2' : W0.heap.size ≤ w2.heap.size := hb2.out.size
      clear d2
      go_wp2_with (at_builtin; refine wpList_append_lies ?pw ?p1 ?ps ?px 27 ?p2 W0.heap.size 9 it0 (.string ⟨#[]⟩) 1 16 ?p3 ?p4 ?p5 ?p6 ?p7 ?p8 ?p9 (.slice a k c) k (strsT (ks.take k)) ?p10 ?ph1 ⟨w2.heap.size, 0, none⟩ 1 1 [.string X] ?p11 ?p12 ?ph2 ?ph3 ?pc1 ?pc2 ?pc3 ?pc4 (w2.heap.size + 1) ?pc5 ?_; (case p1 => rfl); (case p2 => rfl); (case p10 => rfl); (case p11 => rfl); (case ph1 => exact hown2.out.alloc _); (case p3 => exact Tryz.underlying27); (case p4 => exact hi); (case p5 => exact hz0); (case p6 => exact hz1); (case p7 => exact hz2); (case p8 => rfl); (case p9 => decide); (case p12 => rfl); (case ph2 => exact World.news_of_block (heap_alloc_new w2 _)); (case ph3 => intro u hu; simp at hu; subst hu; rfl); (case pc1 => decide); (case pc2 => unfold maxLen; omega); (case pc3 => omega); (case pc4 => simp only [World.size_alloc]; omega); (case pc5 => simp only [World.size_alloc]); intro g2 cp2 wz hownZ hgrowZ hatZ hltZ)
      have hbZ : Below W0.heap.size W0 wz := (hb2.out.alloc hz2' (.cells #[.string X] 9)).grown hgrowZ (by simp only [World.size_alloc]; omega) (fun y e => ((hown2.out.alloc (.cells #[.string X] 9)).lt y e).1)
      rw [← HSN.out] at hownZ
      go_roundw
      case rel => exact ⟨k + 1, cp2, some ⟨g2, 0, none⟩, by omega, by go_num, rfl, hownZ, hbZ⟩
      case measure => simp [intOf]; omega
    · obtain rfl : k = ks.length := by omega
      rw [List.take_length] at hown
      obtain ⟨g, cap, cur, hv, hbg, hcur, hnc, hcm, hcs, htk⟩ : ∃ g cap cur, (Value.slice a ks.length c) = .slice (some ⟨g, 0, none⟩) ks.length cap ∧ W0.heap.size ≤ g ∧ wr.heap[g]? = some (.cells cur 9 (0, 0)) ∧ ks.length ≤ cap ∧ cap ≤ maxLen ∧ cur.size = cap * 1 ∧ cur.toList.take (ks.length * 1) = strsT ks := by
        obtain ⟨-, h | h⟩ := hown
        · exact absurd h.2 (by omega)
        · exact h
      obtain ⟨rfl, -, rfl⟩ : a = some ⟨g, 0, none⟩ ∧ ks.length = ks.length ∧ c = cap := by simpa using hv
      have hcells : ∀ (j : Nat) x, (ks.map textB)[j]? = some x → wr.cell? ⟨g, 0 + j, none⟩ = some (.string x) := by
        intro j x hj
        have hjk : j < ks.length := by have := (List.getElem?_eq_some_iff.1 hj).1; simpa using this
        rw [Nat.zero_add, hown.cellAt j (by omega)]
        unfold strsT
        rw [List.getElem?_map] at hj ⊢
        cases hq : ks[j]? with
        | none => rw [hq] at hj; cases hj
        | some q => rw [hq] at hj; cases hj; rfl
      have J := Tryz.strings_Join g 0 c (ks.map textB) ⟨#[44]⟩ wr hcells (lt_heapM hcur) (by rw [List.length_map]; omega) (by rw [List.length_map]; omega) (by show (joinS 44 (ks.map textB)).length ≤ _; omega)
      rw [List.length_map] at J
      have HJ : Hid (Calls Tryz.prog 100 #[.slice (some ⟨g, 0, none⟩) ks.length c, .string ⟨#[44]⟩] wr fun e w' => e = .returned (.string ⟨(joinS 44 (ks.map textB)).toArray⟩) ∧ Below wr.heap.size wr w') := J
      have HBW := Lib.hid hbw
      have HAr := Lib.hid argr
      clear J hcells hown hb hcur htk hcs hv argr hbw
      have jz : (⟨(joinS 44 (ks.map textB)).toArray⟩ : ByteArray).size ≤ 7000 := by rw [bsz]; exact kidz
      generalize hJS : (⟨(joinS 44 (ks.map textB)).toArray⟩ : ByteArray) = JS at *
      have HJS : Hid (JS.data.toList = joinS 44 (ks.map textB)) := by show _ = _; rw [← hJS]
      clear hJS kidz
      go_wp2_with fail
      refine HJ.out.mono ?_
      rintro e wj ⟨rfl, dj⟩
      have hBj := Lib.hid (HBW.out.trans (dj.mono HBW.out.size))
      have hAj := Lib.hid ((dj.block _ (Array.getElem?_eq_some_iff.1 HAr.out).1).trans HAr.out)
      clear dj
      have ca0 : wj.cell? ⟨w.heap.size, 0, none⟩ = some (Value.int .i64 o) := by rw [Lib.cell_of_heap hAj.out]; rfl
      have ca4 : wj.cell? ⟨w.heap.size, 4, none⟩ = some (Value.slice ma ms.length mc) := by rw [Lib.cell_of_heap hAj.out]; rfl
      have mk := fun W => meth_word o Hin.out W
      have nk := fun W => nil_word o Hin.out W
      have fk := fun a W => call_word o Hin.out a W
      have hws : (⟨(wordT o).toArray⟩ : ByteArray).size ≤ 5 := by rw [bsz]; exact hwl
      have HW : Hid ((⟨(wordT o).toArray⟩ : ByteArray).data.toList = wordT o) := rfl
      have cW : Hid (∀ W, Calls Tryz.prog (wordF o) #[.agg #[]] W fun e w' => e = .returned (.string ⟨(wordT o).toArray⟩) ∧ Below W.heap.size W w') := fun W => wordI o Hin.out W
      generalize (⟨(wordT o).toArray⟩ : ByteArray) = WB at *
      have s40 : (⟨#[40]⟩ : ByteArray).size = 1 := rfl
      have s41 : (⟨#[41]⟩ : ByteArray).size = 1 := rfl
      have s59 : (⟨#[59]⟩ : ByteArray).size = 1 := rfl
      by_cases h10 : o = 10
      · have g0 : (o == 10) = true := by simpa using h10
        have hmo := HMO.out.1 h10
        have HMo := Lib.hid hmo
        have hcM := Lib.hid (marksI 44 ma mc ms wj (HM.out.kept (same_of_below hBj.out)) hmo (laid_stays HL.out hBj.out))
        have mz : (⟨(marksT 44 ms).toArray⟩ : ByteArray).size ≤ 220 := by rw [bsz]; exact marksT_len 44 hmo
        have HMT : Hid ((⟨(marksT 44 ms).toArray⟩ : ByteArray).data.toList = marksT 44 ms) := rfl
        have hml : ms.length ≠ 0 := by have := hmo.1; omega
        generalize (⟨(marksT 44 ms).toArray⟩ : ByteArray) = MT at *
        have HO10 := Lib.hid h10
        clear hmo h10
        have m1 : ¬ 9223372036854775807 < 1 + MT.size := by omega
        have m2 : ¬ 9223372036854775807 < JS.size + (1 + MT.size) := by omega
        have m3 : ¬ 9223372036854775807 < WB.size + 1 := by omega
        have m4 : ¬ 9223372036854775807 < WB.size + 1 + (JS.size + (1 + MT.size)) := by omega
        have m5 : ¬ 9223372036854775807 < WB.size + 1 + (JS.size + (1 + MT.size)) + 1 := by omega
        go_wp2_with fail
        refine hcM.out.mono ?_
        rintro e wm ⟨rfl, dm⟩
        have hBm := Lib.hid (hBj.out.trans (dm.mono hBj.out.size))
        have ca0m : wm.cell? ⟨w.heap.size, 0, none⟩ = some (Value.int .i64 o) := (dm.cell (p := ⟨w.heap.size, 0, none⟩) (Array.getElem?_eq_some_iff.1 hAj.out).1).trans ca0
        clear dm
        go_wp2_with fail
        refine (opOf o wm Hin.out).mono ?_
        rintro e wo ⟨rfl, d3⟩
        have hBo := Lib.hid (hBm.out.trans (d3.mono hBm.out.size))
        clear d3
        go_wp2_with fail
        refine (cW.out wo).mono ?_
        rintro e wq ⟨rfl, d4⟩
        have hBq := hBo.out.trans (d4.mono hBo.out.size)
        clear d4
        go_wp2
        go_ret
        refine ⟨retS ?_, hBq⟩
        rw [textB]
        refine bext ?_
        rw [HT.out, if_neg hml]
        simp [HW.out, HJS.out, HMT.out]
      · have g0 : (o == 10) = false := by simpa using h10
        have hm0 := HMO.out.2 h10
        have HM0 := Lib.hid hm0
        have HO10 := Lib.hid h10
        clear hm0 h10
        have m3 : ¬ 9223372036854775807 < WB.size + 1 := by omega
        have m4 : ¬ 9223372036854775807 < WB.size + 1 + JS.size := by omega
        have m5 : ¬ 9223372036854775807 < WB.size + 1 + JS.size + 1 := by omega
        go_wp2_with fail
        refine (opOf o wj Hin.out).mono ?_
        rintro e wo ⟨rfl, d3⟩
        have hBo := Lib.hid (hBj.out.trans (d3.mono hBj.out.size))
        clear d3
        go_wp2_with fail
        refine (cW.out wo).mono ?_
        rintro e wq ⟨rfl, d4⟩
        have hBq := hBo.out.trans (d4.mono hBo.out.size)
        clear d4
        go_wp2
        go_ret
        refine ⟨retS ?_, hBq⟩
        rw [textB]
        refine bext ?_
        rw [HT.out, if_pos HM0.out]
        simp [HW.out, HJS.out]
theorem textIC : ∀ (k : Nat) (t : Tr), wT t ≤ k → TextIAt t
  | 0, .node o n s ks ms, hw => by rw [wT] at hw; omega
  | k + 1, .node o n s ks ms, hw => by
    rw [wT] at hw
    exact textIN o n s ks ms (fun t ht => textIC k t (by have := wL_mem ht; omega))
end Go.Proofs.YtgoaajnppadmjaaGreatDoor
