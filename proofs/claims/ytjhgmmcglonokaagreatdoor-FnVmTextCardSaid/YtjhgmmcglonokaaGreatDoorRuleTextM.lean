/-
  A rule's text: the model's answer.
-/
import Derived.Test.YtjhgmmcglonokaaGreatDoorJ15
import Derived.Lib.QuietBelow
import Derived.Deep.RegionWith
import Derived.Deep.Cut
import Derived.Deep.CutRange
namespace Go.Proofs.YtjhgmmcglonokaaGreatDoor
open Go.RowKit
set_option linter.unusedVariables false
set_option linter.unusedSimpArgs false

theorem len_ne {α : Type} {f : α → ByteArray} {l : List α} {k : Nat} (h : k < l.length) (hk : k ≠ 0) (e : (l.take k).map f = []) : False := by
  have h2 : ((l.take k).map f).length = 0 := by rw [e]; rfl
  rw [List.length_map, List.length_take] at h2
  omega
theorem word_paren (o : Int) : (⟨(wordT o).toArray⟩ : ByteArray) ++ ⟨#[40]⟩ = ⟨(wordT o ++ [40]).toArray⟩ := by
  apply ByteArray.ext; simp
theorem joinTake {α : Type} (f : α → ByteArray) (sep : UInt8) (l : List α) (k : Nat) (h : k < l.length) : joinS sep ((l.take (k + 1)).map f) = if k = 0 then (f l[k]).data.toList else joinS sep ((l.take k).map f) ++ sep :: (f l[k]).data.toList := by
  rw [List.take_succ_eq_append_getElem h, List.map_append, List.map_cons, List.map_nil]
  split
  · rename_i h0; subst h0; rw [List.take_zero, List.map_nil, List.nil_append]; exact joinS_one _ _
  · exact joinS_snoc _ _ _ (fun e => len_ne h (by omega) e)
theorem wL_take (ks : List Tr) (k : Nat) : wL (ks.take k) ≤ wL ks := by
  induction ks generalizing k with
  | nil => simp
  | cons x r ih =>
    cases k with
    | zero => simp [wL]
    | succ k => simp only [List.take_succ_cons, wL]; have := ih k; omega
theorem len_wL (ks : List Tr) : ks.length ≤ wL ks := by
  induction ks with
  | nil => simp
  | cons t r ih => rw [wL]; have : 1 ≤ wT t := by cases t; rw [wT]; omega
                   simp only [List.length_cons]; omega
theorem kidsT_len {ks : List Tr} (h : ∀ t ∈ ks, OkP t) (hw : wL ks ≤ 29) (k : Nat) : (joinS 44 ((ks.take k).map textB)).length ≤ 7000 := by
  have e : ∀ l : List Tr, (∀ t ∈ l, OkP t) → ((l.map textB).map (·.size + 1)).sum ≤ 241 * wL l := by
    intro l
    induction l with
    | nil => intro _; simp
    | cons t r ih =>
      intro ho
      have a := ih (fun x hx => ho x (by simp [hx]))
      have b := textT_len _ t (Nat.le_refl _) (ho t (by simp))
      have c : 1 ≤ wT t := by cases t; rw [wT]; omega
      rw [wL]
      simp only [List.map_cons, List.sum_cons, textB_size] at a ⊢
      omega
  have h1 := e (ks.take k) (fun t ht => h t (List.mem_of_mem_take ht))
  have h2 := joinS_total 44 ((ks.take k).map textB)
  have h3 := wL_take ks k
  omega
theorem marksTk_len {ms : List (Int × Int)} (sep : UInt8) (h : MOk (mF ms) (mP ms) ms.length) (k : Nat) : (joinS sep ((ms.take k).map markT)).length ≤ 220 := by
  obtain ⟨h5, hm⟩ := mok_mem h
  have := joinS_len sep 43 ((ms.take k).map markT) (fun x hx => by
    obtain ⟨m, hmm, rfl⟩ := List.mem_map.1 hx
    have := hm m (List.mem_of_mem_take hmm)
    exact markT_size (by omega) (by omega) (by omega) (by omega))
  rw [List.length_map, List.length_take] at this
  omega
theorem bsize (s : ByteArray) : s.data.toList.length = s.size := by simp
theorem bext {a : ByteArray} {l : List UInt8} (h : a.data.toList = l) : a = ⟨l.toArray⟩ := by
  apply ByteArray.ext; apply Array.ext'; simp [h]
/-- What the text of ops with kids is. -/
theorem textT_op {o n : Int} {s : ByteArray} {ks : List Tr} {ms : List (Int × Int)} (h1 : o ≠ 1) (h2 : o ≠ 2) : textT (.node o n s ks ms) = wordT o ++ 40 :: (joinS 44 (ks.map textB) ++ ((if ms.length = 0 then [] else 59 :: marksT 44 ms) ++ [41])) := by
  rw [textT, if_neg h1, if_neg h2, textsL_eq]
theorem op_in {o n : Int} {s : ByteArray} {k : Nat} {ms : List (Int × Int)} (h : PlainN o n s k ms) : 1 ≤ o ∧ o ≤ 10 := by
  have h1 := h.1
  unfold kidsN at h1
  repeat (split at h1; · omega)
  omega
def WordsP (w : World) (e : Ending) (w' : World) : Prop := ∃ g : Nat, w.heap.size ≤ g ∧ e = .returned (.slice (some ⟨g, 0, none⟩) 11 11) ∧ (∀ k : Nat, 3 ≤ k → k ≤ 10 → w'.cell? ⟨g, k, none⟩ = some (.string ⟨(wordT (k : Int)).toArray⟩)) ∧ Below w.heap.size w w'
set_option maxHeartbeats 4000000 in
theorem specWords (w : World) : Calls Tryz.prog 88 #[] w (WordsP w) := by
  go_enter Tryz.func88, Tryz.ntmps88
  go_wp2
  go_ret
  refine ⟨w.heap.size, Nat.le_refl _, rfl, ?_, (Below.refl _ _).alloc (Nat.le_refl _) _⟩
  intro k h3 h10
  have : k = 3 ∨ k = 4 ∨ k = 5 ∨ k = 6 ∨ k = 7 ∨ k = 8 ∨ k = 9 ∨ k = 10 := by omega
  rcases this with rfl | rfl | rfl | rfl | rfl | rfl | rfl | rfl <;> (rw [Lib.cell_of_heap (heap_alloc_new w _)]; rfl)
def TextAt (t : Tr) : Prop := ∀ (f : Fld) (w : World), TrF All w t f → OkP t → Calls Tryz.prog 64 #[f.val] w fun e w' => e = .returned (.string (textB t)) ∧ Below w.heap.size w w'
set_option maxRecDepth 20000 in
set_option maxHeartbeats 8000000 in
theorem textN (o n : Int) (s : ByteArray) (ks : List Tr) (ms : List (Int × Int)) (ih : ∀ t ∈ ks, TextAt t) : TextAt (.node o n s ks ms) := by
  intro f w h hok
  obtain ⟨e1, e2, e3, hm, hk, hc1, hc2⟩ := trF_iff.1 h
  obtain ⟨fo, fn, fs, ka, kl, kc, ma, ml, mc⟩ := f
  dsimp only at e1 e2 e3 hm hk hc1 hc2
  have q1 := e1.symm
  have q2 := e2.symm
  have q3 := e3.symm
  clear e1 e2 e3
  subst q1 q2 q3
  obtain rfl := hk.1
  obtain rfl := hm.1
  obtain ⟨hpl, hoks⟩ := okP_parts hok
  have hw29 : wL ks ≤ 29 := by have := okP_w hok; rw [wT] at this; omega
  have hin := op_in hpl
  have HK := Lib.hid hk
  have HM := Lib.hid hm
  have IH := Lib.hid ih
  have HPL := Lib.hid hpl
  have HOK := Lib.hid hoks
  clear h hk hm ih hc1 hc2 hpl hoks hok
  unfold Fld.val
  dsimp only
  have hA : Below w.heap.size w (w.alloc (.cells #[.int .i64 o, .int .i64 n, .string s, .slice ka ks.length kc, .slice ma ms.length mc] 37)) := (Below.refl _ _).alloc (Nat.le_refl _) _
  have hArg : (w.alloc (.cells #[.int .i64 o, .int .i64 n, .string s, .slice ka ks.length kc, .slice ma ms.length mc] 37)).heap[w.heap.size]? = some (.cells #[.int .i64 o, .int .i64 n, .string s, .slice ka ks.length kc, .slice ma ms.length mc] 37 (0, 0)) := heap_alloc_new w _
  have HA := Lib.hid hA
  have HArg := Lib.hid hArg
  clear hA hArg
  by_cases h1 : o = 1
  · subst h1
    have hn : -1000000000 ≤ n ∧ n ≤ 1000000000 := by have := HPL.out.2; unfold HoldsN at this; rw [if_pos rfl] at this; exact this.1
    have HT : Hid (textB (.node 1 n s ks ms) = intB n) := by show _ = _; rw [textB, textT, if_pos rfl]; rfl
    go_enter Tryz.func64, Tryz.ntmps64
    go_wp2_with fail
    refine (decZ n _ (by omega) (by omega)).mono ?_
    rintro e w1 ⟨rfl, d1⟩
    go_wp2
    go_ret
    exact ⟨retS HT.out.symm, HA.out.trans (d1.mono HA.out.size)⟩
  by_cases h2 : o = 2
  · subst h2
    have HT : Hid (textB (.node 2 n s ks ms) = s) := by show _ = _; rw [textB, textT, if_neg (by decide), if_pos rfl]
    go_enter Tryz.func64, Tryz.ntmps64
    go_wp2
    go_ret
    exact ⟨retS HT.out.symm, HA.out⟩
  have b1 : (o == 1) = false := by simpa using h1
  have b2 : (o == 2) = false := by simpa using h2
  have HT : Hid (textT (.node o n s ks ms) = wordT o ++ 40 :: (joinS 44 (ks.map textB) ++ ((if ms.length = 0 then [] else 59 :: marksT 44 ms) ++ [41]))) := textT_op h1 h2
  have h38 : 3 ≤ o ∧ o ≤ 10 := by omega
  have hwl := wordT_len o
  have HMO : Hid (ms.length ≠ 0 → MOk (mF ms) (mP ms) ms.length) := fun hne => by
    have h3 := HPL.out.2
    unfold HoldsN at h3
    rw [if_neg h1, if_neg h2] at h3
    split at h3
    · exact h3.2.2
    · exact absurd h3.2.2 hne
  have hkb : ks.length ≤ 29 := by have := len_wL ks; omega
  have hmb : ms.length ≤ 5 := by
    rcases Nat.eq_zero_or_pos ms.length with h0 | h0
    · omega
    · exact (mok_mem (HMO.out (by omega))).1
  clear h1 h2 hin
  have H38 := Lib.hid h38
  clear h38
  go_enter Tryz.func64, Tryz.ntmps64
  go_upto_region 6 with fail
  generalize hW0 : (w.alloc (.cells #[.int .i64 o, .int .i64 n, .string s, .slice ka ks.length kc, .slice ma ms.length mc] 37)) = W0 at *
  clear hW0
  have sz0 : w.heap.size < W0.heap.size := (Array.getElem?_eq_some_iff.1 HArg.out).1
  go_cut [3] from 17 to 22 (fun v wx => v = .string ⟨(wordT o ++ [40]).toArray⟩ ∧ Hid (Below W0.heap.size W0 wx))
  case first =>
    obtain ⟨k, hk⟩ : ∃ k : Nat, o = (k : Int) := ⟨o.toNat, by have := H38.out; omega⟩
    subst hk
    have hk3 : 3 ≤ k ∧ k ≤ 10 := by have := H38.out; omega
    have k11 : (k : Int) < 11 := by omega
    have k0 : (0 : Int) ≤ (k : Int) := by omega
    have hwl2 : ¬ 9223372036854775807 < (⟨(wordT (k : Int)).toArray⟩ : ByteArray).size + 1 := by
      have : (⟨(wordT (k : Int)).toArray⟩ : ByteArray).size = (wordT (k : Int)).length := by show (wordT (k : Int)).toArray.size = _; simp
      omega
    have c0 : W0.cell? ⟨w.heap.size, 0, none⟩ = some (Value.int .i64 (k : Int)) := by rw [Lib.cell_of_heap HArg.out]; rfl
    go_region_with (go_at_call 88; refine (specWords _).mono ?_; rintro e wp ⟨g, hg, rfl, hcs, hb⟩; have cw := hcs k hk3.1 hk3.2; have c0' := (hb.cell (p := ⟨w.heap.size, 0, none⟩) sz0).trans c0)
    all_goals
      go_wp2_with fail
      go_meet
      case rel => exact ⟨by rw [word_paren], by first | exact hb | exact bd hb⟩
  case rest =>
    obtain ⟨rfl, hb1⟩ := hcut
    have LW : (wordT o ++ [40]).length ≤ 6 := by simp; omega
    have LW2 : (⟨(wordT o ++ [40]).toArray⟩ : ByteArray).size = (wordT o ++ [40]).length := by show (wordT o ++ [40]).toArray.size = _; rw [List.size_toArray]
    have argx := Lib.hid ((hb1.out.block _ sz0).trans HArg.out)
    have HB1 := Lib.hid (HA.out.trans (hb1.out.mono HA.out.size))
    go_wp2_with fail
    go_loopw [3, 4] (fun vo vi wr => ∃ (k : Nat) (oo : ByteArray), k ≤ ks.length ∧ vo = .string oo ∧ vi = .int .i64 k ∧ oo.size ≤ 7010 ∧ Hid (oo.data.toList = wordT o ++ 40 :: joinS 44 ((ks.take k).map textB)) ∧ Below wc.heap.size wc wr) (fun _ vi _ => ks.length - (intOf vi).toNat)
    case atStart => exact ⟨0, _, Nat.zero_le _, rfl, rfl, by omega, by show _ = _; simp [joinS, Lib.join_nil], Below.refl _ _⟩
    case round =>
      obtain ⟨k, oo, hk, rfl, rfl, hoz, ho, hb⟩ := hrel
      have argr : wr.heap[w.heap.size]? = some (.cells #[.int .i64 o, .int .i64 n, .string s, .slice ka ks.length kc, .slice ma ms.length mc] 37 (0, 0)) := (hb.block _ (Array.getElem?_eq_some_iff.1 argx.out).1).trans argx.out
      have ca : wr.cell? ⟨w.heap.size, 3, none⟩ = some (Value.slice ka ks.length kc) := by rw [Lib.cell_of_heap argr]; rfl
      have hbw : Below w.heap.size w wr := HB1.out.trans (hb.mono HB1.out.size)
      rcases Nat.lt_or_ge k ks.length with hlt | hge
      · have k1 : (k : Int) < ks.length := by omega
        have k0 : (0 : Int) ≤ k := by omega
        obtain ⟨b, off, rfl, -, hbl, hrow⟩ := (HK.out.kept (same_of_below (N := All) hbw)).cells (by omega)
        obtain ⟨f, ⟨y0, y1, y2, y3, y4⟩, ht⟩ := hrow k hlt
        have hcall := Lib.hid (IH.out ks[k] (List.getElem_mem _) f wr ht (HOK.out _ (List.getElem_mem _)))
        have hJ := joinTake textB 44 ks k hlt
        have hl1 := kidsT_len HOK.out hw29 (k + 1)
        have hkz : (textB ks[k]).size ≤ 7200 := by
          have := textT_len _ ks[k] (Nat.le_refl _) (HOK.out _ (List.getElem_mem _))
          have := okP_w (HOK.out _ (List.getElem_mem (l := ks) (n := k) hlt))
          rw [textB_size]; omega
        generalize hX : textB ks[k] = X at *
        have HX := Lib.hid hX
        clear hrow hbl ht argr hX
        rcases Nat.eq_zero_or_pos k with hk0 | hkp
        · have g0 : decide ((0 : Int) < (k : Int)) = false := decide_eq_false (by omega)
          have g0n : decide (0 < k) = false := decide_eq_false (by omega)
          have m1 : ¬ 9223372036854775807 < oo.size + X.size := by omega
          rw [if_pos hk0] at hJ
          have HJ : Hid ((oo ++ X).data.toList = wordT o ++ 40 :: joinS 44 ((ks.take (k + 1)).map textB)) := by
            show _ = _
            have := ho.out
            rw [hk0, List.take_zero, List.map_nil] at this
            rw [hJ]
            simp [this, joinS, Lib.join_nil]
          have HZ : Hid ((oo ++ X).size ≤ 7010) := by
            refine Lib.hid ?_
            have h1 := congrArg List.length HJ.out
            rw [bsize] at h1
            simp only [List.length_append, List.length_cons] at h1
            omega
          clear hJ hl1 hk0
          go_wp2_with fail
          refine hcall.out.mono ?_
          rintro e w2 ⟨rfl, d2⟩
          clear y0 y1 y2 y3 y4 ca
          have hb2 := hb.trans (d2.mono hb.size)
          clear d2
          go_wp2
          go_roundw
          case rel => exact ⟨k + 1, oo ++ X, by omega, rfl, by go_num, HZ.out, HJ, hb2⟩
          case measure => simp [intOf]; omega
        · have g0 : decide ((0 : Int) < (k : Int)) = true := decide_eq_true (by omega)
          have g0n : decide (0 < k) = true := decide_eq_true hkp
          have e1 : (⟨#[44]⟩ : ByteArray).size = 1 := rfl
          have m0 : ¬ 9223372036854775807 < oo.size + 1 := by omega
          have m1 : ¬ 9223372036854775807 < oo.size + 1 + X.size := by omega
          rw [if_neg (by omega)] at hJ
          have HJ : Hid ((oo ++ ⟨#[44]⟩ ++ X).data.toList = wordT o ++ 40 :: joinS 44 ((ks.take (k + 1)).map textB)) := by
            show _ = _
            rw [hJ]
            simp [ho.out]
          have HZ : Hid ((oo ++ ⟨#[44]⟩ ++ X).size ≤ 7010) := by
            refine Lib.hid ?_
            have h1 := congrArg List.length HJ.out
            rw [bsize] at h1
            simp only [List.length_append, List.length_cons] at h1
            omega
          clear hJ hl1
          go_wp2_with fail
          refine hcall.out.mono ?_
          rintro e w2 ⟨rfl, d2⟩
          clear y0 y1 y2 y3 y4 ca
          have hb2 := hb.trans (d2.mono hb.size)
          clear d2
          go_wp2
          go_roundw
          case rel => exact ⟨k + 1, oo ++ ⟨#[44]⟩ ++ X, by omega, rfl, by go_num, HZ.out, HJ, hb2⟩
          case measure => simp [intOf]; omega
      · obtain rfl : k = ks.length := by omega
        rw [List.take_length] at ho
        have argr2 := Lib.hid argr
        have hbw2 := Lib.hid hbw
        have kidz := kidsT_len HOK.out hw29 ks.length
        rw [List.take_length] at kidz
        clear argr hbw argx HB1 hb
        generalize wr = wy at *
        have oz : oo.size ≤ 7006 := by
          have h1 := congrArg List.length ho.out
          rw [bsize] at h1
          simp only [List.length_append, List.length_cons, List.length_nil] at h1 LW
          omega
        clear hoz
        go_wp2_with fail
        go_loopw [3, 5] (fun vo vi wr => ∃ (k : Nat) (o2 : ByteArray), k ≤ ms.length ∧ vo = .string o2 ∧ vi = .int .i64 k ∧ o2.size ≤ 7300 ∧ Hid (o2.data.toList = wordT o ++ 40 :: (joinS 44 (ks.map textB) ++ (if k = 0 then [] else 59 :: joinS 44 ((ms.take k).map markT)))) ∧ Below wy.heap.size wy wr) (fun _ vi _ => ms.length - (intOf vi).toNat)
        case atStart => exact ⟨0, oo, Nat.zero_le _, rfl, rfl, by omega, by show _ = _; rw [ho.out]; simp, Below.refl _ _⟩
        case round =>
          obtain ⟨k, o2, hk, rfl, rfl, hoz, ho2, hb⟩ := hrel
          have argr : wr.heap[w.heap.size]? = some (.cells #[.int .i64 o, .int .i64 n, .string s, .slice ka ks.length kc, .slice ma ms.length mc] 37 (0, 0)) := (hb.block _ (Array.getElem?_eq_some_iff.1 argr2.out).1).trans argr2.out
          have ca : wr.cell? ⟨w.heap.size, 4, none⟩ = some (Value.slice ma ms.length mc) := by rw [Lib.cell_of_heap argr]; rfl
          have hbw : Below w.heap.size w wr := hbw2.out.trans (hb.mono hbw2.out.size)
          clear argr
          rcases Nat.lt_or_ge k ms.length with hlt | hge
          · have k1 : (k : Int) < ms.length := by omega
            have k0 : (0 : Int) ≤ k := by omega
            have hmo := HMO.out (by omega)
            obtain ⟨hm5, hmm⟩ := mok_mem hmo
            obtain ⟨⟨x0, x1⟩, ⟨x2, x3⟩⟩ := hmm ms[k] (List.getElem_mem _)
            obtain ⟨-, hmc⟩ := HM.out.kept (same_of_below (N := All) hbw)
            rcases hmc with hmc | ⟨b, off, rfl, -, hbl, hcell⟩
            · omega
            have hg : ms.getD k (0, 0) = ms[k] := by simp [hlt]
            obtain ⟨c1, c2⟩ := hcell k hlt
            rw [hg] at c1 c2
            have hJ := joinTake markT 44 ms k hlt
            have hl1 := marksTk_len 44 hmo (k + 1)
            have HMK : Hid (markT ms[k] = intB ms[k].1 ++ ⟨#[58]⟩ ++ intB ms[k].2) := rfl
            generalize ms[k].1 = x at *
            generalize ms[k].2 = y at *
            generalize markT ms[k] = MK at *
            have sx := intB_size (x := x) (by omega) (by omega)
            have sy := intB_size (x := y) (by omega) (by omega)
            have e1 : (⟨#[58]⟩ : ByteArray).size = 1 := rfl
            clear hcell hbl hmo hmm hg
            have cX : ∀ dd os, Calls Tryz.prog 103 #[.int .i64 x] (Go.Sort.grow (redrawn wr dd) os) fun e w'' => e = .returned (.string (intB x)) ∧ ∃ p : Regrown, w'' = Go.Sort.grow (redrawn wr p.d) p.os := fun dd os => Calls.regrown_of (decZ x _ (by omega) (by omega))
            have cY : ∀ dd os, Calls Tryz.prog 103 #[.int .i64 y] (Go.Sort.grow (redrawn wr dd) os) fun e w'' => e = .returned (.string (intB y)) ∧ ∃ p : Regrown, w'' = Go.Sort.grow (redrawn wr p.d) p.os := fun dd os => Calls.regrown_of (decZ y _ (by omega) (by omega))
            have r0 := cell_regrown ca
            have r1 := cell_regrown c1
            have r2 := cell_regrown c2
            have e44 : (⟨#[44]⟩ : ByteArray).size = 1 := rfl
            have e59 : (⟨#[59]⟩ : ByteArray).size = 1 := rfl
            generalize intB x = IX at *
            generalize intB y = IY at *
            have mm0 : ¬ 9223372036854775807 < o2.size + 1 := by omega
            have mm1 : ¬ 9223372036854775807 < o2.size + 1 + IX.size := by omega
            have mm2 : ¬ 9223372036854775807 < o2.size + 1 + IX.size + 1 := by omega
            have mm3 : ¬ 9223372036854775807 < o2.size + 1 + IX.size + 1 + IY.size := by omega
            rcases Nat.eq_zero_or_pos k with hk0 | hkp
            · have g0 : ((k : Int) == 0) = true := by simp; omega
              have g0n : (k == 0) = true := by simp; omega
              rw [if_pos hk0] at hJ
              have HJ : Hid ((o2 ++ ⟨#[59]⟩ ++ IX ++ ⟨#[58]⟩ ++ IY).data.toList = wordT o ++ 40 :: (joinS 44 (ks.map textB) ++ (if k + 1 = 0 then [] else 59 :: joinS 44 ((ms.take (k + 1)).map markT)))) := by
                show _ = _
                have := ho2.out
                rw [if_pos hk0] at this
                rw [if_neg (by omega), hJ, HMK.out]
                simp [this]
              have HZ : Hid ((o2 ++ ⟨#[59]⟩ ++ IX ++ ⟨#[58]⟩ ++ IY).size ≤ 7300) := by
                refine Lib.hid ?_
                have h1 := congrArg List.length HJ.out
                rw [bsize, if_neg (by omega)] at h1
                simp only [List.length_append, List.length_cons, List.length_nil] at h1 LW
                omega
              clear hJ hl1 hk0 c1 c2 HMK ho2
              go_wp2_with fail
              refine wp_region_quiet_below (by kernel_rfl) (by kernel_rfl) ?_
              repeat (quiet_step (first | (go_at_call_of 103 (Value.int IntKind.i64 x); exact cX _ _) | (go_at_call_of 103 (Value.int IntKind.i64 y); exact cY _ _)))
              refine wpQuiet_nil ?_
              intro _ hw'
              obtain ⟨⟨dq, osq⟩, hw''⟩ := hw'
              subst hw''
              go_wp2
              go_roundw
              case rel => exact ⟨k + 1, _, by omega, rfl, by go_num, HZ.out, HJ, hb.trans ((below_regrown wr dq osq).mono hb.size)⟩
              case measure => simp [intOf]; omega
            · have g0 : ((k : Int) == 0) = false := by simp; omega
              have g0n : (k == 0) = false := by simp; omega
              rw [if_neg (by omega)] at hJ
              have HJ : Hid ((o2 ++ ⟨#[44]⟩ ++ IX ++ ⟨#[58]⟩ ++ IY).data.toList = wordT o ++ 40 :: (joinS 44 (ks.map textB) ++ (if k + 1 = 0 then [] else 59 :: joinS 44 ((ms.take (k + 1)).map markT)))) := by
                show _ = _
                have := ho2.out
                rw [if_neg (by omega)] at this
                rw [if_neg (by omega), hJ, HMK.out]
                simp [this]
              have HZ : Hid ((o2 ++ ⟨#[44]⟩ ++ IX ++ ⟨#[58]⟩ ++ IY).size ≤ 7300) := by
                refine Lib.hid ?_
                have h1 := congrArg List.length HJ.out
                rw [bsize, if_neg (by omega)] at h1
                simp only [List.length_append, List.length_cons, List.length_nil] at h1 LW
                omega
              clear hJ hl1 c1 c2 HMK ho2
              go_wp2_with fail
              refine wp_region_quiet_below (by kernel_rfl) (by kernel_rfl) ?_
              repeat (quiet_step (first | (go_at_call_of 103 (Value.int IntKind.i64 x); exact cX _ _) | (go_at_call_of 103 (Value.int IntKind.i64 y); exact cY _ _)))
              refine wpQuiet_nil ?_
              intro _ hw'
              obtain ⟨⟨dq, osq⟩, hw''⟩ := hw'
              subst hw''
              go_wp2
              go_roundw
              case rel => exact ⟨k + 1, _, by omega, rfl, by go_num, HZ.out, HJ, hb.trans ((below_regrown wr dq osq).mono hb.size)⟩
              case measure => simp [intOf]; omega
          · obtain rfl : k = ms.length := by omega
            have m9 : ¬ 9223372036854775807 < o2.size + 1 := by omega
            have HFIN : Hid (textB (.node o n s ks ms) = o2 ++ ⟨#[41]⟩) := by
              show _ = _
              rw [textB]
              refine (bext ?_).symm
              rw [HT.out]
              have := ho2.out
              rw [List.take_length] at this
              unfold marksT
              simp [this]
            go_wp2
            go_ret
            exact ⟨retS HFIN.out.symm, hbw⟩
theorem textC : ∀ (k : Nat) (t : Tr), wT t ≤ k → TextAt t
  | 0, .node o n s ks ms, hw => by rw [wT] at hw; omega
  | k + 1, .node o n s ks ms, hw => by
    rw [wT] at hw
    exact textN o n s ks ms (fun t ht => textC k t (by have := wL_mem ht; omega))
end Go.Proofs.YtjhgmmcglonokaaGreatDoor
