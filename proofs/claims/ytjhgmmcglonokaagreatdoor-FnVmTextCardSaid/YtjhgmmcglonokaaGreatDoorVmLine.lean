/-
  A place's line and a program's text: the model's answer.
-/
import Derived.Test.YtjhgmmcglonokaaGreatDoorJ20
import Derived.Test.YtjhgmmcglonokaaGreatDoorRuleTextM
namespace Go.Proofs.YtjhgmmcglonokaaGreatDoor
open Go.RowKit
set_option linter.unusedVariables false
set_option linter.unusedSimpArgs false

def WordsVP (w : World) (e : Ending) (w' : World) : Prop := ∃ g : Nat, w.heap.size ≤ g ∧ e = .returned (.slice (some ⟨g, 0, none⟩) 12 12) ∧ (∀ k : Nat, 1 ≤ k → k ≤ 11 → w'.cell? ⟨g, k, none⟩ = some (.string ⟨(wordV (k : Int)).toArray⟩)) ∧ Below w.heap.size w w'
set_option maxHeartbeats 4000000 in
theorem specWordsV (w : World) : Calls Tryz.prog 67 #[] w (WordsVP w) := by
  go_enter Tryz.func67, Tryz.ntmps67
  go_wp2
  go_ret
  refine ⟨w.heap.size, Nat.le_refl _, rfl, ?_, (Below.refl _ _).alloc (Nat.le_refl _) _⟩
  intro k h3 h10
  have : k = 1 ∨ k = 2 ∨ k = 3 ∨ k = 4 ∨ k = 5 ∨ k = 6 ∨ k = 7 ∨ k = 8 ∨ k = 9 ∨ k = 10 ∨ k = 11 := by omega
  rcases this with rfl | rfl | rfl | rfl | rfl | rfl | rfl | rfl | rfl | rfl | rfl <;> (rw [Lib.cell_of_heap (heap_alloc_new w _)]; rfl)
theorem bszV (l : List UInt8) : (⟨l.toArray⟩ : ByteArray).size = l.length := by show l.toArray.size = _; simp
def LineP (d : Pl) (w : World) (e : Ending) (w' : World) : Prop := e = .returned (.string (lineB d)) ∧ Below w.heap.size w w'
/-- The argument of a place, without marks. -/
def preV (d : Pl) : List UInt8 := if d.op = 1 ∨ d.op = 9 ∨ d.op = 11 then 32 :: (intB d.num).data.toList else if d.op = 2 then 32 :: d.nm.data.toList else []
theorem lineV_pre {d : Pl} (h : SmV d) : lineV d = wordV d.op ++ (preV d ++ (aheadT d.ms ++ [10])) := by
  obtain ⟨h1, h2, h3, h4, h5⟩ := h
  unfold lineV argV preV
  split
  · have e : d.ms = [] := List.length_eq_zero_iff.1 (h5 (by omega))
    rw [e]; simp [aheadT]
  split
  · have e : d.ms = [] := List.length_eq_zero_iff.1 (h5 (by omega))
    rw [e]; simp [aheadT]
  split
  · have h10 := h4 ‹_›
    rw [aheadT_eq (by have := h10.1; omega)]; simp
  · have e : d.ms = [] := List.length_eq_zero_iff.1 (h5 ‹_›)
    rw [e]; simp [aheadT]
set_option maxRecDepth 100000 in
set_option maxHeartbeats 16000000 in
theorem specLine (d : Pl) (f : FI) (w : World) (h : PlF All w d f) (hs : SmV d) :
    Calls Tryz.prog 80 #[f.val] w (LineP d w) := by
  have HLV := Lib.hid (lineV_pre hs)
  have HLL := Lib.hid (lineV_len hs)
  obtain ⟨e1, e2, e3, hm, hc2⟩ := h
  obtain ⟨⟨o1, o11⟩, ⟨n0, n1⟩, s8, hm10, hmn⟩ := hs
  obtain ⟨o, n, s, ms⟩ := d
  obtain ⟨fo, fn, fs, ma, ml, mc⟩ := f
  dsimp only at e1 e2 e3 hm hc2 o1 o11 n0 n1 s8 hm10 hmn
  have q1 := e1.symm
  have q2 := e2.symm
  have q3 := e3.symm
  clear e1 e2 e3
  subst q1 q2 q3
  obtain rfl := hm.1
  have HM := Lib.hid hm
  have HM10 := Lib.hid hm10
  have HMN := Lib.hid hmn
  have HO : Hid (1 ≤ o ∧ o ≤ 11) := ⟨o1, o11⟩
  clear hm hm10 hmn hc2
  unfold FI.val LineP
  dsimp only
  have hA : Below w.heap.size w (w.alloc (.cells #[.int .i64 o, .int .i64 n, .string s, .slice ma ms.length mc] 48)) := (Below.refl _ _).alloc (Nat.le_refl _) _
  have hArg : (w.alloc (.cells #[.int .i64 o, .int .i64 n, .string s, .slice ma ms.length mc] 48)).heap[w.heap.size]? = some (.cells #[.int .i64 o, .int .i64 n, .string s, .slice ma ms.length mc] 48 (0, 0)) := heap_alloc_new w _
  have HA := Lib.hid hA
  have HArg := Lib.hid hArg
  clear hA hArg
  have hIn : Hid (∀ W, Calls Tryz.prog 50 #[.int .i64 o, .int .i64 1, .int .i64 11] W fun e w' => e = .returned (.bool true) ∧ W = w') := fun W => (specInZ o 1 11 W).mono fun e w' q => ⟨by rw [q.1, decide_eq_true HO.out.1, decide_eq_true HO.out.2]; rfl, q.2⟩
  go_enter Tryz.func80, Tryz.ntmps80
  go_upto_region 1 with fail
  generalize hW0 : (w.alloc (.cells #[.int .i64 o, .int .i64 n, .string s, .slice ma ms.length mc] 48)) = W0 at *
  clear hW0
  have sz0 : w.heap.size < W0.heap.size := (Array.getElem?_eq_some_iff.1 HArg.out).1
  go_cut [11] from 5 to 11 (fun v wx => v = .bool false ∧ Hid (Below W0.heap.size W0 wx))
  case first =>
    have c0 : W0.cell? ⟨w.heap.size, 0, none⟩ = some (Value.int .i64 o) := by rw [Lib.cell_of_heap HArg.out]; rfl
    go_region_with (first | (go_at_call 67; refine (specWordsV _).mono ?_; rintro e wp ⟨g, hg, rfl, hcs, hb⟩; have c0' := (hb.cell (p := ⟨w.heap.size, 0, none⟩) sz0).trans c0) | (go_at_call 50; refine (hIn.out _).mono ?_; rintro e w' ⟨rfl, rfl⟩))
    all_goals
      go_wp2_with fail
      go_meet
      case rel => exact ⟨rfl, by first | exact hb | exact bd hb⟩
  case rest =>
    obtain ⟨rfl, hb1⟩ := hcut
    have HArg1 := Lib.hid ((hb1.out.block _ sz0).trans HArg.out)
    have HB1 := Lib.hid (HA.out.trans (hb1.out.mono HA.out.size))
    have sz1 : w.heap.size < wc.heap.size := (Array.getElem?_eq_some_iff.1 HArg1.out).1
    clear hb1 HArg HA
    go_upto_region 3 with fail
    generalize wc = W1 at *
    go_cut [3] from 12 to 16 (fun v wx => v = .string ⟨(wordV o).toArray⟩ ∧ Hid (Below W1.heap.size W1 wx))
    case first =>
      obtain ⟨k, hk⟩ : ∃ k : Nat, o = (k : Int) := ⟨o.toNat, by have := HO.out; omega⟩
      have hk3 : 1 ≤ k ∧ k ≤ 11 := by have := HO.out; omega
      clear hIn HLV HLL HM10 HMN
      subst hk
      have k11 : (k : Int) < 12 := by omega
      have k0 : (0 : Int) ≤ (k : Int) := by omega
      have c0 : W1.cell? ⟨w.heap.size, 0, none⟩ = some (Value.int .i64 (k : Int)) := by rw [Lib.cell_of_heap HArg1.out]; rfl
      go_region_with (go_at_call 67; refine (specWordsV _).mono ?_; rintro e wp ⟨g, hg, rfl, hcs, hb⟩; have cw := hcs k hk3.1 hk3.2; have c0' := (hb.cell (p := ⟨w.heap.size, 0, none⟩) sz1).trans c0)
      all_goals
        go_wp2_with fail
        go_meet
        case rel => exact ⟨rfl, by first | exact hb | exact bd hb⟩
    case rest =>
      obtain ⟨rfl, hb2⟩ := hcut
      have HArg2 := Lib.hid ((hb2.out.block _ sz1).trans HArg1.out)
      have HB2 := Lib.hid (HB1.out.trans (hb2.out.mono HB1.out.size))
      clear hb2 HArg1 HB1 sz1 sz0
      generalize wc = W2 at *
      have LW : (⟨(wordV o).toArray⟩ : ByteArray).size ≤ 5 := by rw [bszV]; exact wordV_len o
      have HW : Hid ((⟨(wordV o).toArray⟩ : ByteArray).data.toList = wordV o) := rfl
      generalize (⟨(wordV o).toArray⟩ : ByteArray) = WB at *
      have sz2 : w.heap.size < W2.heap.size := (Array.getElem?_eq_some_iff.1 HArg2.out).1
      have c0 : W2.cell? ⟨w.heap.size, 0, none⟩ = some (Value.int .i64 o) := by rw [Lib.cell_of_heap HArg2.out]; rfl
      have s32 : (⟨#[32]⟩ : ByteArray).size = 1 := rfl
      have s58 : (⟨#[58]⟩ : ByteArray).size = 1 := rfl
      have s10 : (⟨#[10]⟩ : ByteArray).size = 1 := rfl

      by_cases h1 : o = 1
      · have HO1 := Lib.hid h1
        have b1 : (o == 1) = true := by simp; omega

        have c1 : W2.cell? ⟨w.heap.size, 1, none⟩ = some (Value.int .i64 n) := by rw [Lib.cell_of_heap HArg2.out]; rfl
        have hsz := intB_size (x := n) (by omega) (by omega)
        have HD : Hid (∀ W, Calls Tryz.prog 103 #[.int .i64 n] W (IntPost n W)) := fun W => decZ n W (by omega) (by omega)
        have HX : Hid (preV ⟨o, n, s, ms⟩ = 32 :: (intB n).data.toList) := by show _ = _; unfold preV; rw [if_pos (show o = 1 ∨ o = 9 ∨ o = 11 by omega)]
        have hms : ms.length = 0 := HMN.out (by omega)
        have HMS := Lib.hid hms
        have HEND : Hid (lineB ⟨o, n, s, ms⟩ = WB ++ ⟨#[32]⟩ ++ intB n ++ ⟨#[10]⟩) := by
          show _ = _
          refine (bext ?_).symm
          have e := List.length_eq_zero_iff.1 hms
          rw [HLV.out, HX.out]
          dsimp only
          rw [e]
          simp [aheadT, HW.out]
        have z0 : decide ((0 : Int) < (ms.length : Int)) = false := decide_eq_false (by omega)
        have z0n : decide (0 < ms.length) = false := decide_eq_false (by omega)
        clear hms HMS
        generalize ms.length = ML at *

        unfold IntPost at HD
        generalize intB n = NB at *
        have m1 : ¬ 9223372036854775807 < WB.size + 1 := by omega
        have m2 : ¬ 9223372036854775807 < WB.size + 1 + NB.size := by omega
        have m3 : ¬ 9223372036854775807 < WB.size + 1 + NB.size + 1 := by omega
        clear h1
        go_wp2_with fail
        refine (HD.out _).mono ?_
        rintro e W3 ⟨rfl, d3⟩
        have HBX := Lib.hid (HB2.out.trans (d3.mono HB2.out.size))
        have HA3 := Lib.hid ((d3.block _ sz2).trans HArg2.out)
        have c3 : W3.cell? ⟨w.heap.size, 3, none⟩ = some (Value.slice ma ML mc) := by rw [Lib.cell_of_heap HA3.out]; rfl
        clear d3 c0 c1
        go_wp2_with fail

        go_loopw [3, 4] (fun vo vi wr => vo = .string (WB ++ ⟨#[32]⟩ ++ NB) ∧ vi = .int .i64 0 ∧ wr = W3) (fun _ _ _ => 0)
        case atStart => exact ⟨rfl, rfl, rfl⟩
        case round =>
          obtain ⟨rfl, rfl, rfl⟩ := hrel
          go_wp2
          go_ret
          exact ⟨retS HEND.out.symm, HBX.out⟩
      by_cases h9 : o = 9
      · have HO9 := Lib.hid h9
        have b1 : (o == 1) = false := by simp; omega
        have b9 : (o == 9) = true := by simp; omega

        have c1 : W2.cell? ⟨w.heap.size, 1, none⟩ = some (Value.int .i64 n) := by rw [Lib.cell_of_heap HArg2.out]; rfl
        have hsz := intB_size (x := n) (by omega) (by omega)
        have HD : Hid (∀ W, Calls Tryz.prog 103 #[.int .i64 n] W (IntPost n W)) := fun W => decZ n W (by omega) (by omega)
        have HX : Hid (preV ⟨o, n, s, ms⟩ = 32 :: (intB n).data.toList) := by show _ = _; unfold preV; rw [if_pos (show o = 1 ∨ o = 9 ∨ o = 11 by omega)]
        have hms : ms.length = 0 := HMN.out (by omega)
        have HMS := Lib.hid hms
        have HEND : Hid (lineB ⟨o, n, s, ms⟩ = WB ++ ⟨#[32]⟩ ++ intB n ++ ⟨#[10]⟩) := by
          show _ = _
          refine (bext ?_).symm
          have e := List.length_eq_zero_iff.1 hms
          rw [HLV.out, HX.out]
          dsimp only
          rw [e]
          simp [aheadT, HW.out]
        have z0 : decide ((0 : Int) < (ms.length : Int)) = false := decide_eq_false (by omega)
        have z0n : decide (0 < ms.length) = false := decide_eq_false (by omega)
        clear hms HMS
        generalize ms.length = ML at *

        unfold IntPost at HD
        generalize intB n = NB at *
        have m1 : ¬ 9223372036854775807 < WB.size + 1 := by omega
        have m2 : ¬ 9223372036854775807 < WB.size + 1 + NB.size := by omega
        have m3 : ¬ 9223372036854775807 < WB.size + 1 + NB.size + 1 := by omega
        clear h9
        go_wp2_with fail
        refine (HD.out _).mono ?_
        rintro e W3 ⟨rfl, d3⟩
        have HBX := Lib.hid (HB2.out.trans (d3.mono HB2.out.size))
        have HA3 := Lib.hid ((d3.block _ sz2).trans HArg2.out)
        have c3 : W3.cell? ⟨w.heap.size, 3, none⟩ = some (Value.slice ma ML mc) := by rw [Lib.cell_of_heap HA3.out]; rfl
        clear d3 c0 c1
        go_wp2_with fail

        go_loopw [3, 4] (fun vo vi wr => vo = .string (WB ++ ⟨#[32]⟩ ++ NB) ∧ vi = .int .i64 0 ∧ wr = W3) (fun _ _ _ => 0)
        case atStart => exact ⟨rfl, rfl, rfl⟩
        case round =>
          obtain ⟨rfl, rfl, rfl⟩ := hrel
          go_wp2
          go_ret
          exact ⟨retS HEND.out.symm, HBX.out⟩
      by_cases h11 : o = 11
      · have HO11 := Lib.hid h11
        have b1 : (o == 1) = false := by simp; omega
        have b9 : (o == 9) = false := by simp; omega
        have b11 : (o == 11) = true := by simp; omega

        have c1 : W2.cell? ⟨w.heap.size, 1, none⟩ = some (Value.int .i64 n) := by rw [Lib.cell_of_heap HArg2.out]; rfl
        have hsz := intB_size (x := n) (by omega) (by omega)
        have HD : Hid (∀ W, Calls Tryz.prog 103 #[.int .i64 n] W (IntPost n W)) := fun W => decZ n W (by omega) (by omega)
        have HX : Hid (preV ⟨o, n, s, ms⟩ = 32 :: (intB n).data.toList) := by show _ = _; unfold preV; rw [if_pos (show o = 1 ∨ o = 9 ∨ o = 11 by omega)]
        have hms : ms.length = 0 := HMN.out (by omega)
        have HMS := Lib.hid hms
        have HEND : Hid (lineB ⟨o, n, s, ms⟩ = WB ++ ⟨#[32]⟩ ++ intB n ++ ⟨#[10]⟩) := by
          show _ = _
          refine (bext ?_).symm
          have e := List.length_eq_zero_iff.1 hms
          rw [HLV.out, HX.out]
          dsimp only
          rw [e]
          simp [aheadT, HW.out]
        have z0 : decide ((0 : Int) < (ms.length : Int)) = false := decide_eq_false (by omega)
        have z0n : decide (0 < ms.length) = false := decide_eq_false (by omega)
        clear hms HMS
        generalize ms.length = ML at *

        unfold IntPost at HD
        generalize intB n = NB at *
        have m1 : ¬ 9223372036854775807 < WB.size + 1 := by omega
        have m2 : ¬ 9223372036854775807 < WB.size + 1 + NB.size := by omega
        have m3 : ¬ 9223372036854775807 < WB.size + 1 + NB.size + 1 := by omega
        clear h11
        go_wp2_with fail
        refine (HD.out _).mono ?_
        rintro e W3 ⟨rfl, d3⟩
        have HBX := Lib.hid (HB2.out.trans (d3.mono HB2.out.size))
        have HA3 := Lib.hid ((d3.block _ sz2).trans HArg2.out)
        have c3 : W3.cell? ⟨w.heap.size, 3, none⟩ = some (Value.slice ma ML mc) := by rw [Lib.cell_of_heap HA3.out]; rfl
        clear d3 c0 c1
        go_wp2_with fail

        go_loopw [3, 4] (fun vo vi wr => vo = .string (WB ++ ⟨#[32]⟩ ++ NB) ∧ vi = .int .i64 0 ∧ wr = W3) (fun _ _ _ => 0)
        case atStart => exact ⟨rfl, rfl, rfl⟩
        case round =>
          obtain ⟨rfl, rfl, rfl⟩ := hrel
          go_wp2
          go_ret
          exact ⟨retS HEND.out.symm, HBX.out⟩
      have b1 : (o == 1) = false := by simpa using h1
      have b9 : (o == 9) = false := by simpa using h9
      have b11 : (o == 11) = false := by simpa using h11
      have c3 : W2.cell? ⟨w.heap.size, 3, none⟩ = some (Value.slice ma ms.length mc) := by rw [Lib.cell_of_heap HArg2.out]; rfl
      by_cases h2 : o = 2
      · have b2 : (o == 2) = true := by simpa using h2
        have c2 : W2.cell? ⟨w.heap.size, 2, none⟩ = some (Value.string s) := by rw [Lib.cell_of_heap HArg2.out]; rfl
        have HX : Hid (preV ⟨o, n, s, ms⟩ = 32 :: s.data.toList) := by show _ = _; unfold preV; rw [if_neg (show ¬ (o = 1 ∨ o = 9 ∨ o = 11) by omega), if_pos (show o = 2 from h2)]
        have hms : ms.length = 0 := HMN.out (by omega)
        have HMS := Lib.hid hms
        have HEND : Hid (lineB ⟨o, n, s, ms⟩ = WB ++ ⟨#[32]⟩ ++ s ++ ⟨#[10]⟩) := by
          show _ = _
          refine (bext ?_).symm
          have e := List.length_eq_zero_iff.1 hms
          rw [HLV.out, HX.out]
          dsimp only
          rw [e]
          simp [aheadT, HW.out]
        have z0 : decide ((0 : Int) < (ms.length : Int)) = false := decide_eq_false (by omega)
        have z0n : decide (0 < ms.length) = false := decide_eq_false (by omega)
        clear hms HMS
        generalize ms.length = ML at *

        have m1 : ¬ 9223372036854775807 < WB.size + 1 := by omega
        have m2 : ¬ 9223372036854775807 < WB.size + 1 + s.size := by omega
        have m3 : ¬ 9223372036854775807 < WB.size + 1 + s.size + 1 := by omega
        have HBX := HB2
        clear h1 h9 h11 h2
        go_wp2_with fail

        go_loopw [3, 4] (fun vo vi wr => vo = .string (WB ++ ⟨#[32]⟩ ++ s) ∧ vi = .int .i64 0 ∧ wr = W2) (fun _ _ _ => 0)
        case atStart => exact ⟨rfl, rfl, rfl⟩
        case round =>
          obtain ⟨rfl, rfl, rfl⟩ := hrel
          go_wp2
          go_ret
          exact ⟨retS HEND.out.symm, HBX.out⟩
      have b2 : (o == 2) = false := by simpa using h2
      have HX : Hid (preV ⟨o, n, s, ms⟩ = []) := by show _ = _; unfold preV; rw [if_neg (show ¬ (o = 1 ∨ o = 9 ∨ o = 11) by omega), if_neg (show ¬ o = 2 from h2)]
      have HMO : Hid (ms.length ≠ 0 → MOk (mF ms) (mP ms) ms.length) := fun hne => HM10.out (Classical.byContradiction fun x => hne (HMN.out x))

      have hmb : ms.length ≤ 5 := by
        rcases Nat.eq_zero_or_pos ms.length with h0 | h0
        · omega
        · exact (mok_mem (HMO.out (by omega))).1
      clear h1 h9 h11 h2
      go_wp2_with fail
      go_loopw [3, 4] (fun vo vi wr => ∃ (k : Nat) (o2 : ByteArray), k ≤ ms.length ∧ vo = .string o2 ∧ vi = .int .i64 k ∧ o2.size ≤ 5 + 44 * k ∧ Hid (o2.data.toList = wordV o ++ aheadT (ms.take k)) ∧ Below W2.heap.size W2 wr) (fun _ vi _ => ms.length - (intOf vi).toNat)
      case atStart => exact ⟨0, WB, Nat.zero_le _, rfl, rfl, by omega, by show _ = _; rw [HW.out]; simp [aheadT], Below.refl _ _⟩
      case round =>
        obtain ⟨k, o2, hk, rfl, rfl, hoz, ho2, hb⟩ := hrel
        have argr : wr.heap[w.heap.size]? = some (.cells #[.int .i64 o, .int .i64 n, .string s, .slice ma ms.length mc] 48 (0, 0)) := (hb.block _ sz2).trans HArg2.out
        have ca : wr.cell? ⟨w.heap.size, 3, none⟩ = some (Value.slice ma ms.length mc) := by rw [Lib.cell_of_heap argr]; rfl
        have hbw : Below w.heap.size w wr := HB2.out.trans (hb.mono HB2.out.size)
        clear argr c3 c0
        rcases Nat.lt_or_ge k ms.length with hlt | hge
        · have k1 : (k : Int) < ms.length := by omega
          have k0 : (0 : Int) ≤ k := by omega
          have hmo := HMO.out (by omega)
          obtain ⟨hm5, hmm⟩ := mok_mem hmo
          obtain ⟨⟨x0, x1⟩, ⟨x2, x3⟩⟩ := hmm ms[k] (List.getElem_mem _)
          obtain ⟨-, hmc⟩ := HM.out.kept (same_of_below (N := All) hbw)
          rcases hmc with hmc | ⟨b, off, rfl, -, hbl, hcell⟩
          · omega
          have hg : ms.getD k (0, 0) = ms[k] := by simp [hlt]
          obtain ⟨c1, c2⟩ := hcell k hlt
          rw [hg] at c1 c2
          have hJ := aheadT_snoc hlt
          have hl1 := aheadT_len hmo (k + 1) (by omega)
          have HMK : Hid (markT ms[k] = intB ms[k].1 ++ ⟨#[58]⟩ ++ intB ms[k].2) := rfl
          generalize ms[k].1 = x at *
          generalize ms[k].2 = y at *
          generalize markT ms[k] = MK at *
          have sx := intB_size (x := x) (by omega) (by omega)
          have sy := intB_size (x := y) (by omega) (by omega)
          clear hcell hbl hmo hmm hg
          have cX : ∀ dd os, Calls Tryz.prog 103 #[.int .i64 x] (Go.Sort.grow (redrawn wr dd) os) fun e w'' => e = .returned (.string (intB x)) ∧ ∃ p : Regrown, w'' = Go.Sort.grow (redrawn wr p.d) p.os := fun dd os => Calls.regrown_of (decZ x _ (by omega) (by omega))
          have cY : ∀ dd os, Calls Tryz.prog 103 #[.int .i64 y] (Go.Sort.grow (redrawn wr dd) os) fun e w'' => e = .returned (.string (intB y)) ∧ ∃ p : Regrown, w'' = Go.Sort.grow (redrawn wr p.d) p.os := fun dd os => Calls.regrown_of (decZ y _ (by omega) (by omega))
          have r0 := cell_regrown ca
          have r1 := cell_regrown c1
          have r2 := cell_regrown c2
          generalize intB x = IX at *
          generalize intB y = IY at *
          have mm0 : ¬ 9223372036854775807 < o2.size + 1 := by omega
          have mm1 : ¬ 9223372036854775807 < o2.size + 1 + IX.size := by omega
          have mm2 : ¬ 9223372036854775807 < o2.size + 1 + IX.size + 1 := by omega
          have mm3 : ¬ 9223372036854775807 < o2.size + 1 + IX.size + 1 + IY.size := by omega
          have HJ : Hid ((o2 ++ ⟨#[32]⟩ ++ IX ++ ⟨#[58]⟩ ++ IY).data.toList = wordV o ++ aheadT (ms.take (k + 1))) := by
            show _ = _
            rw [hJ, HMK.out]
            simp [ho2.out]
          have HZ : Hid ((o2 ++ ⟨#[32]⟩ ++ IX ++ ⟨#[58]⟩ ++ IY).size ≤ 5 + 44 * (k + 1)) := by
            refine Lib.hid ?_
            have h1 := congrArg List.length HJ.out
            rw [bsize] at h1
            have h2 := wordV_len o
            simp only [List.length_append] at h1
            omega
          clear hJ hl1 c1 c2 HMK ho2
          go_wp2_with fail
          refine wp_region_quiet_below (by kernel_rfl) (by kernel_rfl) ?_
          repeat (quiet_step (first | (go_at_call_of 103 (Value.int IntKind.i64 x); exact cX _ _) | (go_at_call_of 103 (Value.int IntKind.i64 y); exact cY _ _)))
          refine wpQuiet_nil ?_
          intro _ hw'
          obtain ⟨⟨dq, osq⟩, hw''⟩ := hw'
          subst hw''
          go_wp2
          go_roundw
          case rel => exact ⟨k + 1, _, by omega, rfl, by go_num, HZ.out, HJ, hb.trans ((below_regrown wr dq osq).mono hb.size)⟩
          case measure => simp [intOf]; omega
        · obtain rfl : k = ms.length := by omega
          have m9 : ¬ 9223372036854775807 < o2.size + 1 := by omega
          have HEND : Hid (lineB ⟨o, n, s, ms⟩ = o2 ++ ⟨#[10]⟩) := by
            show _ = _
            refine (bext ?_).symm
            rw [HLV.out, HX.out]
            have := ho2.out
            rw [List.take_length] at this
            simp [this]
          go_wp2
          go_ret
          exact ⟨retS HEND.out.symm, hbw⟩

def TextVP (ds : List Pl) (w : World) (e : Ending) (w' : World) : Prop := e = .returned (.string (textVB ds)) ∧ Below w.heap.size w w'
set_option maxHeartbeats 8000000 in
theorem specTextV (a0 : Option Addr) (n cap : Nat) (ds : List Pl) (w : World) (h : PlsN All w a0 n ds) (hsm : ∀ d ∈ ds, SmV d) (h80 : n ≤ 80) :
    Calls Tryz.prog 48 #[.slice a0 n cap] w (TextVP ds w) := by
  have H := Lib.hid h
  have HSM := Lib.hid hsm
  have HN : Hid (n = ds.length) := h.1
  clear h hsm
  unfold TextVP
  go_enter Tryz.func48, Tryz.ntmps48
  go_wp2_with fail
  go_loopw [3, 4] (fun vo vi wr => ∃ (k : Nat) (o2 : ByteArray), k ≤ n ∧ vo = .string o2 ∧ vi = .int .i64 k ∧ o2.size ≤ 240 * k ∧ Hid (o2.data.toList = textV (ds.take k)) ∧ Below w.heap.size w wr) (fun _ vi _ => n - (intOf vi).toNat)
  case atStart => exact ⟨0, ⟨#[]⟩, Nat.zero_le _, rfl, rfl, by show (#[] : Array UInt8).size ≤ _; simp, by show _ = _; simp [textV], Below.refl _ _⟩
  case round =>
    obtain ⟨k, o2, hk, rfl, rfl, hoz, ho2, hb⟩ := hrel
    rcases Nat.lt_or_ge k n with hlt | hge
    · have hkl : k < ds.length := by have := HN.out; omega
      have k1 : (k : Int) < n := by omega
      have k0 : (0 : Int) ≤ k := by omega
      obtain ⟨b, off, rfl, -, hbl, hrow⟩ := (H.out.kept (same_of_below (N := All) hb)).cells (by omega)
      obtain ⟨f, ⟨y0, y1, y2, y3⟩, ht⟩ := hrow k hkl
      have hcall := Lib.hid (specLine ds[k] f wr ht (HSM.out _ (List.getElem_mem _)))
      have hlz := lineV_len (HSM.out _ (List.getElem_mem hkl))
      have HS := Lib.hid (textV_snoc hkl)
      have hLB : (lineB ds[k]).size = (lineV ds[k]).length := bszV _
      have HLB : Hid ((lineB ds[k]).data.toList = lineV ds[k]) := by show _ = _; simp [lineB]
      unfold FI.val LineP at hcall
      generalize lineB ds[k] = LB at *
      have m1 : ¬ 9223372036854775807 < o2.size + LB.size := by omega
      have hz : LB.size ≤ 240 := by omega
      have HZ : Hid ((o2 ++ LB).size ≤ 240 * (k + 1)) := by refine Lib.hid ?_; rw [ByteArray.size_append]; omega
      have HJ : Hid ((o2 ++ LB).data.toList = textV (ds.take (k + 1))) := by show _ = _; rw [HS.out]; simp [ho2.out, HLB.out]
      clear hrow ht hbl hLB
      go_wp2_with fail
      refine hcall.out.mono ?_
      rintro e w2 ⟨rfl, d2⟩
      have hb2 : Below w.heap.size w w2 := hb.trans (d2.mono hb.size)
      clear y0 y1 y2 y3 d2
      go_wp2
      go_roundw
      case rel => exact ⟨k + 1, _, by omega, rfl, by go_num, HZ.out, HJ, hb2⟩
      case measure => simp [intOf]; omega
    · obtain rfl : k = n := by omega
      have HF : Hid (o2 = textVB ds) := by
        show _ = _
        refine bext ?_
        rw [ho2.out, List.take_of_length_le (by have := HN.out; omega)]
      go_wp2
      go_ret
      exact ⟨retS HF.out, hb⟩
end Go.Proofs.YtjhgmmcglonokaaGreatDoor
