/-
  The law FnExactRuleOf's own walk.
-/
import Derived.Test.YtembapomapcdfaaGreatDoorRuleOfW
import Derived.Test.YtembapomapcdfaaGreatDoorOpenRule
import Derived.Test.YtembapomapcdfaaGreatDoorRuleCopy
import Derived.Test.YtembapomapcdfaaGreatDoorRuleSz
namespace Go.Proofs.YtembapomapcdfaaGreatDoor
open Go.RowKit
set_option linter.unusedVariables false
set_option linter.unusedSimpArgs false

set_option maxRecDepth 20000 in
set_option maxHeartbeats 8000000 in
theorem exactRuleOf (t : Tr) (f : Fld) (a : Option Addr) (len cap : Nat) (ns : List (ByteArray × Int)) (fu : Int) (w : World) (w0 : RuleRow w t f) (wp : IsRowP w a len cap ns) (hL : Laid w) :
    Calls Tryz.prog 3 #[.agg (RuleA f), .slice a len cap, .int .i64 fu] w fun e w' => e = .returned (.bool true) ∧ Below w.heap.size w w' := by
  obtain ⟨h, hw⟩ := w0
  obtain ⟨pl1, pl2, hp, hpz⟩ := wp
  have hA : Below w.heap.size w (w.alloc (.cells #[.int .i64 f.op, .int .i64 f.num, .string f.name, .slice f.ka f.kl f.kc, .slice f.ma f.ml f.mc] 25)) := (Below.refl _ _).alloc (Nat.le_refl _) _
  have hArg : (w.alloc (.cells #[.int .i64 f.op, .int .i64 f.num, .string f.name, .slice f.ka f.kl f.kc, .slice f.ma f.ml f.mc] 25)).heap[w.heap.size]? = some (.cells #[.int .i64 f.op, .int .i64 f.num, .string f.name, .slice f.ka f.kl f.kc, .slice f.ma f.ml f.mc] 25 (0, 0)) := heap_alloc_new w _
  have hS := Lib.hid (szRule (h.kept (same_of_below hA)) hw (lf := 1048576) (by omega) (by omega))
  have H := Lib.hid h
  have HP := Lib.hid hp
  have HPZ := Lib.hid hpz
  have HPL : Hid (len ≤ maxLen) := Nat.le_trans pl1 pl2
  have HA := Lib.hid hA
  have HArg := Lib.hid hArg
  have HL := Lib.hid hL
  clear h hw hA hArg hL hp hpz pl1 pl2
  unfold RuleA
  go_enter Tryz.func3, Tryz.ntmps3
  go_wp2_with fail
  refine hS.out.mono ?_
  rintro e w1 ⟨r, r0, r1, rfl, hr, d1⟩
  have B1 := Lib.hid (HA.out.trans (d1.mono HA.out.size))
  have A1 := Lib.hid ((d1.block _ (by simp)).trans HArg.out)
  have AR : Hid (∀ W, Below w1.heap.size w1 W → W.cell? ⟨w.heap.size, 0, none⟩ = some (.int .i64 f.op) ∧ W.cell? ⟨w.heap.size, 1, none⟩ = some (.int .i64 f.num) ∧ W.cell? ⟨w.heap.size, 2, none⟩ = some (.string f.name) ∧ W.cell? ⟨w.heap.size, 3, none⟩ = some (.slice f.ka f.kl f.kc) ∧ W.cell? ⟨w.heap.size, 4, none⟩ = some (.slice f.ma f.ml f.mc)) := fun W hW => by
    have e := (hW.block _ (Array.getElem?_eq_some_iff.1 A1.out).1).trans A1.out
    refine ⟨?_, ?_, ?_, ?_, ?_⟩ <;> (rw [Lib.cell_of_heap e]; rfl)
  clear d1
  rcases Int.lt_or_le r 0 with c | c
  · have g0 : decide (r < 0) = true := decide_eq_true c
    go_wp2
    go_ret
    exact ⟨rfl, B1.out⟩
  have g0 : decide (r < 0) = false := decide_eq_false (by omega)
  have HS : Hid (szT t ≤ 1048576) := Lib.hid (by have := hr.out c; omega)
  clear hr
  have hSP := Lib.hid (szPairs a len cap ns r w1 (HP.out.kept (same_of_below B1.out)) HPZ.out HPL.out c r1)
  go_wp2_with fail
  refine hSP.out.mono ?_
  rintro e w1' ⟨r2, q0, q1, rfl, hr2, d1⟩
  have D0 : Hid (Below w1.heap.size w1 w1') := d1
  have B1' := Lib.hid (B1.out.trans (d1.mono B1.out.size))
  clear d1
  rcases Int.lt_or_le r2 0 with c2 | c2
  · have g1 : decide (r2 < 0) = true := decide_eq_true c2
    go_wp2
    go_ret
    exact ⟨rfl, B1'.out⟩
  have g1 : decide (r2 < 0) = false := decide_eq_false (by omega)
  have HN : Hid (len ≤ 1048576) := Lib.hid (by have := hr2.out c2; omega)
  have hn := HN.out
  clear hr2
  obtain ⟨y0, y1, y2, y3, y4⟩ := AR.out w1' D0.out
  go_wp2_with fail
  refine (toRule (H.out.kept (same_of_below B1'.out)) HS.out).mono ?_
  rintro e w2 ⟨f2, rfl, h2, d2⟩
  clear y0 y1 y2 y3 y4
  have D2 : Hid (Below w1.heap.size w1 w2) := D0.out.trans (d2.mono D0.out.size)
  have B2 := Lib.hid (B1'.out.trans (d2.mono B1'.out.size))
  have H2 := Lib.hid (h2.mono (N' := All) (fun _ _ => trivial))
  clear h2 d2
  unfold Fld.val
  go_wp2_with fail
  refine (copyPairs a len cap ns w2 (HP.out.kept (same_of_below B2.out)) HN.out).mono ?_
  rintro e w3 ⟨g3, -, rfl, p3, d3⟩
  have D3 : Hid (Below w1.heap.size w1 w3) := D2.out.trans (d3.mono D2.out.size)
  have B3 := Lib.hid (B2.out.trans (d3.mono B2.out.size))
  have hq := Lib.hid (specRuleOf t f2 ns (some ⟨g3, 0, none⟩) len len fu w3 (H2.out.kept (same_of_below d3)) HS.out (p3.mono (fun _ _ => trivial)) HN.out)
  clear p3 d3
  unfold Fld.val at hq
  go_wp2_with fail
  refine hq.out.mono ?_
  rintro e w4 ⟨rfl, d4⟩
  have D4 : Hid (Below w1.heap.size w1 w4) := D3.out.trans (d4.mono D3.out.size)
  have B4 := Lib.hid (B3.out.trans (d4.mono B3.out.size))
  clear d4 hq
  obtain ⟨y0, y1, y2, y3, y4⟩ := AR.out w4 D4.out
  go_wp2_with fail
  refine (toRule (H.out.kept (same_of_below B4.out)) HS.out).mono ?_
  rintro e w5 ⟨f4, rfl, h4, d5⟩
  clear y0 y1 y2 y3 y4
  have D5 : Hid (Below w1.heap.size w1 w5) := D4.out.trans (d5.mono D4.out.size)
  have B5 := Lib.hid (B4.out.trans (d5.mono B4.out.size))
  have T5 := Lib.hid (h4.mono (N' := All) (fun _ _ => trivial))
  clear h4 d5
  unfold Fld.val
  have hbx : Below w5.heap.size w5 (w5.alloc (.cells #[.int .i64 f4.op, .int .i64 f4.num, .string f4.name, .slice f4.ka f4.kl f4.kc, .slice f4.ma f4.ml f4.mc] 34)) := (Below.refl _ _).alloc (Nat.le_refl _) _
  have hX : (w5.alloc (.cells #[.int .i64 f4.op, .int .i64 f4.num, .string f4.name, .slice f4.ka f4.kl f4.kc, .slice f4.ma f4.ml f4.mc] 34)).heap[w5.heap.size]? = some (.cells #[.int .i64 f4.op, .int .i64 f4.num, .string f4.name, .slice f4.ka f4.kl f4.kc, .slice f4.ma f4.ml f4.mc] 34 (0, 0)) := heap_alloc_new w5 _
  have HBX := Lib.hid hbx
  have HX := Lib.hid hX
  clear hbx hX
  go_wp2_with fail
  generalize hWX : (w5.alloc (.cells #[.int .i64 f4.op, .int .i64 f4.num, .string f4.name, .slice f4.ka f4.kl f4.kc, .slice f4.ma f4.ml f4.mc] 34)) = WX at *
  clear hWX
  have BXX := Lib.hid (B5.out.trans (HBX.out.mono B5.out.size))
  refine (copyPairs a len cap ns WX (HP.out.kept (same_of_below BXX.out)) HN.out).mono ?_
  rintro e w6 ⟨g6, -, rfl, p6, d6⟩
  have E6 : Hid (Below w5.heap.size w5 w6) := HBX.out.trans (d6.mono HBX.out.size)
  have X6 := Lib.hid ((d6.block _ (Array.getElem?_eq_some_iff.1 HX.out).1).trans HX.out)
  have P6 := Lib.hid (p6.mono (N' := All) (fun _ _ => trivial))
  have hI := Lib.hid (implRuleOf t f4 ns (some ⟨g6, 0, none⟩) len len fu w6 (T5.out.kept (same_of_below E6.out)) HS.out P6.out HN.out (laid_stays HL.out (B5.out.trans (E6.out.mono B5.out.size))))
  clear p6 d6
  unfold Fld.val at hI
  have sX6 : w5.heap.size < w6.heap.size := (Array.getElem?_eq_some_iff.1 X6.out).1
  have x0 : w6.cell? ⟨w5.heap.size, 0, none⟩ = some (.int .i64 f4.op) := by rw [Lib.cell_of_heap X6.out]; rfl
  have x1 : w6.cell? ⟨w5.heap.size, 1, none⟩ = some (.int .i64 f4.num) := by rw [Lib.cell_of_heap X6.out]; rfl
  have x2 : w6.cell? ⟨w5.heap.size, 2, none⟩ = some (.string f4.name) := by rw [Lib.cell_of_heap X6.out]; rfl
  have x3 : w6.cell? ⟨w5.heap.size, 3, none⟩ = some (.slice f4.ka f4.kl f4.kc) := by rw [Lib.cell_of_heap X6.out]; rfl
  have xx4 : w6.cell? ⟨w5.heap.size, 4, none⟩ = some (.slice f4.ma f4.ml f4.mc) := by rw [Lib.cell_of_heap X6.out]; rfl
  go_wp2_with fail
  refine hI.out.mono ?_
  rintro e w7 ⟨rfl, d7⟩
  clear x0 x1 x2 x3 xx4 hI
  have E7 : Hid (Below w5.heap.size w5 w7) := E6.out.trans (d7.mono E6.out.size)
  have X7 := Lib.hid ((d7.block _ sX6).trans X6.out)
  have P7 := Lib.hid (P6.out.kept (same_of_below d7))
  clear d7 sX6
  generalize (ruleOfV t ns fu).1 = v at *
  generalize (ruleOfV t ns fu).2 = cd at *
  have hvv : (v != v) = false := by simp
  have hcc : (cd != cd) = false := by simp
  obtain ⟨y0, y1, y2, y3, y4⟩ := AR.out w7 (D5.out.trans (E7.out.mono D5.out.size))
  have x0 : w7.cell? ⟨w5.heap.size, 0, none⟩ = some (.int .i64 f4.op) := by rw [Lib.cell_of_heap X7.out]; rfl
  have x1 : w7.cell? ⟨w5.heap.size, 1, none⟩ = some (.int .i64 f4.num) := by rw [Lib.cell_of_heap X7.out]; rfl
  have x2 : w7.cell? ⟨w5.heap.size, 2, none⟩ = some (.string f4.name) := by rw [Lib.cell_of_heap X7.out]; rfl
  have x3 : w7.cell? ⟨w5.heap.size, 3, none⟩ = some (.slice f4.ka f4.kl f4.kc) := by rw [Lib.cell_of_heap X7.out]; rfl
  have xx4 : w7.cell? ⟨w5.heap.size, 4, none⟩ = some (.slice f4.ma f4.ml f4.mc) := by rw [Lib.cell_of_heap X7.out]; rfl
  have sX : w5.heap.size < w7.heap.size := (Array.getElem?_eq_some_iff.1 X7.out).1
  have B7 := Lib.hid (B5.out.trans (E7.out.mono B5.out.size))
  have HC : Hid (∀ W, Below w7.heap.size w7 W → TrF All W t f) := fun W hW => H.out.kept (same_of_below (B7.out.trans (hW.mono B7.out.size)))
  have HT : Hid (∀ W, Below w7.heap.size w7 W → TrF All W t f4) := fun W hW => T5.out.kept (same_of_below (E7.out.trans (hW.mono E7.out.size)))
  go_wp2_with fail
  go_region_with (first
    | (go_at_call 8; refine (toRule (HC.out _ (belowN (Below.refl _ w7) 1)) HS.out).mono ?_; rintro e w8 ⟨f6, rfl, h6, dd6⟩; unfold Fld.val; have d8 : Below w7.heap.size w7 w8 := (Below.refl _ w7).drew.trans dd6; have h7 := h6.mono (N' := All) (fun _ _ => trivial); have z0 := (d8.cell (p := ⟨w5.heap.size, 0, none⟩) sX).trans x0; have z1 := (d8.cell (p := ⟨w5.heap.size, 1, none⟩) sX).trans x1; have z2 := (d8.cell (p := ⟨w5.heap.size, 2, none⟩) sX).trans x2; have z3 := (d8.cell (p := ⟨w5.heap.size, 3, none⟩) sX).trans x3; have z4 := (d8.cell (p := ⟨w5.heap.size, 4, none⟩) sX).trans xx4)
    | (go_at_call 11; refine (eqRule (HT.out _ d8) h7 HS.out).mono ?_; rintro e w9 ⟨rfl, d9⟩))
  all_goals
    have hfin : Below w.heap.size w w9 := B7.out.trans ((d8.trans (d9.mono d8.size)).mono B7.out.size)
    have E9 : Below w7.heap.size w7 w9 := d8.trans (d9.mono d8.size)
    have P9 := Lib.hid (P7.out.kept (same_of_below E9))
    clear y0 y1 y2 y3 y4 x0 x1 x2 x3 xx4 HT HC h7 h6 dd6
    go_wp2_with fail
    refine (copyPairs a len cap ns w9 (HP.out.kept (same_of_below hfin)) HN.out).mono ?_
    rintro e wa ⟨ga, -, rfl, pa, da⟩
    have hq := Lib.hid (eqPairs (some ⟨g6, 0, none⟩) (some ⟨ga, 0, none⟩) len len len ns wa (P9.out.kept (same_of_below da)) (pa.mono (fun _ _ => trivial)) HN.out)
    have hfa : Below w.heap.size w wa := hfin.trans (da.mono hfin.size)
    go_wp2_with fail
    refine hq.out.mono ?_
    rintro e wb ⟨rfl, db⟩
    go_wp2
    go_ret
    exact ⟨rfl, hfa.trans (db.mono hfa.size)⟩
end Go.Proofs.YtembapomapcdfaaGreatDoor
