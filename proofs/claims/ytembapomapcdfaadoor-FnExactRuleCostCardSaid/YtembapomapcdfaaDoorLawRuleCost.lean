/-
  The law FnExactRuleCost's own walk.
-/
import Derived.Test.YtembapomapcdfaaDoorRuleCostI
import Derived.Test.YtembapomapcdfaaDoorOpenRule
import Derived.Test.YtembapomapcdfaaDoorRuleCopy
import Derived.Test.YtembapomapcdfaaDoorRuleSz
namespace Go.Proofs.YtembapomapcdfaaDoor
open Go.RowKit
set_option linter.unusedVariables false
set_option linter.unusedSimpArgs false

set_option maxHeartbeats 4000000 in
theorem exactRuleCost (t : Tr) (f : Fld) (w : World) (w0 : RuleRow w t f) (hL : Laid w) :
    Calls Tryd.prog 5 #[.agg (RuleA f)] w fun e w' => e = .returned (.bool true) ∧ Below w.heap.size w w' := by
  obtain ⟨h, hw⟩ := w0
  have hA : Below w.heap.size w (w.alloc (.cells #[.int .i64 f.op, .int .i64 f.num, .string f.name, .slice f.ka f.kl f.kc, .slice f.ma f.ml f.mc] 25)) := (Below.refl _ _).alloc (Nat.le_refl _) _
  have hArg : (w.alloc (.cells #[.int .i64 f.op, .int .i64 f.num, .string f.name, .slice f.ka f.kl f.kc, .slice f.ma f.ml f.mc] 25)).heap[w.heap.size]? = some (.cells #[.int .i64 f.op, .int .i64 f.num, .string f.name, .slice f.ka f.kl f.kc, .slice f.ma f.ml f.mc] 25 (0, 0)) := heap_alloc_new w _
  have hS := Lib.hid (szRule (h.kept (same_of_below hA)) hw (lf := 1048576) (by omega) (by omega))
  have H := Lib.hid h
  have HA := Lib.hid hA
  have HArg := Lib.hid hArg
  have HL := Lib.hid hL
  clear h hw hA hArg hL
  unfold RuleA
  go_enter Tryd.func5, Tryd.ntmps5
  go_wp2_with fail
  refine hS.out.mono ?_
  rintro e w1 ⟨r, r0, r1, rfl, hr, d1⟩
  have B1 := Lib.hid (HA.out.trans (d1.mono HA.out.size))
  have A1 := Lib.hid ((d1.block _ (by simp)).trans HArg.out)
  have AR : Hid (∀ W, Below w1.heap.size w1 W → W.cell? ⟨w.heap.size, 0, none⟩ = some (.int .i64 f.op) ∧ W.cell? ⟨w.heap.size, 1, none⟩ = some (.int .i64 f.num) ∧ W.cell? ⟨w.heap.size, 2, none⟩ = some (.string f.name) ∧ W.cell? ⟨w.heap.size, 3, none⟩ = some (.slice f.ka f.kl f.kc) ∧ W.cell? ⟨w.heap.size, 4, none⟩ = some (.slice f.ma f.ml f.mc)) := fun W hW => by
    have e := (hW.block _ (Array.getElem?_eq_some_iff.1 A1.out).1).trans A1.out
    refine ⟨?_, ?_, ?_, ?_, ?_⟩ <;> (rw [Lib.cell_of_heap e]; rfl)
  clear d1
  rcases Int.lt_or_le r 0 with c | c
  · have g0 : decide (r < 0) = true := decide_eq_true c
    go_wp2
    go_ret
    exact ⟨rfl, B1.out⟩
  have g0 : decide (r < 0) = false := decide_eq_false (by omega)
  have HS : Hid (szT t ≤ 1048576) := Lib.hid (by have := hr.out c; omega)
  clear hr
  obtain ⟨y0, y1, y2, y3, y4⟩ := AR.out w1 (Below.refl _ _)
  go_wp2_with fail
  refine (toRule (H.out.kept (same_of_below B1.out)) HS.out).mono ?_
  rintro e w2 ⟨f2, rfl, h2, d2⟩
  clear y0 y1 y2 y3 y4
  have D2 : Hid (Below w1.heap.size w1 w2) := d2
  have B2 := Lib.hid (B1.out.trans (d2.mono B1.out.size))
  have hq2 := Lib.hid (specRuleCost (h2.mono (N' := All) (fun _ _ => trivial)) HS.out)
  clear h2 d2
  unfold Fld.val at hq2 ⊢
  go_wp2_with fail
  refine hq2.out.mono ?_
  rintro e w3 ⟨rfl, d3⟩
  have D3 : Hid (Below w1.heap.size w1 w3) := D2.out.trans (d3.mono D2.out.size)
  have B3 := Lib.hid (B2.out.trans (d3.mono B2.out.size))
  clear d3
  obtain ⟨y0, y1, y2, y3, y4⟩ := AR.out w3 D3.out
  go_wp2_with fail
  refine (toRule (H.out.kept (same_of_below B3.out)) HS.out).mono ?_
  rintro e w4 ⟨f4, rfl, h4, d4⟩
  clear y0 y1 y2 y3 y4
  have D4 : Hid (Below w1.heap.size w1 w4) := D3.out.trans (d4.mono D3.out.size)
  have B4 := Lib.hid (B3.out.trans (d4.mono B3.out.size))
  have T4 := Lib.hid (h4.mono (N' := All) (fun _ _ => trivial))
  clear h4 d4
  unfold Fld.val
  have BX : Hid (∀ W, Below w4.heap.size w4 W → Below w.heap.size w W) := fun W hW => B4.out.trans (hW.mono B4.out.size)
  have DX : Hid (∀ W, Below w4.heap.size w4 W → Below w1.heap.size w1 W) := fun W hW => D4.out.trans (hW.mono D4.out.size)
  have x4 : Hid (∀ W, Below w4.heap.size w4 W → TrF All W t f4) := fun W hW => T4.out.kept (same_of_below hW)
  have hbx : Below w4.heap.size w4 (w4.alloc (.cells #[.int .i64 f4.op, .int .i64 f4.num, .string f4.name, .slice f4.ka f4.kl f4.kc, .slice f4.ma f4.ml f4.mc] 31)) := (Below.refl _ _).alloc (Nat.le_refl _) _
  have hX : (w4.alloc (.cells #[.int .i64 f4.op, .int .i64 f4.num, .string f4.name, .slice f4.ka f4.kl f4.kc, .slice f4.ma f4.ml f4.mc] 31)).heap[w4.heap.size]? = some (.cells #[.int .i64 f4.op, .int .i64 f4.num, .string f4.name, .slice f4.ka f4.kl f4.kc, .slice f4.ma f4.ml f4.mc] 31 (0, 0)) := heap_alloc_new w4 _
  have hI := Lib.hid (implRuleCost (x4.out _ hbx) HS.out (laid_stays HL.out (BX.out _ hbx)))
  have HBX := Lib.hid hbx
  have HX := Lib.hid hX
  clear hbx hX
  unfold Fld.val at hI
  go_wp2_with fail
  generalize hWX : (w4.alloc (.cells #[.int .i64 f4.op, .int .i64 f4.num, .string f4.name, .slice f4.ka f4.kl f4.kc, .slice f4.ma f4.ml f4.mc] 31)) = WX at *
  clear hWX
  refine hI.out.mono ?_
  rintro e w5 ⟨rfl, d5⟩
  have D5 := Lib.hid (HBX.out.trans (d5.mono HBX.out.size))
  have X5 := Lib.hid ((d5.block _ (Array.getElem?_eq_some_iff.1 HX.out).1).trans HX.out)
  clear d5
  obtain ⟨y0, y1, y2, y3, y4⟩ := AR.out w5 (DX.out _ D5.out)
  have x0 : w5.cell? ⟨w4.heap.size, 0, none⟩ = some (.int .i64 f4.op) := by rw [Lib.cell_of_heap X5.out]; rfl
  have x1 : w5.cell? ⟨w4.heap.size, 1, none⟩ = some (.int .i64 f4.num) := by rw [Lib.cell_of_heap X5.out]; rfl
  have x2 : w5.cell? ⟨w4.heap.size, 2, none⟩ = some (.string f4.name) := by rw [Lib.cell_of_heap X5.out]; rfl
  have x3 : w5.cell? ⟨w4.heap.size, 3, none⟩ = some (.slice f4.ka f4.kl f4.kc) := by rw [Lib.cell_of_heap X5.out]; rfl
  have xx4 : w5.cell? ⟨w4.heap.size, 4, none⟩ = some (.slice f4.ma f4.ml f4.mc) := by rw [Lib.cell_of_heap X5.out]; rfl
  have sX : w4.heap.size < w5.heap.size := (Array.getElem?_eq_some_iff.1 X5.out).1
  have HC : Hid (∀ W, Below w5.heap.size w5 W → TrF All W t f) := fun W hW => H.out.kept (same_of_below (BX.out _ (D5.out.trans (hW.mono D5.out.size))))
  generalize costR t = bv at *
  have hbb : (bv != bv) = false := by simp
  go_wp2_with fail
  go_region_with (first
    | (go_at_call 12; refine (toRule (HC.out _ (belowN (Below.refl _ w5) 1)) HS.out).mono ?_; rintro e w6 ⟨f6, rfl, h6, dd6⟩; unfold Fld.val; have d6 : Below w5.heap.size w5 w6 := (Below.refl _ w5).drew.trans dd6; have h7 := h6.mono (N' := All) (fun _ _ => trivial); have z0 := (d6.cell (p := ⟨w4.heap.size, 0, none⟩) sX).trans x0; have z1 := (d6.cell (p := ⟨w4.heap.size, 1, none⟩) sX).trans x1; have z2 := (d6.cell (p := ⟨w4.heap.size, 2, none⟩) sX).trans x2; have z3 := (d6.cell (p := ⟨w4.heap.size, 3, none⟩) sX).trans x3; have z4 := (d6.cell (p := ⟨w4.heap.size, 4, none⟩) sX).trans xx4)
    | (go_at_call 14; refine (eqRule (x4.out _ (D5.out.trans (d6.mono D5.out.size))) h7 HS.out).mono ?_; rintro e w7 ⟨rfl, d7⟩))
  all_goals
    have hfin : Below w.heap.size w w7 := BX.out _ ((D5.out.trans (d6.mono D5.out.size)).trans (d7.mono (D5.out.trans (d6.mono D5.out.size)).size))
    clear y0 y1 y2 y3 y4 x0 x1 x2 x3 xx4
    go_wp2
    go_ret
    exact ⟨rfl, hfin⟩
end Go.Proofs.YtembapomapcdfaaDoor
