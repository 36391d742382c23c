/-
  The laws FnRuleFuel's and FnRuleSwap's own walks.
-/
import Derived.Test.YtemjooejfmkkbaaGreatDoorJ44
import Derived.Test.YtemjooejfmkkbaaGreatDoorRuleCostI
import Derived.Test.YtemjooejfmkkbaaGreatDoorFuelMath
import Derived.Lib.QuietBelow
namespace Go.Proofs.YtemjooejfmkkbaaGreatDoor
open Go.RowKit
set_option linter.unusedVariables false
set_option linter.unusedSimpArgs false

set_option maxRecDepth 20000 in
set_option maxHeartbeats 16000000 in
theorem lawRuleFuel (a0 : Option Addr) (len0 cap0 : Nat) (z0 : List Int) (w : World) (w0 : IsRow .u8 w a0 len0 cap0 z0) (hL : Laid w) :
    Calls Tryz.prog 7 #[.slice a0 len0 cap0] w fun e w' => e = .returned (.bool true) ∧ Below w.heap.size w w' := by
  rcases Nat.lt_or_ge 1048576 len0 with hb0 | hb0
  · clear w0
    go_enter Tryz.func7, Tryz.ntmps7
    go_wp2
    go_ret
    exact ⟨rfl, Below.refl _ _⟩
  have hd := drawRuleOf a0 len0 cap0 z0 w w0
  unfold DrawnRO Fld.val at hd
  have HD := Lib.hid hd
  have HL := Lib.hid hL
  clear w0 hd hL
  go_enter Tryz.func7, Tryz.ntmps7
  go_wp2_with fail
  refine HD.out.mono ?_
  rintro e w1 ⟨t, f, ns, na, nl, nc, fu, rfl, ht, hsz, hp, hn6, hfu, d1⟩
  have hXb := heap_alloc_new w1 (.cells #[.int .i64 0, .int .i64 0, .string ⟨#[]⟩, .slice none 0 0, .slice none 0 0] 38)
  obtain ⟨W2, hW2, hX2, hB2⟩ := box_rule (w1 := w1) f
  obtain ⟨y0, y1, y2, y3, y4⟩ := box_cells (w1 := w1) hX2 (Below.refl _ _)
  have hT2 := ht.kept (same_of_below (N := All) hB2)
  have hP2 := hp.kept (same_of_below (N := All) hB2)
  have hBw := d1.trans (hB2.mono d1.size)
  have HT2 := Lib.hid hT2
  have HP2 := Lib.hid hP2
  have HX2 := Lib.hid hX2
  have HBW := Lib.hid hBw
  have HSZ : Hid (szT t ≤ 1048576) := Lib.hid (by omega)
  have HFU := Lib.hid hfu
  clear HD ht hp d1 hT2 hP2 hX2 hBw hB2 hsz hfu
  rw [hW2] at y0 y1 y2 y3 y4
  have HW2 := Lib.hid hW2
  clear hW2
  go_wp2_with (first
    | (refine wpList_store_row rfl 38 _ _ rfl w1.heap.size #[.int .i64 f.op, .int .i64 f.num, .string f.name, .slice f.ka f.kl f.kc, .slice f.ma f.ml f.mc] rfl rfl 38 #[.int .i64 0, .int .i64 0, .string ⟨#[]⟩, .slice none 0 0, .slice none 0 0] hXb ruleSize rfl (by simp [Value.oneCell']) ?_)
    | fail)
  clear hXb y0 y1 y2 y3 y4
  rw [← HW2.out]
  clear HW2
  have L2 := laid_stays HL.out HBW.out
  have hI := implRuleOf t f ns na nl nc fu W2 HT2.out HSZ.out HP2.out (by omega) L2
  unfold Fld.val at hI
  have HI := Lib.hid hI
  clear hI
  refine HI.out.mono ?_
  rintro e w3 ⟨rfl, d3⟩
  generalize hX : w1.heap.size = X at *
  have HXe := Lib.hid hX
  clear hX
  obtain ⟨y0, y1, y2, y3, y4⟩ := box_cells (w1 := w1) HX2.out d3
  have D3 := Lib.hid d3
  have hS := specRuleOf t f ns na nl nc fu w3 (HT2.out.kept (same_of_below D3.out)) HSZ.out (HP2.out.kept (same_of_below D3.out)) (by omega)
  unfold Fld.val at hS
  have HS := Lib.hid hS
  clear d3 hS HI
  obtain ⟨n, k, hnk⟩ : ∃ n k, ruleOfV t ns fu = (n, k) := ⟨_, _, rfl⟩
  rw [hnk] at HS ⊢
  have HNK := Lib.hid hnk
  clear hnk
  dsimp only at HS ⊢
  go_wp2_with fail
  refine HS.out.mono ?_
  rintro e w4 ⟨rfl, d4⟩
  clear HS y0 y1 y2 y3 y4
  have D4 : Hid (Below W2.heap.size W2 w4) := D3.out.trans (d4.mono D3.out.size)
  clear d4 D3
  obtain ⟨y0, y1, y2, y3, y4⟩ := box_cells (w1 := w1) HX2.out D4.out
  have L4 := laid_stays (laid_stays HL.out HBW.out) D4.out
  have HL4 := Lib.hid L4
  have T4 := HT2.out.kept (same_of_below D4.out)
  have HT4 := Lib.hid T4
  clear L4 T4
  obtain ⟨ok, hok⟩ : ∃ ok, ok = decide (okR t) := ⟨_, rfl⟩
  have hcost : 0 ≤ costR t ∧ costR t ≤ 1000 := by
    unfold costR
    split
    · rename_i h
      have h1 := cost_bd _ t (Nat.le_refl _) (okR_P h.1)
      have h2 := okP_w (okR_P h.1)
      omega
    · omega
  have hfl : okR t → 0 ≤ fu → fu ≤ 1000 → (ruleOfV t ns (costR t)).2 ≠ 1 ∧ (k = 1 ∨ (n = (ruleOfV t ns (costR t)).1 ∧ k = (ruleOfV t ns (costR t)).2)) := fun h1 h2 h3 => by
    have e := fuel_law ns (okR_P h1.1) fu
    have hv := HNK.out
    have hc : costR t = costT t := by unfold costR; rw [if_pos h1]
    have h4 : ruleOfV t ns (costR t) = ((evalT ns t (costT t)).v, (evalT ns t (costT t)).c) := by
      rw [hc] at hcost ⊢
      unfold ruleOfV
      rw [if_pos ⟨h1, hcost.1, hcost.2⟩]
    unfold ruleOfV at hv
    rw [if_pos ⟨h1, h2, h3⟩] at hv
    simp only [Prod.mk.injEq] at hv
    rw [h4]
    obtain ⟨v1, v2⟩ := hv
    rw [v1, v2] at e
    exact ⟨e.1, e.2⟩
  obtain ⟨m, c, hmc⟩ : ∃ m c, ruleOfV t ns (costR t) = (m, c) := ⟨_, _, rfl⟩
  rw [hmc] at hfl
  dsimp only at hfl
  have HP4 := Lib.hid (HP2.out.kept (same_of_below D4.out))
  obtain ⟨cost, hce⟩ : ∃ cost, cost = costR t := ⟨_, rfl⟩
  rw [← hce] at hcost hmc
  have HMC := Lib.hid hmc
  have HCE := Lib.hid hce
  have HFL := Lib.hid hfl
  have HOKE := Lib.hid hok
  clear hmc hce hfl hok
  have cA : ∀ dd os, Calls Tryz.prog 37 #[.agg #[.int .i64 f.op, .int .i64 f.num, .string f.name, .slice f.ka f.kl f.kc, .slice f.ma f.ml f.mc]] (Go.Sort.grow (redrawn w4 dd) os) fun e w'' => e = .returned (.bool ok) ∧ ∃ p : Regrown, w'' = Go.Sort.grow (redrawn w4 p.d) p.os := fun dd os => Calls.regrown_of (by
      have hq := implRuleOk (HT4.out.kept (same_of_below (below_regrown w4 dd os))) HSZ.out (laid_stays HL4.out (below_regrown w4 dd os))
      rw [← HOKE.out] at hq
      unfold Fld.val at hq
      exact hq)
  have cB : ∀ dd os, Calls Tryz.prog 38 #[.agg #[.int .i64 f.op, .int .i64 f.num, .string f.name, .slice f.ka f.kl f.kc, .slice f.ma f.ml f.mc]] (Go.Sort.grow (redrawn w4 dd) os) fun e w'' => e = .returned (.bool ok) ∧ ∃ p : Regrown, w'' = Go.Sort.grow (redrawn w4 p.d) p.os := fun dd os => Calls.regrown_of (by
      have hq := specRuleOk (HT4.out.kept (same_of_below (below_regrown w4 dd os))) HSZ.out
      rw [← HOKE.out] at hq
      unfold Fld.val at hq
      exact hq)
  have cC : ∀ dd os, Calls Tryz.prog 42 #[.agg #[.int .i64 f.op, .int .i64 f.num, .string f.name, .slice f.ka f.kl f.kc, .slice f.ma f.ml f.mc]] (Go.Sort.grow (redrawn w4 dd) os) fun e w'' => e = .returned (.int .i64 cost) ∧ ∃ p : Regrown, w'' = Go.Sort.grow (redrawn w4 p.d) p.os := fun dd os => Calls.regrown_of (by
      have hq := implRuleCost (HT4.out.kept (same_of_below (below_regrown w4 dd os))) HSZ.out (laid_stays HL4.out (below_regrown w4 dd os))
      rw [← HCE.out] at hq
      unfold Fld.val at hq
      exact hq)
  have cD : ∀ dd os, Calls Tryz.prog 43 #[.agg #[.int .i64 f.op, .int .i64 f.num, .string f.name, .slice f.ka f.kl f.kc, .slice f.ma f.ml f.mc]] (Go.Sort.grow (redrawn w4 dd) os) fun e w'' => e = .returned (.int .i64 cost) ∧ ∃ p : Regrown, w'' = Go.Sort.grow (redrawn w4 p.d) p.os := fun dd os => Calls.regrown_of (by
      have hq := specRuleCost (HT4.out.kept (same_of_below (below_regrown w4 dd os))) HSZ.out
      rw [← HCE.out] at hq
      unfold Fld.val at hq
      exact hq)
  have r0 := cell_regrown y0
  have r1 := cell_regrown y1
  have r2 := cell_regrown y2
  have r3 := cell_regrown y3
  have r4 := cell_regrown y4
  go_wp2_with fail
  refine wp_region_quiet_below (by kernel_rfl) (by kernel_rfl) ?_
  repeat (quiet_step (first | exact cA _ _ | exact cB _ _ | exact cC _ _ | exact cD _ _))
  refine wpQuiet_nil ?_
  intro _ hw'
  obtain ⟨⟨dq, osq⟩, hw''⟩ := hw'
  subst hw''
  clear cA cB cC cD r0 r1 r2 r3 r4 y0 y1 y2 y3 y4
  have D5 : Hid (Below w4.heap.size w4 (Go.Sort.grow (redrawn w4 dq) osq)) := below_regrown w4 dq osq
  generalize Go.Sort.grow (redrawn w4 dq) osq = w5 at *
  have D5' : Hid (Below W2.heap.size W2 w5) := D4.out.trans (D5.out.mono D4.out.size)
  have T5 := HT4.out.kept (same_of_below D5.out)
  have L5 := laid_stays HL4.out D5.out
  obtain ⟨y0, y1, y2, y3, y4⟩ := box_cells (w1 := w1) HX2.out D5'.out
  have HT5 := Lib.hid T5
  have HL5 := Lib.hid L5
  have hB5 : Hid (Below w.heap.size w w5) := HBW.out.trans (D5'.out.mono HBW.out.size)
  clear T5 L5
  have hq := specRuleOk HT5.out HSZ.out
  rw [← HOKE.out] at hq
  unfold Fld.val at hq
  have HQ := Lib.hid hq
  clear hq
  cases ok with
  | false =>
    have HN4 : n = 0 ∧ k = 4 := by
      have h1 := HNK.out
      have h2 : ¬ okR t := by have := HOKE.out; simpa using this.symm
      unfold ruleOfV at h1
      rw [if_neg (fun h => h2 h.1)] at h1
      simp only [Prod.mk.injEq] at h1
      exact ⟨h1.1.symm, h1.2.symm⟩
    obtain ⟨rfl, rfl⟩ := HN4
    go_wp2_with fail
    refine HQ.out.mono ?_
    rintro e w6 ⟨rfl, d6⟩
    go_wp2
    go_ret
    exact ⟨rfl, hB5.out.trans (d6.mono hB5.out.size)⟩
  | true =>
    have hokt : okR t := by have := HOKE.out; simpa using this.symm
    have HOKT := Lib.hid hokt
    clear hokt
    go_wp2_with fail
    refine HQ.out.mono ?_
    rintro e w6 ⟨rfl, d6⟩
    have D6 := Lib.hid (D5'.out.trans (d6.mono D5'.out.size))
    have hB6 : Hid (Below w.heap.size w w6) := HBW.out.trans (D6.out.mono HBW.out.size)
    have T6 := HT5.out.kept (same_of_below d6)
    have L6 := laid_stays HL5.out d6
    have P6 := HP2.out.kept (same_of_below D6.out)
    clear y0 y1 y2 y3 y4 d6
    obtain ⟨y0, y1, y2, y3, y4⟩ := box_cells (w1 := w1) HX2.out D6.out
    have HW := Lib.hid (wsInR fu 0 1000 w6)
    by_cases hf : 0 ≤ fu ∧ fu ≤ 1000
    rotate_left
    · have HN4 : n = 0 ∧ k = 4 := by
        have h1 := HNK.out
        unfold ruleOfV at h1
        rw [if_neg (fun h => hf h.2)] at h1
        simp only [Prod.mk.injEq] at h1
        exact ⟨h1.1.symm, h1.2.symm⟩
      obtain ⟨rfl, rfl⟩ := HN4
      have z : (decide (0 ≤ fu) && decide (fu ≤ 1000)) = false := by
        rcases Int.lt_or_le fu 0 with c | c
        · rw [decide_eq_false (by omega)]; rfl
        · rw [decide_eq_false (p := fu ≤ 1000) (fun k => hf ⟨c, k⟩), Bool.and_false]
      rw [z] at HW
      clear hf z
      go_wp2_with fail
      refine HW.out.mono ?_
      rintro e w7 ⟨rfl, rfl⟩
      go_wp2
      go_ret
      exact ⟨rfl, hB6.out⟩
    have z : (decide (0 ≤ fu) && decide (fu ≤ 1000)) = true := by rw [decide_eq_true hf.1, decide_eq_true hf.2]; rfl
    rw [z] at HW
    obtain ⟨f1, f2⟩ := HFL.out HOKT.out hf.1 hf.2
    have HT6 := Lib.hid T6
    have HL6 := Lib.hid L6
    have HP6 := Lib.hid P6
    clear hf z T6 L6 P6
    go_wp2_with fail
    refine HW.out.mono ?_
    rintro e w7 ⟨rfl, h7⟩
    have h8 := h7.symm
    subst h8
    clear HW
    have cC : ∀ dd os, Calls Tryz.prog 42 #[.agg #[.int .i64 f.op, .int .i64 f.num, .string f.name, .slice f.ka f.kl f.kc, .slice f.ma f.ml f.mc]] (Go.Sort.grow (redrawn w6 dd) os) fun e w'' => e = .returned (.int .i64 cost) ∧ ∃ p : Regrown, w'' = Go.Sort.grow (redrawn w6 p.d) p.os := fun dd os => Calls.regrown_of (by
      have hq := implRuleCost (HT6.out.kept (same_of_below (below_regrown w6 dd os))) HSZ.out (laid_stays HL6.out (below_regrown w6 dd os))
      rw [← HCE.out] at hq
      unfold Fld.val at hq
      exact hq)
    have cE : ∀ dd os, Calls Tryz.prog 40 #[.agg #[.int .i64 f.op, .int .i64 f.num, .string f.name, .slice f.ka f.kl f.kc, .slice f.ma f.ml f.mc], .slice na nl nc, .int .i64 cost] (Go.Sort.grow (redrawn w6 dd) os) fun e w'' => e = .returned (.tuple #[.int .i64 m, .int .i64 c]) ∧ ∃ p : Regrown, w'' = Go.Sort.grow (redrawn w6 p.d) p.os := fun dd os => Calls.regrown_of (by
      have hq := implRuleOf t f ns na nl nc cost _ (HT6.out.kept (same_of_below (below_regrown w6 dd os))) HSZ.out (HP6.out.kept (same_of_below (below_regrown w6 dd os))) (by omega) (laid_stays HL6.out (below_regrown w6 dd os))
      rw [HMC.out] at hq
      unfold Fld.val at hq
      exact hq)
    have r0 := cell_regrown y0
    have r1 := cell_regrown y1
    have r2 := cell_regrown y2
    have r3 := cell_regrown y3
    have r4 := cell_regrown y4
    go_wp2_with fail
    refine wp_region_quiet_below (by kernel_rfl) (by kernel_rfl) ?_
    repeat (quiet_step (first | exact cC _ _ | exact cE _ _))
    refine wpQuiet_nil ?_
    intro _ hw'
    obtain ⟨⟨dq, osq⟩, hw''⟩ := hw'
    subst hw''
    clear cC cE r0 r1 r2 r3 r4 y0 y1 y2 y3 y4
    have D8 : Hid (Below w6.heap.size w6 (Go.Sort.grow (redrawn w6 dq) osq)) := below_regrown w6 dq osq
    generalize Go.Sort.grow (redrawn w6 dq) osq = w8 at *
    have D8' : Hid (Below W2.heap.size W2 w8) := D6.out.trans (D8.out.mono D6.out.size)
    obtain ⟨y0, y1, y2, y3, y4⟩ := box_cells (w1 := w1) HX2.out D8'.out
    have hB8 : Hid (Below w.heap.size w w8) := HBW.out.trans (D8'.out.mono HBW.out.size)
    have hq := implRuleCost (HT6.out.kept (same_of_below D8.out)) HSZ.out (laid_stays HL6.out D8.out)
    rw [← HCE.out] at hq
    unfold Fld.val at hq
    have HQ2 := Lib.hid hq
    clear hq
    have g1 : (c == 1) = false := by simpa using f1
    have g1' : (c != 1) = true := by simpa using f1
    have g2 : decide (cost ≤ 1000) = true := decide_eq_true hcost.2
    have HF1 := Lib.hid f1
    clear f1
    by_cases hk : k = 1
    · subst hk
      clear f2
      go_wp2_with fail
      refine HQ2.out.mono ?_
      rintro e w9 ⟨rfl, d9⟩
      go_wp2
      go_ret
      exact ⟨rfl, hB8.out.trans (d9.mono hB8.out.size)⟩
    · obtain ⟨rfl, rfl⟩ := f2.resolve_left hk
      have g3 : (k == 1) = false := by simpa using hk
      clear f2 hk
      go_wp2_with fail
      refine HQ2.out.mono ?_
      rintro e w9 ⟨rfl, d9⟩
      go_wp2
      go_ret
      exact ⟨rfl, hB8.out.trans (d9.mono hB8.out.size)⟩
end Go.Proofs.YtemjooejfmkkbaaGreatDoor
