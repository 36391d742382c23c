/-
  Whether a leg is ok: the model's answer.
  What the next seat of a leg is worth: the program's answer and the model's; the functions on rooms and worths as they are called.
-/
import Derived.Test.YtdaccpffdnbkiaaGreatDoorJ20
namespace Go.Proofs.YtdaccpffdnbkiaaGreatDoor
open Go.RowKit Go.BigFrame
set_option linter.unusedVariables false
set_option linter.unusedSimpArgs false

theorem inQ (n a b : Int) (v : Bool) (h : (decide (a ≤ n) && decide (n ≤ b)) = v) (w : World) : Calls Tryz.prog 43 #[.int .i64 n, .int .i64 a, .int .i64 b] w fun e w' => e = .returned (.bool v) ∧ w' = w :=
  (specInB n a b w v h).mono fun _ _ h => ⟨h.1, h.2.symm⟩
theorem PlainOk.sold {d : LegD} (h : PlainOk d) : SoldOk d := ⟨h.2.2.2.1, fun i hi => by have := (h.2.2.2.2.2.2.2.1 i hi).2.2; have := h.2.1; omega⟩
theorem PlainOk.held {d : LegD} (h : PlainOk d) (k : ∀ i, i < d.nH → Hold1 (d.t i) (d.c i) (d.s i) d.cap) : HeldOk d := ⟨h.2.2.2.2.2.2.1, fun i hi => by have h1 := (k i hi).2.2.1; have := h.2.1; omega⟩

set_option maxRecDepth 100000 in
set_option maxHeartbeats 16000000 in
theorem okM (d : LegD) (p : LegP) (w : World) (h : LegIn w d p) (hf : Fits d) :
    Calls Tryz.prog 16 #[LegV d p] w (OkPost (OkLeg d) (Below w.heap.size w)) := by
  have hbA : Below w.heap.size w (w.alloc (.cells (LegC d p) 25)) := (Below.refl _ _).alloc (Nat.le_refl _) _
  have hA := LegBox.new w d p
  have HI := Lib.hid (h.kept hbA)
  have HbA := Lib.hid hbA
  have hiff : Hid ((PlainOk d ∧ (∀ i, i < d.nH → Hold1 (d.t i) (d.c i) (d.s i) d.cap ∧ (0 < i → d.t (i - 1) < d.t i)) ∧ FitsOk d) ↔ OkLeg d) := plain_iff d
  have hVC : LegV d p = .agg (LegC d p) := rfl
  rw [hVC]
  have b0 := hA.c0
  have b1 := hA.c1
  have b2 := hA.c2
  have b3 := hA.c3
  have b4 := hA.c4
  have b5 := hA.c5
  have b6 := hA.c6
  have b7 := hA.c7
  have b8 := hA.c8
  have b9 := hA.c9
  have HA := Lib.hid hA
  generalize hLC : LegC d p = LC at *
  have HLC := Lib.hid hLC
  clear hbA hA h hVC hLC
  go_enter Tryz.func16, Tryz.ntmps16
  go_wp2_with fail
  generalize w.alloc (.cells LC 25) = WA at *
  refine (plainS d p WA HI.out hf).mono ?_
  rintro e w1 ⟨b, rfl, hb, d1⟩
  cases b with
  | false =>
    have hno : Hid (¬ OkLeg d) := fun h => by have := hb.out.2 (hiff.out.2 h).1; cases this
    go_wp2
    go_ret
    exact okPost_no rfl hno.out (bt HbA.out d1)
  | true =>
  have hpl : Hid (PlainOk d) := hb.out.1 rfl
  have hA1 := HA.out.kept d1
  have HA1 := Lib.hid hA1
  have HI1 := Lib.hid (HI.out.kept d1)
  have D1 := Lib.hid (bt HbA.out d1)
  clear b0 b1 b2 b3 b4 b5 b6 b7 b8 b9 HA HI d1 hb HbA
  have HbA := D1
  have hcap := hpl.out.2.1
  have hn6 := hpl.out.2.2.2.2.2.2.1
  clear hA1
  go_wp2_with fail
  go_loopw [3] (fun v wr => ∃ k : Nat, k ≤ d.nH ∧ v = .int .i64 k ∧ Hid (∀ i, i < k → Hold1 (d.t i) (d.c i) (d.s i) d.cap ∧ (0 < i → d.t (i - 1) < d.t i)) ∧ Below w1.heap.size w1 wr) (fun v _ => d.nH - (intOf v).toNat)
  case atStart => exact ⟨0, Nat.zero_le _, rfl, fun i hi => absurd hi (Nat.not_lt_zero _), Below.refl _ _⟩
  case round =>
    obtain ⟨k, hk, rfl, hto, hb⟩ := hrel
    have hbx := HA1.out.kept hb
    have a9 := hbx.c9
    have Hb := Lib.hid hb
    rcases Nat.lt_or_ge k d.nH with hlt | hge
    · obtain ⟨bH, oH, eH, hbH, hcH⟩ := HI1.out.2.2.2.cells (by omega)
      rw [eH] at a9
      have HcH := Lib.hid hcH
      have c1 := cell_kept hb hbH (hcH k hlt).1
      have c2 := cell_kept hb hbH (hcH k hlt).2.1
      have c3 := cell_kept hb hbH (hcH k hlt).2.2
      have k1 : (k : Int) < d.nH := by omega
      have k0 : (0 : Int) ≤ k := by omega
      have HOLD : Hid (OkLeg d → Hold1 (d.t k) (d.c k) (d.s k) d.cap ∧ (0 < k → d.t (k - 1) < d.t k)) := fun h => (hiff.out.2 h).2.1 k hlt
      have NEXT : Hid ((Hold1 (d.t k) (d.c k) (d.s k) d.cap) → (0 < k → d.t (k - 1) < d.t k) → ∀ i, i < k + 1 → Hold1 (d.t i) (d.c i) (d.s i) d.cap ∧ (0 < i → d.t (i - 1) < d.t i)) := by
        intro h1 h2 i hi
        rcases Nat.lt_or_ge i k with h3 | h3
        · exact hto.out i h3
        · obtain rfl : i = k := by omega
          exact ⟨h1, h2⟩
      clear hcH
      generalize hx1 : d.t k = x1 at *
      generalize hx2 : d.c k = x2 at *
      generalize hx3 : d.s k = x3 at *
      clear hx1 hx2 hx3 hb
      have hbox := holdBox wr x1 x2 x3
      obtain ⟨d0, d1, d2⟩ := row3 hbox
      have Hb2 := Lib.hid (bt Hb.out (holdBelow wr x1 x2 x3))
      have hbx5 := HA1.out.kept Hb2.out
      have q5 := hbx5.c5
      have q9 := hbx5.c9
      rw [eH] at q9
      have HcH5 : Hid (∀ i, i < d.nH → ((wr.alloc (.cells #[.int .i64 0, .int .i64 0, .int .i64 0] 58)).setRow wr.heap.size #[.int .i64 x1, .int .i64 x2, .int .i64 x3]).cell? ⟨bH, oH + i * 3, none⟩ = some (.int .i64 (d.t i))) := fun i hi => cell_kept Hb2.out hbH (HcH.out i hi).1
      generalize hcp : d.cap = cap at *
      generalize hnh : d.nH = nH at *
      have HEq := Lib.hid (And.intro hcp hnh)
      clear hcp hnh hbx hbx5 eH
      go_wp2_with (first
        | (refine wpList_store_row rfl 58 _ _ rfl wr.heap.size #[.int .i64 x1, .int .i64 x2, .int .i64 x3] rfl rfl 58 #[.int .i64 0, .int .i64 0, .int .i64 0] (heap_alloc_new wr _) holdSize rfl (hold_one x1 x2 x3) ?_)
        | fail)
      go_frame
      generalize (wr.alloc (.cells #[.int .i64 0, .int .i64 0, .int .i64 0] 58)).setRow wr.heap.size #[.int .i64 x1, .int .i64 x2, .int .i64 x3] = W5 at *
      clear c1 c2 c3 a9 hbox
      by_cases l1 : 1 ≤ x1 ∧ x1 ≤ 99
      rotate_left
      · have hno : Hid (¬ OkLeg d) := fun h => l1 (HOLD.out h).1.1
        have cI := inQ x1 1 99 false (in_no l1)
        clear l1
        go_big_quiet (first | (go_at_call_of 43 x1; exact Calls.quiet_of_same (cI _)))
        go_wp2
        go_ret
        exact okPost_no rfl hno.out (bt HbA.out (bt Hb2.out (belowN (Below.refl _ _) _)))
      have cI := inQ x1 1 99 true (in_yes l1)
      have L1 := Lib.hid l1
      clear l1
      have TAIL : 0 < 1 := Nat.one_pos
      rcases Nat.eq_zero_or_pos k with hk0 | hkp
      · subst hk0
        have nh0 : (0 : Int) < (nH : Int) := by omega
        by_cases l2 : 0 ≤ x2 ∧ x2 ≤ 2
        rotate_left
        · have hno : Hid (¬ OkLeg d) := fun h => l2 (HOLD.out h).1.2.1
          have cJ := inQ x2 0 2 false (in_no l2)
          clear l2
          go_big_quiet (first | (go_at_call_of 43 x1; exact Calls.quiet_of_same (cI _)) | (go_at_call_of 43 x2; exact Calls.quiet_of_same (cJ _)))
          go_wp2
          go_ret
          exact okPost_no rfl hno.out (bt HbA.out (bt Hb2.out (belowN (Below.refl _ _) _)))
        have cJ := inQ x2 0 2 true (in_yes l2)
        have L2 := Lib.hid l2
        clear l2
        by_cases l3 : x3 = 0
        · have hno : Hid (¬ OkLeg d) := fun h => (HOLD.out h).1.2.2.2 l3
          have zc : (x3 == 0) = true := by simpa using l3
          have zd : decide (x3 = 0) = true := by simpa using l3
          clear l3
          go_big_quiet (first | (go_at_call_of 43 x1; exact Calls.quiet_of_same (cI _)) | (go_at_call_of 43 x2; exact Calls.quiet_of_same (cJ _)))
          go_wp2
          go_ret
          exact okPost_no rfl hno.out (bt HbA.out (bt Hb2.out (belowN (Below.refl _ _) _)))
        have zc : (x3 == 0) = false := by simpa using l3
        have zd : decide (x3 = 0) = false := by simpa using l3
        have L3 := Lib.hid l3
        clear l3
        by_cases l4 : -cap ≤ x3 ∧ x3 ≤ cap
        rotate_left
        · have hno : Hid (¬ OkLeg d) := fun h => l4 (HOLD.out h).1.2.2.1
          have cM := inQ x3 (-cap) cap false (in_no l4)
          clear l4
          go_big_quiet (first | (go_at_call_of 43 x1; exact Calls.quiet_of_same (cI _)) | (go_at_call_of 43 x2; exact Calls.quiet_of_same (cJ _)) | (go_at_call_of 43 x3; exact Calls.quiet_of_same (cM _)))
          go_wp2
          go_ret
          exact okPost_no rfl hno.out (bt HbA.out (bt Hb2.out (belowN (Below.refl _ _) _)))
        have cM := inQ x3 (-cap) cap true (in_yes l4)
        have hnx := Lib.hid (NEXT.out ⟨L1.out, L2.out, l4, L3.out⟩ (fun h => absurd h (Nat.lt_irrefl 0)))
        clear l4 HOLD NEXT
        go_big_quiet (first | (go_at_call_of 43 x1; exact Calls.quiet_of_same (cI _)) | (go_at_call_of 43 x2; exact Calls.quiet_of_same (cJ _)) | (go_at_call_of 43 x3; exact Calls.quiet_of_same (cM _)))
        have hb6 := bt Hb2.out (belowN (Below.refl _ W5) nq)
        generalize W5.drewN nq = W6 at *
        go_wp2
        go_roundw
        case rel => exact ⟨1, by omega, by go_num, hnx.out, hb6⟩
        case measure => simp [intOf]; omega
      · obtain ⟨j, rfl⟩ : ∃ j, k = j + 1 := ⟨k - 1, by omega⟩
        have y3 := HcH5.out j (by omega)
        have w1' : IntKind.i64.wrap ((j : Int) + 1 - 1) = (j : Int) := by rw [IntWalk.i64_in _ (by omega)]; omega
        have w2' : IntKind.i64.wrap (j : Int) = (j : Int) := IntWalk.i64_in _ (by omega)
        have j3 : (j : Int) < nH := by omega
        have j4 : (j : Int) + 1 < nH := by omega
        have jp : (0 : Int) ≤ (j : Int) + 1 := by omega
        have zb1 : decide ((0 : Int) < (j : Int) + 1) = true := decide_eq_true (by omega)
        have zb2 : decide (0 < j + 1) = true := decide_eq_true (by omega)
        have zb3 : decide ((0 : Int) < ((j + 1 : Nat) : Int)) = true := decide_eq_true (by omega)
        have j00 : (0 : Int) ≤ j := by omega
        simp only [Nat.add_sub_cancel] at HOLD NEXT
        generalize d.t j = u at *
        rcases Int.lt_or_le u x1 with v3 | v3
        rotate_left
        · have hno : Hid (¬ OkLeg d) := fun h => by have := (HOLD.out h).2 hkp; omega
          have zb4 : decide (x1 ≤ u) = true := decide_eq_true v3
          go_big_quiet (first | (go_at_call_of 43 x1; exact Calls.quiet_of_same (cI _)))
          go_wp2
          go_ret
          exact okPost_no rfl hno.out (bt HbA.out (bt Hb2.out (belowN (Below.refl _ _) _)))
        have zb4 : decide (x1 ≤ u) = false := decide_eq_false (by omega)
        by_cases l2 : 0 ≤ x2 ∧ x2 ≤ 2
        rotate_left
        · have hno : Hid (¬ OkLeg d) := fun h => l2 (HOLD.out h).1.2.1
          have cJ := inQ x2 0 2 false (in_no l2)
          clear l2
          go_big_quiet (first | (go_at_call_of 43 x1; exact Calls.quiet_of_same (cI _)) | (go_at_call_of 43 x2; exact Calls.quiet_of_same (cJ _)))
          go_wp2
          go_ret
          exact okPost_no rfl hno.out (bt HbA.out (bt Hb2.out (belowN (Below.refl _ _) _)))
        have cJ := inQ x2 0 2 true (in_yes l2)
        have L2 := Lib.hid l2
        clear l2
        by_cases l3 : x3 = 0
        · have hno : Hid (¬ OkLeg d) := fun h => (HOLD.out h).1.2.2.2 l3
          have zc : (x3 == 0) = true := by simpa using l3
          have zd : decide (x3 = 0) = true := by simpa using l3
          clear l3
          go_big_quiet (first | (go_at_call_of 43 x1; exact Calls.quiet_of_same (cI _)) | (go_at_call_of 43 x2; exact Calls.quiet_of_same (cJ _)))
          go_wp2
          go_ret
          exact okPost_no rfl hno.out (bt HbA.out (bt Hb2.out (belowN (Below.refl _ _) _)))
        have zc : (x3 == 0) = false := by simpa using l3
        have zd : decide (x3 = 0) = false := by simpa using l3
        have L3 := Lib.hid l3
        clear l3
        by_cases l4 : -cap ≤ x3 ∧ x3 ≤ cap
        rotate_left
        · have hno : Hid (¬ OkLeg d) := fun h => l4 (HOLD.out h).1.2.2.1
          have cM := inQ x3 (-cap) cap false (in_no l4)
          clear l4
          go_big_quiet (first | (go_at_call_of 43 x1; exact Calls.quiet_of_same (cI _)) | (go_at_call_of 43 x2; exact Calls.quiet_of_same (cJ _)) | (go_at_call_of 43 x3; exact Calls.quiet_of_same (cM _)))
          go_wp2
          go_ret
          exact okPost_no rfl hno.out (bt HbA.out (bt Hb2.out (belowN (Below.refl _ _) _)))
        have cM := inQ x3 (-cap) cap true (in_yes l4)
        have hnx := Lib.hid (NEXT.out ⟨L1.out, L2.out, l4, L3.out⟩ (fun _ => v3))
        clear l4 HOLD NEXT
        go_big_quiet (first | (go_at_call_of 43 x1; exact Calls.quiet_of_same (cI _)) | (go_at_call_of 43 x2; exact Calls.quiet_of_same (cJ _)) | (go_at_call_of 43 x3; exact Calls.quiet_of_same (cM _)))
        have hb6 := bt Hb2.out (belowN (Below.refl _ W5) nq)
        generalize W5.drewN nq = W6 at *
        go_wp2
        go_roundw
        case rel => exact ⟨j + 1 + 1, by omega, by go_num, hnx.out, hb6⟩
        case measure => simp [intOf]; omega
    · have hk3 : k = d.nH := by omega
      have HLS : Hid (∀ i, i < d.nH → Hold1 (d.t i) (d.c i) (d.s i) d.cap ∧ (0 < i → d.t (i - 1) < d.t i)) := by
        have := hto.out
        rw [hk3] at this
        exact this
      have z3 : (d.nH : Int) ≤ (k : Int) := by omega
      have z4 : decide (k < d.nH) = false := decide_eq_false (by omega)
      have hyes : Hid (FitsOk d ↔ OkLeg d) := ⟨fun h => hiff.out.1 ⟨hpl.out, HLS.out, h⟩, fun h => (hiff.out.2 h).2.2⟩
      have hsold := Lib.hid hpl.out.sold
      have hheld := Lib.hid (hpl.out.held (fun i hi => (HLS.out i hi).1))
      have hL := Lib.hid hpl.out.2.2.1
      have hSn := Lib.hid hpl.out.2.2.2.1
      have hLb : Hid (∀ i, i < 3 → 0 ≤ d.L i ∧ d.L i ≤ 9) := fun i hi => by have := (hpl.out.2.2.2.2.2.2.2.1 i hi).1; omega
      clear hk3 hto
      go_wp2_with fail
      clear a9 z3 z4 hge
      generalize k = k3 at *
      generalize wr = wx at *
      go_loopw [5] (fun v wr => ∃ k : Nat, k ≤ 3 ∧ v = .int .i64 k ∧ Hid (∀ i, i < k → fitK d i) ∧ Below w1.heap.size w1 wr) (fun v _ => 3 - (intOf v).toNat)
      case atStart => exact ⟨0, Nat.zero_le _, rfl, fun i hi => absurd hi (Nat.not_lt_zero _), Hb.out⟩
      case round =>
        obtain ⟨k, hk2, rfl, hto, hb2⟩ := hrel
        rcases Nat.lt_or_ge k 3 with hlt | hge
        · obtain ⟨bL, oL, eL, hbL, hcL⟩ := HI1.out.1.cells (by have := hL.out; omega)
          obtain ⟨bS, oS, eS, hbS, hcS⟩ := HI1.out.2.1.cells (by have := hSn.out; omega)
          have y1 := cell_regrown (cell_kept hb2 hbL (hcL k (by have := hL.out; omega)))
          have y2 := cell_regrown (cell_kept hb2 hbS (hcS k (by have := hSn.out; omega)))
          have hbx2 := HA1.out.kept hb2
          have Hb3 := Lib.hid hb2
          have hV : LegV d p = .agg #[.string d.name, .string d.fr, .string d.to, .int .i64 d.dep, .int .i64 d.arr, .int .i64 d.cap, .slice (some ⟨bL, oL, none⟩) 3 p.cL, .slice (some ⟨bS, oS, none⟩) 3 p.cS, .slice p.aB d.nB p.cB, .slice p.aH d.nH p.cH] := by unfold LegV; rw [eL, eS, hL.out, hSn.out]
          have e0 := hbx2.c0
          have e1 := hbx2.c1
          have e2 := hbx2.c2
          have e3 := hbx2.c3
          have e4 := hbx2.c4
          have e5 := hbx2.c5
          have e6 := hbx2.c6
          have e7 := hbx2.c7
          have e8 := hbx2.c8
          have e9 := hbx2.c9
          rw [eL, hL.out] at e6
          rw [eS, hSn.out] at e7
          have r0 := cell_regrown e0
          have r1 := cell_regrown e1
          have r2 := cell_regrown e2
          have r3 := cell_regrown e3
          have r4 := cell_regrown e4
          have r5 := cell_regrown e5
          have r6 := cell_regrown e6
          have r7 := cell_regrown e7
          have r8 := cell_regrown e8
          have r9 := cell_regrown e9
          have cU : ∀ dd os, Calls Tryz.prog 44 #[.agg #[.string d.name, .string d.fr, .string d.to, .int .i64 d.dep, .int .i64 d.arr, .int .i64 d.cap, .slice (some ⟨bL, oL, none⟩) 3 p.cL, .slice (some ⟨bS, oS, none⟩) 3 p.cS, .slice p.aB d.nB p.cB, .slice p.aH d.nH p.cH], .int .i64 (k : Int)] (Go.Sort.grow (redrawn wr dd) os) fun e w'' => e = .returned (.int .i64 (usedB d k)) ∧ ∃ p : Regrown, w'' = Go.Sort.grow (redrawn wr p.d) p.os := fun dd os => by
            have hh := usedM d p k hlt (Go.Sort.grow (redrawn wr dd) os) ((HI1.out.kept hb2).kept (below_regrown wr dd os)) hsold.out hheld.out
            rw [hV] at hh
            exact Calls.regrown_of hh
          have cK : ∀ dd os, Calls Tryz.prog 45 #[.agg #[.string d.name, .string d.fr, .string d.to, .int .i64 d.dep, .int .i64 d.arr, .int .i64 d.cap, .slice (some ⟨bL, oL, none⟩) 3 p.cL, .slice (some ⟨bS, oS, none⟩) 3 p.cS, .slice p.aB d.nB p.cB, .slice p.aH d.nH p.cH], .int .i64 (k : Int)] (Go.Sort.grow (redrawn wr dd) os) fun e w'' => e = .returned (.int .i64 (backB d k)) ∧ ∃ p : Regrown, w'' = Go.Sort.grow (redrawn wr p.d) p.os := fun dd os => by
            have hh := backM d p k (Go.Sort.grow (redrawn wr dd) os) ((HI1.out.kept hb2).kept (below_regrown wr dd os)) hheld.out
            rw [hV] at hh
            exact Calls.regrown_of hh
          have hfit : Hid (fitK d k ↔ (usedB d k ≤ d.L k ∧ backB d k ≤ d.S k)) := by
            show _ ↔ _
            unfold fitK leftB
            exact ⟨fun h => ⟨by omega, h.2⟩, fun h => ⟨by omega, h.2⟩⟩
          have k1 : (k : Int) < 3 := by omega
          have k0 : (0 : Int) ≤ k := by omega
          clear e0 e1 e2 e3 e4 e5 e6 e7 e8 e9 hV hbx2 eL eS hcL hcS hb2
          generalize usedB d k = xu at *
          generalize backB d k = xb at *
          generalize d.L k = xl at *
          generalize d.S k = xs at *
          rcases Int.lt_or_le xl xu with m1 | m1
          · have hno : Hid (¬ OkLeg d) := fun h => by have := hfit.out.1 (hyes.out.2 h k hlt); omega
            have zb : decide (xl < xu) = true := decide_eq_true m1
            go_wp2_with fail
            refine regionB (by kernel_rfl) (by kernel_rfl) ?_
            repeat (refine QW.step (fun K hK => ?_); go_simp; first | (refine hK.out _ ?_; clear hK K) | (apply Exists.intro; refine And.intro (fun _ => ?_) (hK.out _ ?_); first | (go_at_call 44; exact cU _ _) | (go_at_call 45; exact cK _ _); clear hK K))
            refine QW.nil ?_
            intro _ hw'
            obtain ⟨⟨dq, osq⟩, hw''⟩ := hw'
            subst hw''
            go_wp2
            go_ret
            exact okPost_no rfl hno.out (bt HbA.out (bt Hb3.out (below_regrown wr dq osq)))
          have zb : decide (xl < xu) = false := decide_eq_false (by omega)
          rcases Int.lt_or_le xs xb with m2 | m2
          · have hno : Hid (¬ OkLeg d) := fun h => by have := hfit.out.1 (hyes.out.2 h k hlt); omega
            have zb' : decide (xs < xb) = true := decide_eq_true m2
            go_wp2_with fail
            refine regionB (by kernel_rfl) (by kernel_rfl) ?_
            repeat (refine QW.step (fun K hK => ?_); go_simp; first | (refine hK.out _ ?_; clear hK K) | (apply Exists.intro; refine And.intro (fun _ => ?_) (hK.out _ ?_); first | (go_at_call 44; exact cU _ _) | (go_at_call 45; exact cK _ _); clear hK K))
            refine QW.nil ?_
            intro _ hw'
            obtain ⟨⟨dq, osq⟩, hw''⟩ := hw'
            subst hw''
            go_wp2
            go_ret
            exact okPost_no rfl hno.out (bt HbA.out (bt Hb3.out (below_regrown wr dq osq)))
          have zb' : decide (xs < xb) = false := decide_eq_false (by omega)
          have hnx : Hid (∀ i, i < k + 1 → fitK d i) := by
            intro i hi
            rcases Nat.lt_or_ge i k with h3 | h3
            · exact hto.out i h3
            · obtain rfl : i = k := by omega
              exact hfit.out.2 ⟨m1, m2⟩
          go_wp2_with fail
          refine regionB (by kernel_rfl) (by kernel_rfl) ?_
          repeat (refine QW.step (fun K hK => ?_); go_simp; first | (refine hK.out _ ?_; clear hK K) | (apply Exists.intro; refine And.intro (fun _ => ?_) (hK.out _ ?_); first | (go_at_call 44; exact cU _ _) | (go_at_call 45; exact cK _ _); clear hK K))
          refine QW.nil ?_
          intro _ hw'
          obtain ⟨⟨dq, osq⟩, hw''⟩ := hw'
          subst hw''
          have hb6 := bt Hb3.out (below_regrown wr dq osq)
          generalize Go.Sort.grow (redrawn wr dq) osq = W6 at *
          go_wp2
          go_roundw
          case rel =>
            exact ⟨k + 1, by omega, by go_num, hnx.out, hb6⟩
          case measure => simp [intOf]; omega
        · have hyes2 : Hid (OkLeg d) := hyes.out.1 (fun i hi => hto.out i (by omega))
          have hk3 : (3 : Int) ≤ k := by omega
          go_wp2
          go_ret
          exact okPost_yes rfl hyes2.out (bt HbA.out hb2)
end Go.Proofs.YtdaccpffdnbkiaaGreatDoor

namespace Go.Proofs.YtdaccpffdnbkiaaGreatDoor
open Go.RowKit Go.Shelf
set_option linter.unusedVariables false
set_option linter.unusedSimpArgs false

def bidB (d : LegD) : Int := d.B (min (roomN d 1) (d.nB - 1)).toNat

set_option maxRecDepth 100000 in
set_option maxHeartbeats 8000000 in
theorem bidM (d : LegD) (p : LegP) (w : World) (h : LegIn w d p) (ho : OkLeg d) :
    Calls Tryz.prog 78 #[LegV d p] w fun e w' => e = .returned (.int .i64 (bidB d)) ∧ Below w.heap.size w w' := by
  have hbA : Below w.heap.size w (w.alloc (.cells (LegC d p) 25)) := (Below.refl _ _).alloc (Nat.le_refl _) _
  have hA := LegBox.new w d p
  have HI := Lib.hid (h.kept hbA)
  have HbA := Lib.hid hbA
  have hVC : LegV d p = .agg (LegC d p) := rfl
  rw [hVC]
  have b0 := hA.c0
  have b1 := hA.c1
  have b2 := hA.c2
  have b3 := hA.c3
  have b4 := hA.c4
  have b5 := hA.c5
  have b6 := hA.c6
  have b7 := hA.c7
  have b8 := hA.c8
  have b9 := hA.c9
  have HA := Lib.hid hA
  generalize hLC : LegC d p = LC at *
  have HLC := Lib.hid hLC
  clear hbA hA h hVC hLC
  go_enter Tryz.func78, Tryz.ntmps78
  go_wp2_with fail
  generalize w.alloc (.cells LC 25) = WA at *
  have HBid : Hid (bidB d = d.B (min (roomN d 1) (d.nB - 1)).toNat) := rfl
  have hnB := ho.2.1.2.2.2.2.1
  have hr0 := ho.room0 1 (by omega)
  have HO := Lib.hid ho
  clear ho b0 b1 b2 b3 b4 b5 b6 b7 b8 b9
  refine (roomM d p 0 (by omega) WA HI.out HO.out.sized).mono ?_
  rintro e w1 ⟨rfl, d1⟩
  have A1 := HA.out.kept d1
  have D1 := Lib.hid (bt HbA.out d1)
  obtain ⟨bB, oB, eB, hbB, hcB⟩ := (HI.out.kept d1).2.2.1.cells (by omega)
  have b8 := A1.c8
  rw [eB] at b8
  have Hc := Lib.hid hcB
  rw [show (0 : Nat) + 1 = 1 from rfl]
  generalize hR : roomN d 1 = R at *
  clear hcB A1 eB hR d1
  rcases Int.lt_or_le R (d.nB : Int) with hlt | hge
  · obtain ⟨m, rfl⟩ : ∃ m : Nat, R = m := ⟨R.toNat, by omega⟩
    have cB := Hc.out m (by omega)
    have hmn : (m : Int) < d.nB := by omega
    have hm0 : (0 : Int) ≤ m := by omega
    have hB : bidB d = d.B m := by rw [HBid.out, show min (m : Int) ((d.nB : Int) - 1) = m from by omega]; rfl
    have HB := Lib.hid hB
    clear hB
    go_wp2
    go_ret
    exact ⟨retI HB.out.symm, D1.out⟩
  · obtain ⟨m, hm⟩ : ∃ m : Nat, (d.nB : Int) - 1 = m := ⟨d.nB - 1, by omega⟩
    have cB := Hc.out m (by omega)
    have hmn : (m : Int) < d.nB := by omega
    have hm0 : (0 : Int) ≤ m := by omega
    have hB : bidB d = d.B m := by rw [HBid.out, show min R ((d.nB : Int) - 1) = m from by omega]; rfl
    have wn : IntKind.i64.wrap ((d.nB : Int) - 1) = (m : Int) := by rw [hm]; exact IntWalk.i64_in _ (by omega)
    have HB := Lib.hid hB
    clear hB hm
    go_wp2
    go_ret
    exact ⟨retI HB.out.symm, D1.out⟩

/-- What LegRoom and LegBid answer. -/
def IsRoom (d : LegD) (c r : Int) : Prop := (OkLeg d ∧ 0 ≤ c ∧ c ≤ 2 → r = roomN d (c.toNat + 1)) ∧ (¬ (OkLeg d ∧ 0 ≤ c ∧ c ≤ 2) → r = 0)
theorem IsRoom.one {d : LegD} {c r r' : Int} (h : IsRoom d c r) (k : IsRoom d c r') : r = r' := by
  by_cases hx : OkLeg d ∧ 0 ≤ c ∧ c ≤ 2
  · rw [h.1 hx, k.1 hx]
  · rw [h.2 hx, k.2 hx]
def IsBid (d : LegD) (r : Int) : Prop := (OkLeg d → r = bidB d) ∧ (¬ OkLeg d → r = 0)
theorem IsBid.one {d : LegD} {r r' : Int} (h : IsBid d r) (k : IsBid d r') : r = r' := by
  by_cases hx : OkLeg d
  · rw [h.1 hx, k.1 hx]
  · rw [h.2 hx, k.2 hx]
def IntPost (S : Int → Prop) (R : World → Prop) (e : Ending) (w' : World) : Prop := ∃ r : Int, e = .returned (.int .i64 r) ∧ Hid (S r) ∧ R w'

end Go.Proofs.YtdaccpffdnbkiaaGreatDoor
