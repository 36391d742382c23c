/-
  The law FnVmEnds' own walk (P17).
-/
import Derived.Test.YtjphjnopdlfplaaGreatDoorDrawVm
import Derived.Test.YtjphjnopdlfplaaGreatDoorVmRunB
namespace Go.Proofs.YtjphjnopdlfplaaGreatDoor
open Go.RowKit
set_option linter.unusedVariables false
set_option linter.unusedSimpArgs false

set_option maxHeartbeats 1000000 in
theorem wsInV (x a b : Int) (w : World) : Calls Tryz.prog 30 #[.int .i64 x, .int .i64 a, .int .i64 b] w fun e w' => e = .returned (.bool (decide (a ≤ x) && decide (x ≤ b))) ∧ w' = w := by
  rcases Int.lt_or_le x a with c | c
  · have z : decide (a ≤ x) = false := decide_eq_false (by omega)
    rw [z]
    go_enter Tryz.func30, Tryz.ntmps30
    go_wp2
    go_ret
    exact ⟨rfl, rfl⟩
  · have z : decide (a ≤ x) = true := decide_eq_true c
    rw [z]
    generalize hb : decide (x ≤ b) = bb at *
    go_enter Tryz.func30, Tryz.ntmps30
    go_wp2
    go_ret
    exact ⟨rfl, rfl⟩
theorem ends_facts (ds : List Pl) (ns : List (ByteArray × Int)) (fu : Int) (h : OkV ds) : okB (vmRunV ds ns fu).1 = true ∧ ((vmRunV ds ns fu).2.1 = 0 ∨ (vmRunV ds ns fu).1 = 0) := by
  by_cases hf : 0 ≤ fu ∧ fu ≤ 1000
  · rw [vmRun_yes ⟨h, hf⟩]
    have s := mach_sok ns h hf.1
    refine ⟨s.1, ?_⟩
    by_cases c : (machV ns ds [] fu).c = 0
    · exact .inl c
    · exact .inr (s.2.2.2 c)
  · rw [vmRun_no (fun k => hf k.2)]
    exact ⟨okB0, .inr rfl⟩
set_option maxRecDepth 20000 in
set_option maxHeartbeats 16000000 in
theorem lawVmEnds (a0 : Option Addr) (len0 cap0 : Nat) (z0 : List Int) (w : World) (w0 : IsRow .u8 w a0 len0 cap0 z0) (hL : Laid w) :
    Calls Tryz.prog 5 #[.slice a0 len0 cap0] w fun e w' => e = .returned (.bool true) ∧ Below w.heap.size w w' := by
  rcases Nat.lt_or_ge 1048576 len0 with hb0 | hb0
  · clear w0
    go_enter Tryz.func5, Tryz.ntmps5
    go_wp2
    go_ret
    exact ⟨rfl, Below.refl _ _⟩
  have hd := drawVmRun a0 len0 cap0 z0 w w0
  unfold DrawnVR at hd
  have HD := Lib.hid hd
  have HL := Lib.hid hL
  clear w0 hd hL
  go_enter Tryz.func5, Tryz.ntmps5
  go_wp2_with fail
  refine HD.out.mono ?_
  rintro e w1 ⟨a, n, c, ds, na, nl, nc, ns, fu, rfl, hn, hpl, hsm, hpp, hn6, hfu, d1⟩
  subst hn
  have h101 := hsm.1
  have HSM : Hid (∀ d ∈ ds, SmallP d) := Lib.hid hsm.small
  have HP1 := Lib.hid (codeW_pls hpl rfl)
  have HN1 := Lib.hid hpp
  have HB1 := Lib.hid d1
  have HFU := Lib.hid hfu
  have L1 := Lib.hid (laid_stays HL.out d1)
  clear HD hpl hsm hpp d1 HL hfu
  obtain ⟨ok, hok⟩ : ∃ ok, decide (OkV ds) = ok := ⟨_, rfl⟩
  have HOKE := Lib.hid hok
  obtain ⟨r, hr⟩ : ∃ r, vmRunV ds ns fu = r := ⟨_, rfl⟩
  have HR := Lib.hid hr
  obtain ⟨dp, hdp⟩ : ∃ dp, deepV ds = dp := ⟨_, rfl⟩
  have HDP := Lib.hid hdp
  clear hok hr hdp
  obtain ⟨v, k, u⟩ := r
  have hq2 := implVmRun a ds.length c ds ns na nl nc fu w1 HP1.out HSM.out (by omega) HN1.out (by omega) L1.out
  unfold VmP at hq2
  rw [HR.out] at hq2
  dsimp only at hq2
  have HQ2 := Lib.hid hq2
  clear hq2
  go_wp2_with fail
  refine HQ2.out.mono ?_
  rintro e w2 ⟨rfl, d2⟩
  have HP2 := Lib.hid (HP1.out.kept (same_of_below d2))
  have HN2 := Lib.hid (HN1.out.kept (same_of_below d2))
  have HB2 : Hid (Below w.heap.size w w2) := Lib.hid (HB1.out.trans (d2.mono HB1.out.size))
  have L2 := Lib.hid (laid_stays L1.out d2)
  clear HP1 HN1 HB1 L1 d2 HQ2
  have hq3 := specVmRun a ds.length c ds ns na nl nc fu w2 HP2.out HSM.out (by omega) HN2.out (by omega)
  unfold VmP at hq3
  rw [HR.out] at hq3
  dsimp only at hq3
  have HQ3 := Lib.hid hq3
  clear hq3
  go_wp2_with fail
  refine HQ3.out.mono ?_
  rintro e w3 ⟨rfl, d3⟩
  have HP3 := Lib.hid (HP2.out.kept (same_of_below d3))
  have HN3 := Lib.hid (HN2.out.kept (same_of_below d3))
  have HB3 : Hid (Below w.heap.size w w3) := Lib.hid (HB2.out.trans (d3.mono HB2.out.size))
  have L3 := Lib.hid (laid_stays L2.out d3)
  clear HP2 HN2 HB2 L2 d3 HQ3
  have hq4 := implVmDeep a ds.length c ds w3 HP3.out HSM.out (by omega) L3.out
  unfold DeepP at hq4
  rw [HDP.out] at hq4
  have HQ4 := Lib.hid hq4
  clear hq4
  go_wp2_with fail
  refine HQ4.out.mono ?_
  rintro e w4 ⟨rfl, d4⟩
  have HP4 := Lib.hid (HP3.out.kept (same_of_below d4))
  have HN4 := Lib.hid (HN3.out.kept (same_of_below d4))
  have HB4 : Hid (Below w.heap.size w w4) := Lib.hid (HB3.out.trans (d4.mono HB3.out.size))
  have L4 := Lib.hid (laid_stays L3.out d4)
  clear HP3 HN3 HB3 L3 d4 HQ4
  have g1 : (v != v) = false := by simp
  have g2 : (k != k) = false := by simp
  have g3 : (u != u) = false := by simp
  have g4 : (ok != ok) = false := by simp
  have g5 : (dp != dp) = false := by simp
  have hq5 := implVmOk a ds.length c ds w4 HP4.out HSM.out (by omega) L4.out
  unfold OkVP at hq5
  rw [HOKE.out] at hq5
  have HQ5 := Lib.hid hq5
  clear hq5
  go_wp2_with fail
  refine HQ5.out.mono ?_
  rintro e w5 ⟨rfl, d5⟩
  have HP5 := Lib.hid (HP4.out.kept (same_of_below d5))
  have HN5 := Lib.hid (HN4.out.kept (same_of_below d5))
  have HB5 : Hid (Below w.heap.size w w5) := Lib.hid (HB4.out.trans (d5.mono HB4.out.size))
  have L5 := Lib.hid (laid_stays L4.out d5)
  clear HP4 HN4 HB4 L4 d5 HQ5
  have hq6 := specVmOk a ds.length c ds w5 HP5.out HSM.out (by omega)
  unfold OkVP at hq6
  rw [HOKE.out] at hq6
  have HQ6 := Lib.hid hq6
  clear hq6
  go_wp2_with fail
  refine HQ6.out.mono ?_
  rintro e w6 ⟨rfl, d6⟩
  have HP6 := Lib.hid (HP5.out.kept (same_of_below d6))
  have HN6 := Lib.hid (HN5.out.kept (same_of_below d6))
  have HB6 : Hid (Below w.heap.size w w6) := Lib.hid (HB5.out.trans (d6.mono HB5.out.size))
  have L6 := Lib.hid (laid_stays L5.out d6)
  clear HP5 HN5 HB5 L5 d6 HQ6
  have hq7 := specVmDeep a ds.length c ds w6 HP6.out HSM.out (by omega)
  unfold DeepP at hq7
  rw [HDP.out] at hq7
  have HQ7 := Lib.hid hq7
  clear hq7
  go_wp2_with fail
  refine HQ7.out.mono ?_
  rintro e w7 ⟨rfl, d7⟩
  have HP7 := Lib.hid (HP6.out.kept (same_of_below d7))
  have HN7 := Lib.hid (HN6.out.kept (same_of_below d7))
  have HB7 : Hid (Below w.heap.size w w7) := Lib.hid (HB6.out.trans (d7.mono HB6.out.size))
  have L7 := Lib.hid (laid_stays L6.out d7)
  clear HP6 HN6 HB6 L6 d7 HQ7
  have hq8 := specVmOk a ds.length c ds w7 HP7.out HSM.out (by omega)
  unfold OkVP at hq8
  rw [HOKE.out] at hq8
  have HQ8 := Lib.hid hq8
  clear hq8
  go_wp2_with fail
  refine HQ8.out.mono ?_
  rintro e w8 ⟨rfl, d8⟩
  have HP8 := Lib.hid (HP7.out.kept (same_of_below d8))
  have HN8 := Lib.hid (HN7.out.kept (same_of_below d8))
  have HB8 : Hid (Below w.heap.size w w8) := Lib.hid (HB7.out.trans (d8.mono HB7.out.size))
  have L8 := Lib.hid (laid_stays L7.out d8)
  clear HP7 HN7 HB7 L7 d8 HQ8
  cases ok with
  | false =>
    have hno : ¬ OkV ds := by simpa using HOKE.out
    have hr := HR.out
    rw [vmRun_no (fun k => hno k.1)] at hr
    obtain ⟨rfl, rfl, rfl⟩ : 0 = v ∧ 4 = k ∧ 0 = u := by simpa using hr
    have hd := HDP.out
    unfold deepV at hd
    rw [if_neg hno] at hd
    subst hd
    clear hno hr
    go_wp2
    go_ret
    exact ⟨rfl, HB8.out⟩
  | true =>
    have hyes : OkV ds := by simpa using HOKE.out
    have he := ends_facts ds ns fu hyes
    rw [HR.out] at he
    dsimp only at he
    have hdd := deep_in hyes
    rw [HDP.out] at hdd
    have hM := implMoneyOk v w8
    rw [he.1] at hM
    have HM := Lib.hid hM
    have hW := fun W => wsInV dp 1 12 W
    rw [decide_eq_true hdd.1, decide_eq_true hdd.2] at hW
    have HW := Lib.hid hW
    have he2 := he.2
    clear hM hW hdd he hyes
    rcases he2 with rfl | rfl
    · go_wp2_with fail
      refine HM.out.mono ?_
      rintro e w9 ⟨rfl, hw9⟩
      subst w9
      go_wp2_with fail
      refine (HW.out _).mono ?_
      rintro e wa ⟨rfl, hwa⟩
      subst wa
      go_wp2
      go_ret
      exact ⟨rfl, HB8.out⟩
    · cases hk : (k == 0) with
      | true =>
        go_wp2_with fail
        refine HM.out.mono ?_
        rintro e w9 ⟨rfl, hw9⟩
        subst w9
        go_wp2_with fail
        refine (HW.out _).mono ?_
        rintro e wa ⟨rfl, hwa⟩
        subst wa
        go_wp2
        go_ret
        exact ⟨rfl, HB8.out⟩
      | false =>
        go_wp2_with fail
        refine HM.out.mono ?_
        rintro e w9 ⟨rfl, hw9⟩
        subst w9
        go_wp2_with fail
        refine (HW.out _).mono ?_
        rintro e wa ⟨rfl, hwa⟩
        subst wa
        go_wp2
        go_ret
        exact ⟨rfl, HB8.out⟩

end Go.Proofs.YtjphjnopdlfplaaGreatDoor
