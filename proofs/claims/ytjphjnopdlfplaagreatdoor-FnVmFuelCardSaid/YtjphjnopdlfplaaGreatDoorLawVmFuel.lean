/-
  The law FnVmFuel's own walk (P18).
-/
import Derived.Test.YtjphjnopdlfplaaGreatDoorDrawVm
import Derived.Test.YtjphjnopdlfplaaGreatDoorVmRunB
namespace Go.Proofs.YtjphjnopdlfplaaGreatDoor
open Go.RowKit
set_option linter.unusedVariables false
set_option linter.unusedSimpArgs false

set_option maxHeartbeats 1000000 in
theorem wsInV (x a b : Int) (w : World) : Calls Tryz.prog 30 #[.int .i64 x, .int .i64 a, .int .i64 b] w fun e w' => e = .returned (.bool (decide (a ≤ x) && decide (x ≤ b))) ∧ w' = w := by
  rcases Int.lt_or_le x a with c | c
  · have z : decide (a ≤ x) = false := decide_eq_false (by omega)
    rw [z]
    go_enter Tryz.func30, Tryz.ntmps30
    go_wp2
    go_ret
    exact ⟨rfl, rfl⟩
  · have z : decide (a ≤ x) = true := decide_eq_true c
    rw [z]
    generalize hb : decide (x ≤ b) = bb at *
    go_enter Tryz.func30, Tryz.ntmps30
    go_wp2
    go_ret
    exact ⟨rfl, rfl⟩
set_option maxRecDepth 20000 in
set_option maxHeartbeats 16000000 in
theorem lawVmFuel (a0 : Option Addr) (len0 cap0 : Nat) (z0 : List Int) (w : World) (w0 : IsRow .u8 w a0 len0 cap0 z0) (hL : Laid w) :
    Calls Tryz.prog 6 #[.slice a0 len0 cap0] w fun e w' => e = .returned (.bool true) ∧ Below w.heap.size w w' := by
  rcases Nat.lt_or_ge 1048576 len0 with hb0 | hb0
  · clear w0
    go_enter Tryz.func6, Tryz.ntmps6
    go_wp2
    go_ret
    exact ⟨rfl, Below.refl _ _⟩
  have hd := drawVmRun a0 len0 cap0 z0 w w0
  unfold DrawnVR at hd
  have HD := Lib.hid hd
  have HL := Lib.hid hL
  clear w0 hd hL
  go_enter Tryz.func6, Tryz.ntmps6
  go_wp2_with fail
  refine HD.out.mono ?_
  rintro e w1 ⟨a, n, c, ds, na, nl, nc, ns, fu, rfl, hn, hpl, hsm, hpp, hn6, hfu, d1⟩
  subst hn
  have h101 := hsm.1
  have HSM : Hid (∀ d ∈ ds, SmallP d) := Lib.hid hsm.small
  have HP1 := Lib.hid (codeW_pls hpl rfl)
  have HN1 := Lib.hid hpp
  have HB1 := Lib.hid d1
  have HFU := Lib.hid hfu
  have L1 := Lib.hid (laid_stays HL.out d1)
  clear HD hpl hsm hpp d1 HL hfu
  obtain ⟨ok, hok⟩ : ∃ ok, decide (OkV ds) = ok := ⟨_, rfl⟩
  have HOKE := Lib.hid hok
  obtain ⟨r, hr⟩ : ∃ r, vmRunV ds ns fu = r := ⟨_, rfl⟩
  have HR := Lib.hid hr
  clear hok hr
  obtain ⟨v, k, u⟩ := r
  have hq2 := implVmRun a ds.length c ds ns na nl nc fu w1 HP1.out HSM.out (by omega) HN1.out (by omega) L1.out
  unfold VmP at hq2
  rw [HR.out] at hq2
  dsimp only at hq2
  have HQ2 := Lib.hid hq2
  clear hq2
  go_wp2_with fail
  refine HQ2.out.mono ?_
  rintro e w2 ⟨rfl, d2⟩
  have HP2 := Lib.hid (HP1.out.kept (same_of_below d2))
  have HN2 := Lib.hid (HN1.out.kept (same_of_below d2))
  have HB2 : Hid (Below w.heap.size w w2) := Lib.hid (HB1.out.trans (d2.mono HB1.out.size))
  have L2 := Lib.hid (laid_stays L1.out d2)
  clear HP1 HN1 HB1 L1 d2 HQ2
  have hq3 := specVmRun a ds.length c ds ns na nl nc fu w2 HP2.out HSM.out (by omega) HN2.out (by omega)
  unfold VmP at hq3
  rw [HR.out] at hq3
  dsimp only at hq3
  have HQ3 := Lib.hid hq3
  clear hq3
  go_wp2_with fail
  refine HQ3.out.mono ?_
  rintro e w3 ⟨rfl, d3⟩
  have HP3 := Lib.hid (HP2.out.kept (same_of_below d3))
  have HN3 := Lib.hid (HN2.out.kept (same_of_below d3))
  have HB3 : Hid (Below w.heap.size w w3) := Lib.hid (HB2.out.trans (d3.mono HB2.out.size))
  have L3 := Lib.hid (laid_stays L2.out d3)
  clear HP2 HN2 HB2 L2 d3 HQ3
  have g1 : (v != v) = false := by simp
  have g2 : (k != k) = false := by simp
  have g3 : (u != u) = false := by simp
  have g4 : (v == v) = true := by simp
  have g5 : (k == k) = true := by simp
  have g6 : (u == u) = true := by simp
  by_cases hk1 : k = 1
  · subst hk1
    go_wp2
    go_ret
    exact ⟨rfl, HB3.out⟩
  have hk1b : (k == 1) = false := by simpa using hk1
  have HK1 := Lib.hid hk1
  have hq4 := specVmOk a ds.length c ds w3 HP3.out HSM.out (by omega)
  unfold OkVP at hq4
  rw [HOKE.out] at hq4
  have HQ4 := Lib.hid hq4
  clear hq4
  go_wp2_with fail
  refine HQ4.out.mono ?_
  rintro e w4 ⟨rfl, d4⟩
  have HP4 := Lib.hid (HP3.out.kept (same_of_below d4))
  have HN4 := Lib.hid (HN3.out.kept (same_of_below d4))
  have HB4 : Hid (Below w.heap.size w w4) := Lib.hid (HB3.out.trans (d4.mono HB3.out.size))
  have L4 := Lib.hid (laid_stays L3.out d4)
  clear HP3 HN3 HB3 L3 d4 HQ4
  cases ok with
  | false =>
    go_wp2
    go_ret
    exact ⟨rfl, HB4.out⟩
  | true =>
    have hyes : OkV ds := by simpa using HOKE.out
    have HYES := Lib.hid hyes
    have hW := fun W => wsInV fu 0 1000 W
    by_cases hf : 0 ≤ fu ∧ fu ≤ 1000
    rotate_left
    · have z : (decide (0 ≤ fu) && decide (fu ≤ 1000)) = false := by
        rcases Int.lt_or_le fu 0 with c | c
        · rw [decide_eq_false (by omega)]; rfl
        · rw [decide_eq_false (p := fu ≤ 1000) (fun k => hf ⟨c, k⟩), Bool.and_false]
      rw [z] at hW
      have HW := Lib.hid hW
      clear hW hf z hyes
      go_wp2_with fail
      refine (HW.out _).mono ?_
      rintro e w5 ⟨rfl, hw5⟩
      subst w5
      go_wp2
      go_ret
      exact ⟨rfl, HB4.out⟩
    have z : (decide (0 ≤ fu) && decide (fu ≤ 1000)) = true := by rw [decide_eq_true hf.1, decide_eq_true hf.2]; rfl
    rw [z] at hW
    have HW := Lib.hid hW
    have hr := HR.out
    rw [vmRun_yes ⟨hyes, hf⟩] at hr
    obtain ⟨q1, q2, q3⟩ : (machV ns ds [] fu).v = v ∧ (machV ns ds [] fu).c = k ∧ fu - (machV ns ds [] fu).f = u := by simpa using hr
    have hF := vm_fuel ns hyes hf.1 hf.2 (by rw [q2]; exact hk1)
    rw [q1, q2, q3] at hF
    obtain ⟨f1, f2, f3⟩ := hF
    have hs := (mach_sok ns hyes hf.1).2.2.1
    have hu : 0 ≤ u ∧ u ≤ 1000 := by omega
    have F1 := Lib.hid f1
    have F2 := Lib.hid f2
    obtain ⟨r3, hr3⟩ : ∃ r3, vmRunV ds ns (u - 1) = r3 := ⟨_, rfl⟩
    rw [hr3] at f3
    have F3 := Lib.hid hr3
    obtain ⟨v3, k3, u3⟩ := r3
    dsimp only at f3
    have F4 := Lib.hid f3
    have eu : IntKind.i64.wrap (u - 1) = u - 1 := IntWalk.i64_in _ (by omega)
    clear hW hf z hyes hr q1 q2 q3 f1 f2 f3 hs hr3 hk1
    go_wp2_with fail
    refine (HW.out _).mono ?_
    rintro e w5 ⟨rfl, hw5⟩
    subst w5
    have hq6 := implVmRun a ds.length c ds ns na nl nc u w4 HP4.out HSM.out (by omega) HN4.out (by omega) L4.out
    unfold VmP at hq6
    rw [F1.out] at hq6
    dsimp only at hq6
    have HQ6 := Lib.hid hq6
    clear hq6
    go_wp2_with fail
    refine HQ6.out.mono ?_
    rintro e w6 ⟨rfl, d6⟩
    have HP6 := Lib.hid (HP4.out.kept (same_of_below d6))
    have HN6 := Lib.hid (HN4.out.kept (same_of_below d6))
    have HB6 : Hid (Below w.heap.size w w6) := Lib.hid (HB4.out.trans (d6.mono HB4.out.size))
    have L6 := Lib.hid (laid_stays L4.out d6)
    clear HP4 HN4 HB4 L4 d6 HQ6
    have hq7 := implVmRun a ds.length c ds ns na nl nc 1000 w6 HP6.out HSM.out (by omega) HN6.out (by omega) L6.out
    unfold VmP at hq7
    rw [F2.out] at hq7
    dsimp only at hq7
    have HQ7 := Lib.hid hq7
    clear hq7
    go_wp2_with fail
    refine HQ7.out.mono ?_
    rintro e w7 ⟨rfl, d7⟩
    have HP7 := Lib.hid (HP6.out.kept (same_of_below d7))
    have HN7 := Lib.hid (HN6.out.kept (same_of_below d7))
    have HB7 : Hid (Below w.heap.size w w7) := Lib.hid (HB6.out.trans (d7.mono HB6.out.size))
    have L7 := Lib.hid (laid_stays L6.out d7)
    clear HP6 HN6 HB6 L6 d7 HQ7
    have hq8 := implVmRun a ds.length c ds ns na nl nc (u - 1) w7 HP7.out HSM.out (by omega) HN7.out (by omega) L7.out
    unfold VmP at hq8
    rw [F3.out] at hq8
    dsimp only at hq8
    have HQ8 := Lib.hid hq8
    clear hq8
    go_wp2_with fail
    refine HQ8.out.mono ?_
    rintro e w8 ⟨rfl, d8⟩
    have HP8 := Lib.hid (HP7.out.kept (same_of_below d8))
    have HN8 := Lib.hid (HN7.out.kept (same_of_below d8))
    have HB8 : Hid (Below w.heap.size w w8) := Lib.hid (HB7.out.trans (d8.mono HB7.out.size))
    have L8 := Lib.hid (laid_stays L7.out d8)
    clear HP7 HN7 HB7 L7 d8 HQ8

    by_cases hu0 : u = 0
    · subst hu0
      go_wp2
      go_ret
      exact ⟨rfl, HB8.out⟩
    · have hub : (u == 0) = false := by simpa using hu0
      have hk3 : k3 = 1 := F4.out.resolve_left hu0
      subst hk3
      clear hu0
      go_wp2
      go_ret
      exact ⟨rfl, HB8.out⟩

end Go.Proofs.YtjphjnopdlfplaaGreatDoor
