/-
  A program is run: the model's side.
-/
import Derived.Test.YtjphjnopdlfplaaGreatDoorJ51
import Derived.Test.YtjphjnopdlfplaaGreatDoorJ34
import Derived.Test.YtjphjnopdlfplaaGreatDoorJ43
import Derived.Test.YtjphjnopdlfplaaGreatDoorAppSrc
namespace Go.Proofs.YtjphjnopdlfplaaGreatDoor
open Go.RowKit
set_option linter.unusedVariables false
set_option linter.unusedSimpArgs false

set_option maxHeartbeats 4000000 in
theorem specCost (o n : Int) (s : ByteArray) (ma : Option Addr) (mc : Nat) (ms : List (Int × Int)) (w : World) (hm : ms.length ≤ 1048576) :
    Calls Tryz.prog 63 #[.agg #[.int .i64 o, .int .i64 n, .string s, .slice ma ms.length mc]] w fun e w' => e = .returned (.int .i64 (costP ⟨o, n, s, ms⟩)) ∧ Below w.heap.size w w' := by
  have em : IntKind.i64.wrap (1 + (ms.length : Int)) = 1 + (ms.length : Int) := IntWalk.i64_in _ (by omega)
  by_cases h : o = 11
  · subst h
    go_enter Tryz.func63, Tryz.ntmps63
    go_wp2
    go_ret
    exact ⟨rfl, (Below.refl _ _).alloc (Nat.le_refl _) _⟩
  · have z : (o == 11) = false := by simpa using h
    have hc : costP ⟨o, n, s, ms⟩ = 1 + ms.length := by unfold costP; rw [if_neg h]
    rw [hc]
    clear h hc
    go_enter Tryz.func63, Tryz.ntmps63
    go_wp2
    go_ret
    exact ⟨rfl, (Below.refl _ _).alloc (Nat.le_refl _) _⟩
set_option maxRecDepth 20000 in
set_option maxHeartbeats 16000000 in
theorem specDo (o n : Int) (s : ByteArray) (ma : Option Addr) (mc : Nat) (ms : List (Int × Int)) (ns : List (ByteArray × Int)) (na : Option Addr) (nl nc : Nat) (a : Option Addr) (m cp : Nat) (vs : List Int) (w : World)
    (h9 : o ≠ 9) (hin : 1 ≤ o ∧ o ≤ 10) (hH : HoldsN o n s ms) (hlk : (vs.length : Int) = kidsN o) (hv : ∀ x ∈ vs, okB x = true) (hi : IntsN All w a m vs) (hm : MarksN All w ma ms.length ms) (hp : PairsN All w na nl ns) (hl : nl ≤ 1048576) :
    Calls Tryz.prog 65 #[.agg #[.int .i64 o, .int .i64 n, .string s, .slice ma ms.length mc], .slice na nl nc, .slice a m cp] w (SaysP (doR ns o n s ms vs) w) := by
  have hA : Below w.heap.size w (w.alloc (.cells #[.int .i64 o, .int .i64 n, .string s, .slice ma ms.length mc] 55)) := (Below.refl _ _).alloc (Nat.le_refl _) _
  have hArg : (w.alloc (.cells #[.int .i64 o, .int .i64 n, .string s, .slice ma ms.length mc] 55)).heap[w.heap.size]? = some (.cells #[.int .i64 o, .int .i64 n, .string s, .slice ma ms.length mc] 55 (0, 0)) := heap_alloc_new w _
  have HAM : Hid (∀ i, Amt (vs.getD i 0)) := fun i => okB_yes (getD_ok hv i)
  have HI := Lib.hid (hi.kept (same_of_below hA))
  have HM := Lib.hid (hm.kept (same_of_below hA))
  have HP := Lib.hid (hp.kept (same_of_below hA))
  have HA := Lib.hid hA
  have HArg := Lib.hid hArg
  have HLK := Lib.hid hlk
  have HH := Lib.hid hH
  have H9 := Lib.hid h9
  have HML : Hid (m = vs.length) := hi.1
  clear hA hArg hi hm hp hlk hH hv
  unfold SaysP
  generalize hr : doR ns o n s ms vs = r at *
  have HR := Lib.hid hr
  clear hr
  obtain ⟨v, c⟩ := r
  dsimp only
  go_enter Tryz.func65, Tryz.ntmps65
  go_upto_region 1 with fail
  generalize hW0 : (w.alloc (.cells #[.int .i64 o, .int .i64 n, .string s, .slice ma ms.length mc] 55)) = W0 at *
  clear hW0
  have sz0 : w.heap.size < W0.heap.size := (Array.getElem?_eq_some_iff.1 HArg.out).1
  have ca0 : W0.cell? ⟨w.heap.size, 0, none⟩ = some (Value.int .i64 o) := by rw [Lib.cell_of_heap HArg.out]; rfl
  have ca1 : W0.cell? ⟨w.heap.size, 1, none⟩ = some (Value.int .i64 n) := by rw [Lib.cell_of_heap HArg.out]; rfl
  have ca2 : W0.cell? ⟨w.heap.size, 2, none⟩ = some (Value.string s) := by rw [Lib.cell_of_heap HArg.out]; rfl
  have ca3 : W0.cell? ⟨w.heap.size, 3, none⟩ = some (Value.slice ma ms.length mc) := by rw [Lib.cell_of_heap HArg.out]; rfl
  clear h9
  by_cases h1 : o = 1
  · subst h1
    have HD : Hid ((n, (0 : Int)) = (v, c)) := HR.out
    go_wp2
    go_ret2
    refine ⟨?_, HA.out⟩
    obtain ⟨q1, q2⟩ : n = v ∧ (0 : Int) = c := by simpa using HD.out
    rw [← q1, ← q2]
    rfl
  by_cases h2 : o = 2
  · subst h2
    have HD : Hid (varV ns s = (v, c)) := HR.out
    have hC := specVar na nl nc ns s W0 HP.out hl
    rw [HD.out] at hC
    dsimp only at hC
    have hC := Lib.hid hC
    go_wp2_with fail
    refine hC.out.mono ?_
    rintro e w1 ⟨rfl, rfl⟩
    go_wp2
    go_ret2
    exact ⟨rfl, HA.out⟩
  have b1 : (o == 1) = false := by simpa using h1
  have b2 : (o == 2) = false := by simpa using h2
  have hpos : 0 < m := by
    have hlk := HLK.out
    have := HML.out
    unfold kidsN at hlk
    repeat (split at hlk; · omega)
    omega
  obtain ⟨bb, off, rfl, hbl, hcs⟩ := HI.out.cells hpos
  have x0 := hcs 0 hpos
  rw [Nat.add_zero] at x0
  have i0 : (0 : Int) < m := by omega
  by_cases h6 : o = 6
  · subst h6
    have hk3 : m = 3 := by have e : kidsN 6 = 3 := rfl; have := HLK.out; have := HML.out; omega
    subst hk3
    have x1 := hcs 1 (by omega)
    have x2 := hcs 2 (by omega)
    have HD : Hid (partW (vs.getD 0 0) (vs.getD 1 0) (vs.getD 2 0) = (v, c)) := HR.out
    have hC := fun W => specPartW (vs.getD 0 0) (vs.getD 1 0) (vs.getD 2 0) W
    rw [HD.out] at hC
    dsimp only at hC
    have hC := Lib.hid hC
    clear HD HR
    generalize vs.getD 0 0 = v0 at *
    generalize vs.getD 1 0 = v1 at *
    generalize vs.getD 2 0 = v2 at *
    clear hcs
    go_wp2_with fail
    go_quiet (first | (go_at_call 91; exact Calls.quiet_of_same (hC.out _)))
    go_wp2
    go_ret2
    exact ⟨rfl, HA.out.trans (belowN (Below.mono (Below.refl _ _) (Nat.le_refl _)) nq)⟩
  have b6 : (o == 6) = false := by simpa using h6
  by_cases h10 : o = 10
  · subst h10
    have hk1 : m = 1 := by have e : kidsN 10 = 1 := rfl; have := HLK.out; have := HML.out; omega
    subst hk1
    have hmo : MOk (mF ms) (mP ms) ms.length := by have := HH.out; unfold HoldsN at this; rw [if_neg (by decide), if_neg (by decide), if_pos rfl] at this; exact this.2.2
    have ham := HAM.out 0
    have HD : Hid (tierV ms (vs.getD 0 0) = (v, c)) := HR.out
    clear HR
    generalize vs.getD 0 0 = v0 at *
    clear hcs
    rcases Int.lt_or_le v0 0 with c0 | c0
    · have z0 : decide (v0 < 0) = true := decide_eq_true c0
      have HT : Hid (((0 : Int), (2 : Int)) = (v, c)) := by show _ = _; rw [← HD.out, tierV, if_pos c0]
      go_wp2
      go_ret2
      refine ⟨?_, HA.out⟩
      obtain ⟨q1, q2⟩ : (0 : Int) = v ∧ (2 : Int) = c := by simpa using HT.out
      rw [← q1, ← q2]
      rfl
    · have z0 : decide (v0 < 0) = false := decide_eq_false (by omega)
      have cC : ∀ dd os, Calls Tryz.prog 92 #[.int .i64 v0, .slice ma ms.length mc] (Go.Sort.grow (redrawn W0 dd) os) fun e w'' => e = .returned (.tuple #[.int .i64 (tierV ms v0).1, .int .i64 (tierV ms v0).2]) ∧ ∃ p : Regrown, w'' = Go.Sort.grow (redrawn W0 p.d) p.os := fun dd os => Calls.regrown_of (specTierV ma mc ms v0 _ ((HM.out.kept (same_of_below (below_regrown W0 dd os)))) hmo c0 ham.2)
      rw [HD.out] at cC
      dsimp only at cC
      have r0 := cell_regrown x0
      have r4 := cell_regrown ca3
      have HMO := Lib.hid hmo
      clear hmo
      go_wp2_with fail
      refine wp_region_quiet_below (by kernel_rfl) (by kernel_rfl) ?_
      repeat (quiet_step (first | exact cC _ _))
      refine wpQuiet_nil ?_
      intro _ hw'
      obtain ⟨⟨dq, osq⟩, hw''⟩ := hw'
      subst hw''
      go_wp2
      go_ret2
      exact ⟨rfl, HA.out.trans ((below_regrown W0 dq osq).mono HA.out.size)⟩
  have b10 : (o == 10) = false := by simpa using h10
  have ho38 : 3 ≤ o ∧ o ≤ 8 ∧ o ≠ 6 := by have := H9.out; omega
  have hk2 : m = 2 := by
    have e : kidsN o = 2 := by unfold kidsN; rw [if_neg (by omega), if_neg (by omega), if_neg (by omega), if_neg (by omega), if_pos (by omega)]
    have := HLK.out
    have := HML.out
    omega
  subst hk2
  have x1 := hcs 1 (by omega)
  have HD : Hid (twoV o (vs.getD 0 0) (vs.getD 1 0) = (v, c)) := by show _ = _; rw [← HR.out]; unfold doR; rw [if_neg h1, if_neg h2, if_neg h6, if_neg h10]
  have hC := fun W => specTwo o (vs.getD 0 0) (vs.getD 1 0) W ho38 (HAM.out 0) (HAM.out 1)
  rw [HD.out] at hC
  dsimp only at hC
  have hC := Lib.hid hC
  clear HD HR
  generalize vs.getD 0 0 = v0 at *
  generalize vs.getD 1 0 = v1 at *
  clear hcs h1 h2 h6 h10 ho38
  go_wp2_with fail
  go_quiet (first | (go_at_call 93; exact Calls.quiet_of_same (hC.out _)))
  go_wp2
  go_ret2
  exact ⟨rfl, HA.out.trans (belowN (Below.mono (Below.refl _ _) (Nat.le_refl _)) nq)⟩
end Go.Proofs.YtjphjnopdlfplaaGreatDoor
