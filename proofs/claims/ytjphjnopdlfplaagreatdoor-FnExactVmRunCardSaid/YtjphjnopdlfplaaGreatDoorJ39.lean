/-
  A program is run: the model's side.
  A program is run, place by place: the model's answer.
  VmRun of both.
  The law FnExactVmRun's own walk.
-/
import Derived.Test.YtjphjnopdlfplaaGreatDoorJ30
import Derived.Test.YtjphjnopdlfplaaGreatDoorJ24
import Derived.Test.YtjphjnopdlfplaaGreatDoorJ38
import Derived.Test.YtjphjnopdlfplaaGreatDoorAppSrc
import Derived.Test.YtjphjnopdlfplaaGreatDoorVmRunI
import Derived.Test.YtjphjnopdlfplaaGreatDoorJ37
import Derived.Test.YtjphjnopdlfplaaGreatDoorJ11
namespace Go.Proofs.YtjphjnopdlfplaaGreatDoor
open Go.RowKit
set_option linter.unusedVariables false
set_option linter.unusedSimpArgs false

set_option maxHeartbeats 4000000 in
theorem specCost (o n : Int) (s : ByteArray) (ma : Option Addr) (mc : Nat) (ms : List (Int × Int)) (w : World) (hm : ms.length ≤ 1048576) :
    Calls Tryz.prog 63 #[.agg #[.int .i64 o, .int .i64 n, .string s, .slice ma ms.length mc]] w fun e w' => e = .returned (.int .i64 (costP ⟨o, n, s, ms⟩)) ∧ Below w.heap.size w w' := by
  have em : IntKind.i64.wrap (1 + (ms.length : Int)) = 1 + (ms.length : Int) := IntWalk.i64_in _ (by omega)
  by_cases h : o = 11
  · subst h
    go_enter Tryz.func63, Tryz.ntmps63
    go_wp2
    go_ret
    exact ⟨rfl, (Below.refl _ _).alloc (Nat.le_refl _) _⟩
  · have z : (o == 11) = false := by simpa using h
    have hc : costP ⟨o, n, s, ms⟩ = 1 + ms.length := by unfold costP; rw [if_neg h]
    rw [hc]
    clear h hc
    go_enter Tryz.func63, Tryz.ntmps63
    go_wp2
    go_ret
    exact ⟨rfl, (Below.refl _ _).alloc (Nat.le_refl _) _⟩
set_option maxRecDepth 20000 in
set_option maxHeartbeats 16000000 in
theorem specDo (o n : Int) (s : ByteArray) (ma : Option Addr) (mc : Nat) (ms : List (Int × Int)) (ns : List (ByteArray × Int)) (na : Option Addr) (nl nc : Nat) (a : Option Addr) (m cp : Nat) (vs : List Int) (w : World)
    (h9 : o ≠ 9) (hin : 1 ≤ o ∧ o ≤ 10) (hH : HoldsN o n s ms) (hlk : (vs.length : Int) = kidsN o) (hv : ∀ x ∈ vs, okB x = true) (hi : IntsN All w a m vs) (hm : MarksN All w ma ms.length ms) (hp : PairsN All w na nl ns) (hl : nl ≤ 1048576) :
    Calls Tryz.prog 65 #[.agg #[.int .i64 o, .int .i64 n, .string s, .slice ma ms.length mc], .slice na nl nc, .slice a m cp] w (SaysP (doR ns o n s ms vs) w) := by
  have hA : Below w.heap.size w (w.alloc (.cells #[.int .i64 o, .int .i64 n, .string s, .slice ma ms.length mc] 55)) := (Below.refl _ _).alloc (Nat.le_refl _) _
  have hArg : (w.alloc (.cells #[.int .i64 o, .int .i64 n, .string s, .slice ma ms.length mc] 55)).heap[w.heap.size]? = some (.cells #[.int .i64 o, .int .i64 n, .string s, .slice ma ms.length mc] 55 (0, 0)) := heap_alloc_new w _
  have HAM : Hid (∀ i, Amt (vs.getD i 0)) := fun i => okB_yes (getD_ok hv i)
  have HI := Lib.hid (hi.kept (same_of_below hA))
  have HM := Lib.hid (hm.kept (same_of_below hA))
  have HP := Lib.hid (hp.kept (same_of_below hA))
  have HA := Lib.hid hA
  have HArg := Lib.hid hArg
  have HLK := Lib.hid hlk
  have HH := Lib.hid hH
  have H9 := Lib.hid h9
  have HML : Hid (m = vs.length) := hi.1
  clear hA hArg hi hm hp hlk hH hv
  unfold SaysP
  generalize hr : doR ns o n s ms vs = r at *
  have HR := Lib.hid hr
  clear hr
  obtain ⟨v, c⟩ := r
  dsimp only
  go_enter Tryz.func65, Tryz.ntmps65
  go_upto_region 1 with fail
  generalize hW0 : (w.alloc (.cells #[.int .i64 o, .int .i64 n, .string s, .slice ma ms.length mc] 55)) = W0 at *
  clear hW0
  have sz0 : w.heap.size < W0.heap.size := (Array.getElem?_eq_some_iff.1 HArg.out).1
  have ca0 : W0.cell? ⟨w.heap.size, 0, none⟩ = some (Value.int .i64 o) := by rw [Lib.cell_of_heap HArg.out]; rfl
  have ca1 : W0.cell? ⟨w.heap.size, 1, none⟩ = some (Value.int .i64 n) := by rw [Lib.cell_of_heap HArg.out]; rfl
  have ca2 : W0.cell? ⟨w.heap.size, 2, none⟩ = some (Value.string s) := by rw [Lib.cell_of_heap HArg.out]; rfl
  have ca3 : W0.cell? ⟨w.heap.size, 3, none⟩ = some (Value.slice ma ms.length mc) := by rw [Lib.cell_of_heap HArg.out]; rfl
  clear h9
  by_cases h1 : o = 1
  · subst h1
    have HD : Hid ((n, (0 : Int)) = (v, c)) := HR.out
    go_wp2
    go_ret2
    refine ⟨?_, HA.out⟩
    obtain ⟨q1, q2⟩ : n = v ∧ (0 : Int) = c := by simpa using HD.out
    rw [← q1, ← q2]
    rfl
  by_cases h2 : o = 2
  · subst h2
    have HD : Hid (varV ns s = (v, c)) := HR.out
    have hC := specVar na nl nc ns s W0 HP.out hl
    rw [HD.out] at hC
    dsimp only at hC
    have hC := Lib.hid hC
    go_wp2_with fail
    refine hC.out.mono ?_
    rintro e w1 ⟨rfl, rfl⟩
    go_wp2
    go_ret2
    exact ⟨rfl, HA.out⟩
  have b1 : (o == 1) = false := by simpa using h1
  have b2 : (o == 2) = false := by simpa using h2
  have hpos : 0 < m := by
    have hlk := HLK.out
    have := HML.out
    unfold kidsN at hlk
    repeat (split at hlk; · omega)
    omega
  obtain ⟨bb, off, rfl, hbl, hcs⟩ := HI.out.cells hpos
  have x0 := hcs 0 hpos
  rw [Nat.add_zero] at x0
  have i0 : (0 : Int) < m := by omega
  by_cases h6 : o = 6
  · subst h6
    have hk3 : m = 3 := by have e : kidsN 6 = 3 := rfl; have := HLK.out; have := HML.out; omega
    subst hk3
    have x1 := hcs 1 (by omega)
    have x2 := hcs 2 (by omega)
    have HD : Hid (partW (vs.getD 0 0) (vs.getD 1 0) (vs.getD 2 0) = (v, c)) := HR.out
    have hC := fun W => specPartW (vs.getD 0 0) (vs.getD 1 0) (vs.getD 2 0) W
    rw [HD.out] at hC
    dsimp only at hC
    have hC := Lib.hid hC
    clear HD HR
    generalize vs.getD 0 0 = v0 at *
    generalize vs.getD 1 0 = v1 at *
    generalize vs.getD 2 0 = v2 at *
    clear hcs
    go_wp2_with fail
    go_quiet (first | (go_at_call 91; exact Calls.quiet_of_same (hC.out _)))
    go_wp2
    go_ret2
    exact ⟨rfl, HA.out.trans (belowN (Below.mono (Below.refl _ _) (Nat.le_refl _)) nq)⟩
  have b6 : (o == 6) = false := by simpa using h6
  by_cases h10 : o = 10
  · subst h10
    have hk1 : m = 1 := by have e : kidsN 10 = 1 := rfl; have := HLK.out; have := HML.out; omega
    subst hk1
    have hmo : MOk (mF ms) (mP ms) ms.length := by have := HH.out; unfold HoldsN at this; rw [if_neg (by decide), if_neg (by decide), if_pos rfl] at this; exact this.2.2
    have ham := HAM.out 0
    have HD : Hid (tierV ms (vs.getD 0 0) = (v, c)) := HR.out
    clear HR
    generalize vs.getD 0 0 = v0 at *
    clear hcs
    rcases Int.lt_or_le v0 0 with c0 | c0
    · have z0 : decide (v0 < 0) = true := decide_eq_true c0
      have HT : Hid (((0 : Int), (2 : Int)) = (v, c)) := by show _ = _; rw [← HD.out, tierV, if_pos c0]
      go_wp2
      go_ret2
      refine ⟨?_, HA.out⟩
      obtain ⟨q1, q2⟩ : (0 : Int) = v ∧ (2 : Int) = c := by simpa using HT.out
      rw [← q1, ← q2]
      rfl
    · have z0 : decide (v0 < 0) = false := decide_eq_false (by omega)
      have cC : ∀ dd os, Calls Tryz.prog 92 #[.int .i64 v0, .slice ma ms.length mc] (Go.Sort.grow (redrawn W0 dd) os) fun e w'' => e = .returned (.tuple #[.int .i64 (tierV ms v0).1, .int .i64 (tierV ms v0).2]) ∧ ∃ p : Regrown, w'' = Go.Sort.grow (redrawn W0 p.d) p.os := fun dd os => Calls.regrown_of (specTierV ma mc ms v0 _ ((HM.out.kept (same_of_below (below_regrown W0 dd os)))) hmo c0 ham.2)
      rw [HD.out] at cC
      dsimp only at cC
      have r0 := cell_regrown x0
      have r4 := cell_regrown ca3
      have HMO := Lib.hid hmo
      clear hmo
      go_wp2_with fail
      refine wp_region_quiet_below (by kernel_rfl) (by kernel_rfl) ?_
      repeat (quiet_step (first | exact cC _ _))
      refine wpQuiet_nil ?_
      intro _ hw'
      obtain ⟨⟨dq, osq⟩, hw''⟩ := hw'
      subst hw''
      go_wp2
      go_ret2
      exact ⟨rfl, HA.out.trans ((below_regrown W0 dq osq).mono HA.out.size)⟩
  have b10 : (o == 10) = false := by simpa using h10
  have ho38 : 3 ≤ o ∧ o ≤ 8 ∧ o ≠ 6 := by have := H9.out; omega
  have hk2 : m = 2 := by
    have e : kidsN o = 2 := by unfold kidsN; rw [if_neg (by omega), if_neg (by omega), if_neg (by omega), if_neg (by omega), if_pos (by omega)]
    have := HLK.out
    have := HML.out
    omega
  subst hk2
  have x1 := hcs 1 (by omega)
  have HD : Hid (twoV o (vs.getD 0 0) (vs.getD 1 0) = (v, c)) := by show _ = _; rw [← HR.out]; unfold doR; rw [if_neg h1, if_neg h2, if_neg h6, if_neg h10]
  have hC := fun W => specTwo o (vs.getD 0 0) (vs.getD 1 0) W ho38 (HAM.out 0) (HAM.out 1)
  rw [HD.out] at hC
  dsimp only at hC
  have hC := Lib.hid hC
  clear HD HR
  generalize vs.getD 0 0 = v0 at *
  generalize vs.getD 1 0 = v1 at *
  clear hcs h1 h2 h6 h10 ho38
  go_wp2_with fail
  go_quiet (first | (go_at_call 93; exact Calls.quiet_of_same (hC.out _)))
  go_wp2
  go_ret2
  exact ⟨rfl, HA.out.trans (belowN (Below.mono (Below.refl _ _) (Nat.le_refl _)) nq)⟩
end Go.Proofs.YtjphjnopdlfplaaGreatDoor

namespace Go.Proofs.YtjphjnopdlfplaaGreatDoor
open Go.RowKit
set_option linter.unusedVariables false
set_option linter.unusedSimpArgs false

theorem src_own {w : World} {base g m c r : Nat} {st : List Int} (h : w.ownsRow base 3 1 (.slice (some ⟨g, 0, none⟩) m c) m (st.map (Value.int .i64))) (hr : r ≤ m) : Src w (some ⟨g, 0, none⟩) r 1 ((st.take r).map (Value.int .i64)) := by
  have hl : m = st.length := by have := h.1; simpa using this.symm
  refine ⟨by rw [List.length_map, List.length_take]; omega, fun _ => ⟨_, rfl, fun j u hj => ?_⟩⟩
  have hjr : j < r := by have := (List.getElem?_eq_some_iff.1 hj).1; rw [List.length_map, List.length_take] at this; omega
  rw [addA, Nat.zero_add, h.cellAt j (by omega)]
  rw [List.getElem?_map, List.getElem?_take_of_lt hjr, ← List.getElem?_map] at hj
  exact hj
theorem app_done {wz : World} {base r x y : Nat} {v : Value} {l : List Value} (h : wz.ownsRow base 3 1 v (0 + r) ([] ++ l)) (hat : v.ownBlock = (Value.slice (some ⟨x, 0, none⟩) 0 0).ownBlock ∨ v.ownBlock = some y) : ∃ g c, v = .slice (some ⟨g, 0, none⟩) r c ∧ wz.ownsRow base 3 1 (.slice (some ⟨g, 0, none⟩) r c) r l := by
  rw [Nat.zero_add, List.nil_append] at h
  obtain ⟨g, c, rfl⟩ := own_formV h (by rcases hat with e | e <;> (rw [e]; simp [Value.ownBlock]))
  exact ⟨g, c, rfl, h⟩
set_option maxRecDepth 20000 in
set_option maxHeartbeats 16000000 in
theorem specRun (a : Option Addr) (n cap : Nat) (ds : List Pl) (ns : List (ByteArray × Int)) (na : Option Addr) (nl nc : Nat) (fu : Int) (w : World) (h : PlsN All w a n ds) (hsm : ∀ d ∈ ds, SmallP d) (hok : OkV ds) (hp : PairsN All w na nl ns) (hnl : nl ≤ 1048576) (f0 : 0 ≤ fu) (f1 : fu ≤ 1000) :
    Calls Tryz.prog 35 #[.slice a n cap, .slice na nl nc, .int .i64 fu] w fun e w' => e = .returned (.tuple #[.int .i64 (machV ns ds [] fu).v, .int .i64 (machV ns ds [] fu).c, .int .i64 (fu - (machV ns ds [] fu).f)]) ∧ Below w.heap.size w w' := by
  obtain ⟨it0, hi, hz0, hz1, hz2⟩ := info_parts infoIntV
  obtain ⟨hs, hhs, hway⟩ := okV_way hok
  have HIN := Lib.hid (heightsV_in hhs)
  have HW := Lib.hid hway
  have H := Lib.hid h
  have HSM := Lib.hid hsm
  have HP := Lib.hid hp
  have HN : Hid (n = ds.length) := h.1
  have HR0 := Lib.hid (run_first (ns := ns) (fu := fu) hway)
  have n80 : n ≤ 80 := by have := hok.1; have := HN.out; omega
  clear h hsm hok hp hhs hway
  obtain ⟨mv, hmv⟩ : ∃ mv, machV ns ds [] fu = mv := ⟨_, rfl⟩
  rw [hmv]
  have HMV := Lib.hid hmv
  clear hmv
  obtain ⟨mvv, mvc, mvf⟩ := mv
  dsimp only
  go_enter Tryz.func35, Tryz.ntmps35
  go_wp2_with fail
  have hown0 : (w.alloc (.cells #[] 3)).ownsRow w.heap.size 3 1 (.slice (some ⟨w.heap.size, 0, none⟩) 0 0) 0 (([] : List Int).map (Value.int .i64)) := World.ownsRow_made w #[] 0 (Nat.le_refl _) (by unfold maxLen; omega) rfl
  have O0 := Lib.hid hown0
  have B0 : Hid (Below w.heap.size w (w.alloc (.cells #[] 3))) := Lib.hid ((Below.refl _ _).alloc (Nat.le_refl _) _)
  clear hown0
  generalize w.alloc (.cells #[] 3) = W0 at *
  go_loopw [9, 10, 11] (fun vh vu vi wr => ∃ (i m c g : Nat) (st : List Int) (u : Int), i ≤ n ∧ vi = .int .i64 i ∧ vu = .int .i64 u ∧ vh = .slice (some ⟨g, 0, none⟩) m c ∧ 0 ≤ u ∧ u ≤ fu ∧ Hid (wr.ownsRow w.heap.size 3 1 (.slice (some ⟨g, 0, none⟩) m c) m (st.map (Value.int .i64))) ∧ Hid (RunAt ds hs ns fu i st u) ∧ Hid (Below w.heap.size w wr)) (fun _ _ vi _ => n - (intOf vi).toNat)
  case atStart => exact ⟨0, 0, 0, w.heap.size, [], 0, Nat.zero_le _, rfl, rfl, rfl, Int.le_refl _, f0, O0, HR0, B0⟩
  case round =>
    obtain ⟨i, m, c, g, st, u, hin, rfl, rfl, rfl, u0, u1, hown, hrun, hb⟩ := hrel
    have HML : Hid (m = st.length) := Lib.hid (by have := hown.out.1; simpa using this.symm)
    have m12 : m ≤ 12 := by have := run_size HW.out HIN.out hrun.out; have := HML.out; omega
    have HCAP : Hid (m ≤ c) := Lib.hid (by
      rcases hown.out.2 with ⟨e, -⟩ | ⟨_, _, _, hv, _, _, k3, _⟩
      · cases e
      · obtain ⟨-, rfl⟩ : g = _ ∧ c = _ := by simpa using hv
        exact k3)
    have hgw : g < wr.heap.size := (hown.out.lt g rfl).2
    rcases Nat.lt_or_ge i n with hlt | hge
    · have hil : i < ds.length := by have := HN.out; omega
      have k1 : (i : Int) < n := by omega
      have k0 : (0 : Int) ≤ i := by omega
      obtain ⟨b, off, rfl, -, hbl, hrow⟩ := (H.out.kept (same_of_below (N := All) hb.out)).cells (by omega)
      obtain ⟨f, hcf, ht⟩ := hrow i hil
      obtain ⟨e1, e2, e3, hm, hc2⟩ := ht
      have hsmk := (HSM.out ds[i] (List.getElem_mem _)).2
      have hcin := costP_in ds[i]
      have FL : Hid (fu < u + costP ds[i] → machV ns ds [] fu = ⟨0, 1, fu - u⟩) := Lib.hid (run_lack hrun.out hil)
      have FS : Hid (u + costP ds[i] ≤ fu → ds[i].op = 11 → 0 ≤ ds[i].num ∧ i + 1 + ds[i].num.toNat ≤ ds.length ∧ RunAt ds hs ns fu (i + 1 + ds[i].num.toNat) st (u + costP ds[i])) := Lib.hid (run_skip HW.out hrun.out hil)
      have FT := Lib.hid (run_test HW.out hrun.out hil)
      have FD := Lib.hid (run_do HW.out hrun.out hil)
      generalize hd : ds[i] = d at *
      obtain ⟨o, nn, s, ms⟩ := d
      obtain ⟨fo, fn, fs, ma, ml, mc⟩ := f
      dsimp only at e1 e2 e3 hm hc2 hsmk hcin FL FS FT FD
      have q1 := e1.symm
      have q2 := e2.symm
      have q3 := e3.symm
      clear e1 e2 e3
      subst q1 q2 q3
      obtain rfl := hm.1
      have hC := Lib.hid (fun W => specCost o nn s ma mc ms W hsmk)
      have hT := fun W => specTakes o W
      generalize hcv : costP ⟨o, nn, s, ms⟩ = cv at *
      have HM := Lib.hid hm
      have hWA : Below wr.heap.size wr (wr.alloc (.cells #[.int .i64 o, .int .i64 nn, .string s, .slice ma ms.length mc] 55)) := (Below.refl _ _).alloc (Nat.le_refl _) _
      have hX : (wr.alloc (.cells #[.int .i64 o, .int .i64 nn, .string s, .slice ma ms.length mc] 55)).heap[wr.heap.size]? = some (.cells #[.int .i64 o, .int .i64 nn, .string s, .slice ma ms.length mc] 55 (0, 0)) := heap_alloc_new wr _
      have HX := Lib.hid hX
      have HWA := Lib.hid hWA
      have hw1 := hb.out.size
      obtain ⟨y0, y1, y2, y3⟩ := hcf
      dsimp only at y0 y1 y2 y3
      clear hrow hm hc2 hd hbl hWA hX hcv
      go_upto_region 6 with fail
      clear y0 y1 y2 y3
      generalize (wr.alloc (.cells #[.int .i64 o, .int .i64 nn, .string s, .slice ma ms.length mc] 55)) = W1 at *
      have hbx : wr.heap.size < W1.heap.size := (Array.getElem?_eq_some_iff.1 HX.out).1
      generalize hbxe : wr.heap.size = bx at *
      have HBE := Lib.hid hbxe
      clear hbxe
      have x0 : W1.cell? ⟨bx, 0, none⟩ = some (.int .i64 o) := by rw [Lib.cell_of_heap HX.out]; rfl
      have x1 : W1.cell? ⟨bx, 1, none⟩ = some (.int .i64 nn) := by rw [Lib.cell_of_heap HX.out]; rfl
      have x2 : W1.cell? ⟨bx, 2, none⟩ = some (.string s) := by rw [Lib.cell_of_heap HX.out]; rfl
      have x3 : W1.cell? ⟨bx, 3, none⟩ = some (.slice ma ms.length mc) := by rw [Lib.cell_of_heap HX.out]; rfl
      have em : IntKind.i64.wrap (u + cv) = u + cv := IntWalk.i64_in _ (by omega)
      have em2 : IntKind.i64.wrap (u + cv - cv) = u := (IntWalk.i64_in _ (by omega)).trans (by omega)
      have em3 : IntKind.i64.wrap u = u := IntWalk.i64_in _ (by omega)
      go_wp2_with fail
      refine (hC.out _).mono ?_
      rintro e W2 ⟨rfl, d2⟩
      clear x0 x1 x2 x3
      have x0 : W2.cell? ⟨bx, 0, none⟩ = some (.int .i64 o) := by rw [Lib.cell_of_heap ((d2.block bx hbx).trans HX.out)]; rfl
      have x1 : W2.cell? ⟨bx, 1, none⟩ = some (.int .i64 nn) := by rw [Lib.cell_of_heap ((d2.block bx hbx).trans HX.out)]; rfl
      have x2 : W2.cell? ⟨bx, 2, none⟩ = some (.string s) := by rw [Lib.cell_of_heap ((d2.block bx hbx).trans HX.out)]; rfl
      have x3 : W2.cell? ⟨bx, 3, none⟩ = some (.slice ma ms.length mc) := by rw [Lib.cell_of_heap ((d2.block bx hbx).trans HX.out)]; rfl
      have HWB : Hid (Below bx wr W2) := Lib.hid (HWA.out.trans (d2.mono (Nat.le_of_lt hbx)))
      have HWB0 : Hid (Below wr.heap.size wr W2) := Lib.hid (by rw [HBE.out]; exact HWB.out)
      have HB2 : Hid (Below w.heap.size w W2) := Lib.hid (hb.out.trans (HWB.out.mono hw1))
      rcases Int.lt_or_le fu (u + cv) with hf | hf
      · have z : decide (fu < u + cv) = true := decide_eq_true hf
        have HE := FL.out hf
        rw [HMV.out] at HE
        simp only [Said.mk.injEq] at HE
        have HE := Lib.hid HE
        clear FS FT FD hT
        go_wp2_with fail
        refine (hC.out _).mono ?_
        rintro e W3 ⟨rfl, d3⟩
        go_wp2
        go_ret3
        obtain ⟨rfl, rfl, rfl⟩ := HE.out
        refine ⟨?_, HB2.out.trans (d3.mono HB2.out.size)⟩
        show Ending.returned (.tuple #[.int .i64 0, .int .i64 1, .int .i64 u]) = _
        rw [show fu - (fu - u) = u from by omega]

      have z : decide (fu < u + cv) = false := decide_eq_false (by omega)
      by_cases h11 : o = 11
      · subst h11
        obtain ⟨q0, q1, RN⟩ := FS.out hf rfl
        obtain ⟨q, rfl⟩ : ∃ q : Nat, nn = (q : Int) := ⟨nn.toNat, by omega⟩
        rw [Int.toNat_natCast] at q1 RN
        have RN := Lib.hid RN
        have ej : IntKind.i64.wrap ((i : Int) + 1 + (q : Int)) = (i : Int) + 1 + (q : Int) := IntWalk.i64_in _ (by have := HN.out; omega)
        obtain ⟨k, hk0⟩ : ∃ k : Nat, k = 0 := ⟨0, rfl⟩
        have hk : (takesV 11).1 = (k : Int) := by rw [hk0]; rfl
        clear FS FT FD FL q0
        obtain ⟨r, hr⟩ : ∃ r : Nat, m = r + k := ⟨m - k, by omega⟩
        have er : IntKind.i64.wrap ((m : Int) - (k : Int)) = (r : Int) := (IntWalk.i64_in _ (by omega)).trans (by omega)
        have hmr : m - r = k := by omega
        have rm : (r : Int) ≤ (m : Int) := by omega
        have rcn : r ≤ c := by have := HCAP.out; omega
        have rc : (r : Int) ≤ (c : Int) := by omega
        have r0 : (0 : Int) ≤ (r : Int) := by omega
        have r12 : r ≤ 12 := by omega
        have HR := Lib.hid hr
        have hwz2 : w.heap.size ≤ W2.heap.size := HB2.out.size
        have hbx2 : bx < W2.heap.size := by have := d2.size; omega
        have SRC : Hid (∀ W, Below W2.heap.size W2 W → Src W (some ⟨g, 0, none⟩) r 1 ((st.take r).map (Value.int .i64))) := Lib.hid (fun W hW => src_own ((hown.out.kept (row := none) (grown_any HWB0.out) (Or.inr (fun e => by cases e))).kept (row := none) (grown_any hW) (Or.inr (fun e => by cases e))) (by omega))
        have ONE : Hid (∀ u ∈ (st.take r).map (Value.int .i64), u.oneCell' = true) := Lib.hid (fun u hu => by obtain ⟨x, -, rfl⟩ := List.mem_map.1 hu; rfl)
        have ei : IntKind.i64.wrap ((i : Int) + 1) = (i : Int) + 1 := IntWalk.i64_in _ (by omega)
        have TL : Hid (∀ ad, k = 0 ∨ ad = some ⟨g, r, none⟩ → IntsN All wr ad k (st.drop r)) := Lib.hid (fun ad had => ints_tail hown.out hr trivial had)
        clear hr
        rw [hk] at hT
        generalize (takesV 11).2 = gv at hT
        have HKZ := Lib.hid hk0
        clear hk0 hk
        go_wp2_with fail
        refine (hT _).mono ?_
        rintro e W3 ⟨rfl, hw3⟩
        subst W3
        by_cases hcr : c = r
        · subst hcr
          have HK0 : Hid (k = 0) := Lib.hid (by have := HR.out; have := HCAP.out; omega)
          have TI := Lib.hid (fun ad => TL.out ad (.inl HK0.out))
          clear HK0 TL
          go_wp2_with (at_builtin; refine wpList_append_src ?pb1 ?pbs ?pbx 71 ?pb2 w.heap.size 3 it0 (.int .i64 0) 1 8 ?pb3 ?pb4 ?pb5 ?pb6 ?pb7 ?pb8 ?pb9 (.slice (some ⟨W2.heap.size, 0, none⟩) 0 0) 0 [] ?pb10 ?pbh1 (some ⟨g, 0, none⟩) c c ((st.take c).map (Value.int .i64)) ?pb11 ?pbsrc ?pbh3 ?pbc2 ?pbc3 ?pbc4 ?_; (case pb1 => rfl); (case pb2 => rfl); (case pb10 => rfl); (case pb11 => rfl); (case pbh1 => exact World.ownsRow_made W2 #[] 0 hwz2 (by unfold maxLen; omega) rfl); (case pbsrc => exact SRC.out _ (Below.alloc (Below.refl _ _) (Nat.le_refl _) _)); (case pb3 => exact Tryz.underlying71); (case pb4 => exact hi); (case pb5 => exact hz0); (case pb6 => exact hz1); (case pb7 => exact hz2); (case pb8 => rfl); (case pb9 => decide); (case pbh3 => exact ONE.out); (case pbc2 => unfold maxLen; omega); (case pbc3 => omega); (case pbc4 => simp only [World.size_alloc]; omega); intro v3 wz hownZ hgrowZ hatZ; obtain ⟨g3, c3, rfl, hown3⟩ := app_done hownZ hatZ; have hbz : Below W2.heap.size W2 wz := (((Below.refl _ _).alloc (Nat.le_refl _) _).grown hgrowZ (by simp only [World.size_alloc]; omega) (fun k e => by simp [Value.ownBlock] at e; omega)); have z0 := (hbz.cell (p := ⟨bx, 0, none⟩) hbx2).trans x0; have z1 := (hbz.cell (p := ⟨bx, 1, none⟩) hbx2).trans x1; have z2 := (hbz.cell (p := ⟨bx, 2, none⟩) hbx2).trans x2; have z3 := (hbz.cell (p := ⟨bx, 3, none⟩) hbx2).trans x3; have O3 := Lib.hid hown3; have HBZ := Lib.hid hbz; clear hownZ hgrowZ hatZ hown3 hbz SRC)
          have HO : Hid (wz.ownsRow w.heap.size 3 1 (.slice (some ⟨g3, 0, none⟩) c c3) c (st.map (Value.int .i64))) := by
            have e : st.take c = st := List.take_of_length_le (by have := HR.out; have := HKZ.out; have := HML.out; omega)
            have := O3.out
            rw [e] at this
            exact this
          clear O3
          go_roundw
          case rel => exact ⟨i + 1 + q, c, c3, g3, st, u + cv, by have := HN.out; omega, by go_num, rfl, rfl, by omega, hf, HO, RN, Lib.hid (HB2.out.trans (HBZ.out.mono HB2.out.size))⟩
          case measure => simp [intOf]; omega
        · have TI := Lib.hid (TL.out _ (.inr rfl))
          clear TL
          go_wp2_with (at_builtin; refine wpList_append_src ?pc1 ?pcs ?pcx 71 ?pc2 w.heap.size 3 it0 (.int .i64 0) 1 8 ?pc3 ?pc4 ?pc5 ?pc6 ?pc7 ?pc8 ?pc9 (.slice (some ⟨W2.heap.size, 0, none⟩) 0 0) 0 [] ?pc10 ?pch1 (some ⟨g, 0, none⟩) r c ((st.take r).map (Value.int .i64)) ?pc11 ?pcsrc ?pch3 ?pcc2 ?pcc3 ?pcc4 ?_; (case pc1 => rfl); (case pc2 => rfl); (case pc10 => rfl); (case pc11 => rfl); (case pch1 => exact World.ownsRow_made W2 #[] 0 hwz2 (by unfold maxLen; omega) rfl); (case pcsrc => exact SRC.out _ (Below.alloc (Below.refl _ _) (Nat.le_refl _) _)); (case pc3 => exact Tryz.underlying71); (case pc4 => exact hi); (case pc5 => exact hz0); (case pc6 => exact hz1); (case pc7 => exact hz2); (case pc8 => rfl); (case pc9 => decide); (case pch3 => exact ONE.out); (case pcc2 => unfold maxLen; omega); (case pcc3 => omega); (case pcc4 => simp only [World.size_alloc]; omega); intro v3 wz hownZ hgrowZ hatZ; obtain ⟨g3, c3, rfl, hown3⟩ := app_done hownZ hatZ; have hbz : Below W2.heap.size W2 wz := (((Below.refl _ _).alloc (Nat.le_refl _) _).grown hgrowZ (by simp only [World.size_alloc]; omega) (fun k e => by simp [Value.ownBlock] at e; omega)); have z0 := (hbz.cell (p := ⟨bx, 0, none⟩) hbx2).trans x0; have z1 := (hbz.cell (p := ⟨bx, 1, none⟩) hbx2).trans x1; have z2 := (hbz.cell (p := ⟨bx, 2, none⟩) hbx2).trans x2; have z3 := (hbz.cell (p := ⟨bx, 3, none⟩) hbx2).trans x3; have O3 := Lib.hid hown3; have HBZ := Lib.hid hbz; clear hownZ hgrowZ hatZ hown3 hbz SRC)
          have HO : Hid (wz.ownsRow w.heap.size 3 1 (.slice (some ⟨g3, 0, none⟩) r c3) r (st.map (Value.int .i64))) := by
            have e : st.take r = st := List.take_of_length_le (by have := HR.out; have := HKZ.out; have := HML.out; omega)
            have := O3.out
            rw [e] at this
            exact this
          clear O3
          go_roundw
          case rel => exact ⟨i + 1 + q, r, c3, g3, st, u + cv, by have := HN.out; omega, by go_num, rfl, rfl, by omega, hf, HO, RN, Lib.hid (HB2.out.trans (HBZ.out.mono HB2.out.size))⟩
          case measure => simp [intOf]; omega

      by_cases h9 : o = 9
      · subst h9
        obtain ⟨q0, ⟨q1, q2⟩, RL, RM⟩ := FT.out hf rfl
        obtain ⟨q, rfl⟩ : ∃ q : Nat, nn = (q : Int) := ⟨nn.toNat, by omega⟩
        rw [Int.toNat_natCast] at q2 RM
        have RL := Lib.hid RL
        have RM := Lib.hid RM
        have ej : IntKind.i64.wrap ((i : Int) + 1 + (q : Int)) = (i : Int) + 1 + (q : Int) := IntWalk.i64_in _ (by have := HN.out; omega)
        obtain ⟨k, hk0⟩ : ∃ k : Nat, k = 2 := ⟨2, rfl⟩
        have hk : (takesV 9).1 = (k : Int) := by rw [hk0]; rfl
        have hkm : k ≤ m := by have := HML.out; omega
        clear FS FT FD FL q1
        obtain ⟨r, hr⟩ : ∃ r : Nat, m = r + k := ⟨m - k, by omega⟩
        have er : IntKind.i64.wrap ((m : Int) - (k : Int)) = (r : Int) := (IntWalk.i64_in _ (by omega)).trans (by omega)
        have hmr : m - r = k := by omega
        have rm : (r : Int) ≤ (m : Int) := by omega
        have rcn : r ≤ c := by have := HCAP.out; omega
        have rc : (r : Int) ≤ (c : Int) := by omega
        have r0 : (0 : Int) ≤ (r : Int) := by omega
        have r12 : r ≤ 12 := by omega
        have HR := Lib.hid hr
        have hwz2 : w.heap.size ≤ W2.heap.size := HB2.out.size
        have hbx2 : bx < W2.heap.size := by have := d2.size; omega
        have SRC : Hid (∀ W, Below W2.heap.size W2 W → Src W (some ⟨g, 0, none⟩) r 1 ((st.take r).map (Value.int .i64))) := Lib.hid (fun W hW => src_own ((hown.out.kept (row := none) (grown_any HWB0.out) (Or.inr (fun e => by cases e))).kept (row := none) (grown_any hW) (Or.inr (fun e => by cases e))) (by omega))
        have ONE : Hid (∀ u ∈ (st.take r).map (Value.int .i64), u.oneCell' = true) := Lib.hid (fun u hu => by obtain ⟨x, -, rfl⟩ := List.mem_map.1 hu; rfl)
        have ei : IntKind.i64.wrap ((i : Int) + 1) = (i : Int) + 1 := IntWalk.i64_in _ (by omega)
        have TL : Hid (∀ ad, k = 0 ∨ ad = some ⟨g, r, none⟩ → IntsN All wr ad k (st.drop r)) := Lib.hid (fun ad had => ints_tail hown.out hr trivial had)
        clear hr
        rw [hk] at hT
        generalize (takesV 9).2 = gv at hT
        have HKZ := Lib.hid hk0
        clear hk hkm hk0
        have hre : st.length - 2 = r := by have := HML.out; have := HR.out; have := HKZ.out; omega
        rw [hre] at RL RM
        clear hre q0
        go_wp2_with fail
        refine (hT _).mono ?_
        rintro e W3 ⟨rfl, hw3⟩
        subst W3
        have hcr : ¬ c = r := by have := HR.out; have := HCAP.out; have := HKZ.out; omega
        have TI := Lib.hid (TL.out _ (.inr rfl))
        clear TL
        go_wp2_with (at_builtin; refine wpList_append_src ?pd1 ?pds ?pdx 71 ?pd2 w.heap.size 3 it0 (.int .i64 0) 1 8 ?pd3 ?pd4 ?pd5 ?pd6 ?pd7 ?pd8 ?pd9 (.slice (some ⟨W2.heap.size, 0, none⟩) 0 0) 0 [] ?pd10 ?pdh1 (some ⟨g, 0, none⟩) r c ((st.take r).map (Value.int .i64)) ?pd11 ?pdsrc ?pdh3 ?pdc2 ?pdc3 ?pdc4 ?_; (case pd1 => rfl); (case pd2 => rfl); (case pd10 => rfl); (case pd11 => rfl); (case pdh1 => exact World.ownsRow_made W2 #[] 0 hwz2 (by unfold maxLen; omega) rfl); (case pdsrc => exact SRC.out _ (Below.alloc (Below.refl _ _) (Nat.le_refl _) _)); (case pd3 => exact Tryz.underlying71); (case pd4 => exact hi); (case pd5 => exact hz0); (case pd6 => exact hz1); (case pd7 => exact hz2); (case pd8 => rfl); (case pd9 => decide); (case pdh3 => exact ONE.out); (case pdc2 => unfold maxLen; omega); (case pdc3 => omega); (case pdc4 => simp only [World.size_alloc]; omega); intro v3 wz hownZ hgrowZ hatZ; obtain ⟨g3, c3, rfl, hown3⟩ := app_done hownZ hatZ; have hbz : Below W2.heap.size W2 wz := (((Below.refl _ _).alloc (Nat.le_refl _) _).grown hgrowZ (by simp only [World.size_alloc]; omega) (fun k e => by simp [Value.ownBlock] at e; omega)); have z0 := (hbz.cell (p := ⟨bx, 0, none⟩) hbx2).trans x0; have z1 := (hbz.cell (p := ⟨bx, 1, none⟩) hbx2).trans x1; have z2 := (hbz.cell (p := ⟨bx, 2, none⟩) hbx2).trans x2; have z3 := (hbz.cell (p := ⟨bx, 3, none⟩) hbx2).trans x3; have O3 := Lib.hid hown3; have HBZ := Lib.hid hbz; clear hownZ hgrowZ hatZ hown3 hbz SRC)
        have hI := (TI.out).kept (same_of_below (N := All) (HWB0.out.trans (HBZ.out.mono HWB0.out.size)))
        obtain ⟨b3, o3, hbe, hbl3, hcs⟩ := hI.cells (by have := HKZ.out; omega)
        obtain ⟨rfl, rfl⟩ : g = b3 ∧ r = o3 := by simpa using hbe
        have v0 := hcs 0 (by have := HKZ.out; omega)
        have v1 := hcs 1 (by have := HKZ.out; omega)
        rw [Nat.add_zero] at v0
        have O4 := Lib.hid O3.out
        clear hI hcs hbe O3
        have ik : (1 : Int) < (k : Int) := by have := HKZ.out; omega
        have ik0 : (0 : Int) < (k : Int) := by omega
        generalize (st.drop r).getD 0 0 = x0' at *
        generalize (st.drop r).getD 1 0 = x1' at *
        rcases Int.lt_or_le x0' x1' with c0 | c0
        · have zz : decide (x1' ≤ x0') = false := decide_eq_false (by omega)
          have RN := Lib.hid (RL.out c0)
          go_quiet (fail)
          go_wp2
          go_roundw
          case rel => exact ⟨i + 1, r, c3, g3, st.take r, u + cv, by omega, by go_num, rfl, rfl, by omega, hf, Lib.hid (O4.out.kept (row := none) (grown_any (belowN (Below.refl _ _) nq)) (Or.inr (fun e => by cases e))), RN, Lib.hid (belowN (HB2.out.trans (HBZ.out.mono HB2.out.size)) nq)⟩
          case measure => simp [intOf]; omega
        · have zz : decide (x1' ≤ x0') = true := decide_eq_true c0
          have RN := Lib.hid (RM.out (by omega))
          go_quiet (fail)
          go_wp2
          go_roundw
          case rel => exact ⟨i + 1 + q, r, c3, g3, st.take r, u + cv, by have := HN.out; omega, by go_num, rfl, rfl, by omega, hf, Lib.hid (O4.out.kept (row := none) (grown_any (belowN (Below.refl _ _) nq)) (Or.inr (fun e => by cases e))), RN, Lib.hid (belowN (HB2.out.trans (HBZ.out.mono HB2.out.size)) nq)⟩
          case measure => simp [intOf]; omega

      have b9 : (o == 9) = false := by simpa using h9
      have b11 : (o == 11) = false := by simpa using h11
      obtain ⟨hin10, k, hk, hkn, hkm, hH, hall, FB, FG⟩ := FD.out hf h9 h11
      have hkm : k ≤ m := by have := HML.out; omega
      have HH := Lib.hid hH
      have HALL := Lib.hid hall
      have HKN := Lib.hid hkn
      have HIN10 := Lib.hid hin10
      have H9 := Lib.hid h9
      have FB := Lib.hid FB
      have FG := Lib.hid FG
      clear FS FT FD FL hH hall hkn hin10 h9 h11
      obtain ⟨r, hr⟩ : ∃ r : Nat, m = r + k := ⟨m - k, by omega⟩
      have er : IntKind.i64.wrap ((m : Int) - (k : Int)) = (r : Int) := (IntWalk.i64_in _ (by omega)).trans (by omega)
      have hmr : m - r = k := by omega
      have rm : (r : Int) ≤ (m : Int) := by omega
      have rcn : r ≤ c := by have := HCAP.out; omega
      have rc : (r : Int) ≤ (c : Int) := by omega
      have r0 : (0 : Int) ≤ (r : Int) := by omega
      have r12 : r ≤ 12 := by omega
      have HR := Lib.hid hr
      have hwz2 : w.heap.size ≤ W2.heap.size := HB2.out.size
      have hbx2 : bx < W2.heap.size := by have := d2.size; omega
      have SRC : Hid (∀ W, Below W2.heap.size W2 W → Src W (some ⟨g, 0, none⟩) r 1 ((st.take r).map (Value.int .i64))) := Lib.hid (fun W hW => src_own ((hown.out.kept (row := none) (grown_any HWB0.out) (Or.inr (fun e => by cases e))).kept (row := none) (grown_any hW) (Or.inr (fun e => by cases e))) (by omega))
      have ONE : Hid (∀ u ∈ (st.take r).map (Value.int .i64), u.oneCell' = true) := Lib.hid (fun u hu => by obtain ⟨x, -, rfl⟩ := List.mem_map.1 hu; rfl)
      have ei : IntKind.i64.wrap ((i : Int) + 1) = (i : Int) + 1 := IntWalk.i64_in _ (by omega)
      have TL : Hid (∀ ad, k = 0 ∨ ad = some ⟨g, r, none⟩ → IntsN All wr ad k (st.drop r)) := Lib.hid (fun ad had => ints_tail hown.out hr trivial had)
      clear hr
      rw [hk] at hT
      generalize (takesV o).2 = gv at hT
      have hre : st.length - k = r := by have := HML.out; have := HR.out; omega
      rw [hre] at HALL FB FG
      clear hre hk hkm
      go_wp2_with fail
      refine (hT _).mono ?_
      rintro e W3 ⟨rfl, hw3⟩
      subst W3
      by_cases hcr : c = r
      · subst hcr
        have HK0 : Hid (k = 0) := Lib.hid (by have := HR.out; have := HCAP.out; omega)
        have TI := Lib.hid (fun ad => TL.out ad (.inl HK0.out))
        clear HK0 TL
        go_wp2_with (at_builtin; refine wpList_append_src ?pe1 ?pes ?pex 71 ?pe2 w.heap.size 3 it0 (.int .i64 0) 1 8 ?pe3 ?pe4 ?pe5 ?pe6 ?pe7 ?pe8 ?pe9 (.slice (some ⟨W2.heap.size, 0, none⟩) 0 0) 0 [] ?pe10 ?peh1 (some ⟨g, 0, none⟩) c c ((st.take c).map (Value.int .i64)) ?pe11 ?pesrc ?peh3 ?pec2 ?pec3 ?pec4 ?_; (case pe1 => rfl); (case pe2 => rfl); (case pe10 => rfl); (case pe11 => rfl); (case peh1 => exact World.ownsRow_made W2 #[] 0 hwz2 (by unfold maxLen; omega) rfl); (case pesrc => exact SRC.out _ (Below.alloc (Below.refl _ _) (Nat.le_refl _) _)); (case pe3 => exact Tryz.underlying71); (case pe4 => exact hi); (case pe5 => exact hz0); (case pe6 => exact hz1); (case pe7 => exact hz2); (case pe8 => rfl); (case pe9 => decide); (case peh3 => exact ONE.out); (case pec2 => unfold maxLen; omega); (case pec3 => omega); (case pec4 => simp only [World.size_alloc]; omega); intro v3 wz hownZ hgrowZ hatZ; obtain ⟨g3, c3, rfl, hown3⟩ := app_done hownZ hatZ; have hbz : Below W2.heap.size W2 wz := (((Below.refl _ _).alloc (Nat.le_refl _) _).grown hgrowZ (by simp only [World.size_alloc]; omega) (fun k e => by simp [Value.ownBlock] at e; omega)); have z0 := (hbz.cell (p := ⟨bx, 0, none⟩) hbx2).trans x0; have z1 := (hbz.cell (p := ⟨bx, 1, none⟩) hbx2).trans x1; have z2 := (hbz.cell (p := ⟨bx, 2, none⟩) hbx2).trans x2; have z3 := (hbz.cell (p := ⟨bx, 3, none⟩) hbx2).trans x3; have O3 := Lib.hid hown3; have HBZ := Lib.hid hbz; clear hownZ hgrowZ hatZ hown3 hbz SRC)
        have hD := specDo o nn s ma mc ms ns na nl nc (some ⟨g, 0, none⟩) k 0 (st.drop c) wz H9.out HIN10.out HH.out (by rw [HKN.out, List.length_drop]; have := HML.out; have := HR.out; omega) HALL.out (((TI.out _)).kept (same_of_below (N := All) (HWB0.out.trans (HBZ.out.mono HWB0.out.size)))) (HM.out.kept (same_of_below (N := All) (HWB0.out.trans (HBZ.out.mono HWB0.out.size)))) (HP.out.kept (same_of_below (N := All) (HB2.out.trans (HBZ.out.mono HB2.out.size)))) hnl
        have hD := Lib.hid hD
        unfold SaysP at hD
        have HDO : Hid (okB 0 = true) := Lib.hid okB0
        generalize doR ns o nn s ms (st.drop c) = rr at *
        obtain ⟨rv, rcd⟩ := rr
        dsimp only at hD FB FG
        
        go_wp2_with fail
        refine hD.out.mono ?_
        rintro e W4 ⟨rfl, d4⟩
        have hb4 : Below W2.heap.size W2 W4 := HBZ.out.trans (d4.mono HBZ.out.size)
        have HB4 : Hid (Below w.heap.size w W4) := Lib.hid (HB2.out.trans (hb4.mono HB2.out.size))
        have O4 : Hid (W4.ownsRow w.heap.size 3 1 (.slice (some ⟨g3, 0, none⟩) c c3) c ((st.take c).map (Value.int .i64))) := Lib.hid (O3.out.kept (row := none) (grown_any d4) (Or.inr (fun e => by cases e)))
        have hw4 : w.heap.size ≤ W4.heap.size := HB4.out.size
        clear z0 z1 z2 z3 x0 x1 x2 x3 d4 hb4 hD
        by_cases hc0 : rcd = 0
        rotate_left
        · have zz : (rcd != 0) = true := by simpa using hc0
          have HE := FB.out hc0
          rw [HMV.out] at HE
          simp only [Said.mk.injEq] at HE
          have HE := Lib.hid HE
          clear hc0
          go_wp2
          go_ret3
          refine ⟨?_, HB4.out⟩
          obtain ⟨rfl, rfl, rfl⟩ := HE.out
          rw [show fu - (fu - (u + cv)) = u + cv from by omega]
          rfl
        subst hc0
        have RN := Lib.hid (FG.out rfl)
        go_wp2_with (at_builtin; refine wpList_append_lies ?qew ?qe1 ?qes ?qex 71 ?qe2 w.heap.size 3 it0 (.int .i64 0) 1 8 ?qe3 ?qe4 ?qe5 ?qe6 ?qe7 ?qe8 ?qe9 (.slice (some ⟨g3, 0, none⟩) c c3) c ((st.take c).map (Value.int .i64)) ?qe10 ?qeh1 ⟨W4.heap.size, 0, none⟩ 1 1 [.int .i64 rv] ?qe11 ?qe12 ?qeh2 ?qeh3 ?qec1 ?qec2 ?qec3 ?qec4 (W4.heap.size + 1) ?qec5 ?_; (case qe1 => rfl); (case qe2 => rfl); (case qe10 => rfl); (case qe11 => rfl); (case qeh1 => exact O4.out.alloc _); (case qe3 => exact Tryz.underlying71); (case qe4 => exact hi); (case qe5 => exact hz0); (case qe6 => exact hz1); (case qe7 => exact hz2); (case qe8 => rfl); (case qe9 => decide); (case qe12 => rfl); (case qeh2 => exact World.news_of_block (heap_alloc_new W4 _)); (case qeh3 => intro u hu; simp at hu; subst hu; rfl); (case qec1 => decide); (case qec2 => unfold maxLen; omega); (case qec3 => omega); (case qec4 => simp only [World.size_alloc]; omega); (case qec5 => simp only [World.size_alloc]); intro g2 cp2 wy hownY hgrowY hatY hltY)
        have hbY : Below w.heap.size w wy := (HB4.out.trans (((Below.refl _ _).alloc (Nat.le_refl _) _ : Below W4.heap.size W4 (W4.alloc (.cells #[.int .i64 rv] 3))).mono HB4.out.size)).grown hgrowY (by simp only [World.size_alloc]; omega) (fun j e => (O4.out.lt j e).1)
        have HOY : Hid (wy.ownsRow w.heap.size 3 1 (.slice (some ⟨g2, 0, none⟩) (c + 1) cp2) (c + 1) ((st.take c ++ [rv]).map (Value.int .i64))) := Lib.hid (by rw [List.map_append]; exact hownY)
        have HBY := Lib.hid hbY
        clear hownY hgrowY hatY hbY
        go_wp2_with fail
        go_roundw
        case rel => exact ⟨i + 1, c + 1, cp2, g2, st.take c ++ [rv], u + cv, by omega, by go_num, rfl, rfl, by omega, hf, HOY, RN, HBY⟩
        case measure => simp [intOf]; omega
      · have TI := Lib.hid (TL.out _ (.inr rfl))
        clear TL
        go_wp2_with (at_builtin; refine wpList_append_src ?pf1 ?pfs ?pfx 71 ?pf2 w.heap.size 3 it0 (.int .i64 0) 1 8 ?pf3 ?pf4 ?pf5 ?pf6 ?pf7 ?pf8 ?pf9 (.slice (some ⟨W2.heap.size, 0, none⟩) 0 0) 0 [] ?pf10 ?pfh1 (some ⟨g, 0, none⟩) r c ((st.take r).map (Value.int .i64)) ?pf11 ?pfsrc ?pfh3 ?pfc2 ?pfc3 ?pfc4 ?_; (case pf1 => rfl); (case pf2 => rfl); (case pf10 => rfl); (case pf11 => rfl); (case pfh1 => exact World.ownsRow_made W2 #[] 0 hwz2 (by unfold maxLen; omega) rfl); (case pfsrc => exact SRC.out _ (Below.alloc (Below.refl _ _) (Nat.le_refl _) _)); (case pf3 => exact Tryz.underlying71); (case pf4 => exact hi); (case pf5 => exact hz0); (case pf6 => exact hz1); (case pf7 => exact hz2); (case pf8 => rfl); (case pf9 => decide); (case pfh3 => exact ONE.out); (case pfc2 => unfold maxLen; omega); (case pfc3 => omega); (case pfc4 => simp only [World.size_alloc]; omega); intro v3 wz hownZ hgrowZ hatZ; obtain ⟨g3, c3, rfl, hown3⟩ := app_done hownZ hatZ; have hbz : Below W2.heap.size W2 wz := (((Below.refl _ _).alloc (Nat.le_refl _) _).grown hgrowZ (by simp only [World.size_alloc]; omega) (fun k e => by simp [Value.ownBlock] at e; omega)); have z0 := (hbz.cell (p := ⟨bx, 0, none⟩) hbx2).trans x0; have z1 := (hbz.cell (p := ⟨bx, 1, none⟩) hbx2).trans x1; have z2 := (hbz.cell (p := ⟨bx, 2, none⟩) hbx2).trans x2; have z3 := (hbz.cell (p := ⟨bx, 3, none⟩) hbx2).trans x3; have O3 := Lib.hid hown3; have HBZ := Lib.hid hbz; clear hownZ hgrowZ hatZ hown3 hbz SRC)
        have hD := specDo o nn s ma mc ms ns na nl nc (some ⟨g, r, none⟩) k (c - r) (st.drop r) wz H9.out HIN10.out HH.out (by rw [HKN.out, List.length_drop]; have := HML.out; have := HR.out; omega) HALL.out ((TI.out).kept (same_of_below (N := All) (HWB0.out.trans (HBZ.out.mono HWB0.out.size)))) (HM.out.kept (same_of_below (N := All) (HWB0.out.trans (HBZ.out.mono HWB0.out.size)))) (HP.out.kept (same_of_below (N := All) (HB2.out.trans (HBZ.out.mono HB2.out.size)))) hnl
        have hD := Lib.hid hD
        unfold SaysP at hD
        have HDO : Hid (okB 0 = true) := Lib.hid okB0
        generalize doR ns o nn s ms (st.drop r) = rr at *
        obtain ⟨rv, rcd⟩ := rr
        dsimp only at hD FB FG
        
        go_wp2_with fail
        refine hD.out.mono ?_
        rintro e W4 ⟨rfl, d4⟩
        have hb4 : Below W2.heap.size W2 W4 := HBZ.out.trans (d4.mono HBZ.out.size)
        have HB4 : Hid (Below w.heap.size w W4) := Lib.hid (HB2.out.trans (hb4.mono HB2.out.size))
        have O4 : Hid (W4.ownsRow w.heap.size 3 1 (.slice (some ⟨g3, 0, none⟩) r c3) r ((st.take r).map (Value.int .i64))) := Lib.hid (O3.out.kept (row := none) (grown_any d4) (Or.inr (fun e => by cases e)))
        have hw4 : w.heap.size ≤ W4.heap.size := HB4.out.size
        clear z0 z1 z2 z3 x0 x1 x2 x3 d4 hb4 hD
        by_cases hc0 : rcd = 0
        rotate_left
        · have zz : (rcd != 0) = true := by simpa using hc0
          have HE := FB.out hc0
          rw [HMV.out] at HE
          simp only [Said.mk.injEq] at HE
          have HE := Lib.hid HE
          clear hc0
          go_wp2
          go_ret3
          refine ⟨?_, HB4.out⟩
          obtain ⟨rfl, rfl, rfl⟩ := HE.out
          rw [show fu - (fu - (u + cv)) = u + cv from by omega]
          rfl
        subst hc0
        have RN := Lib.hid (FG.out rfl)
        go_wp2_with (at_builtin; refine wpList_append_lies ?qfw ?qf1 ?qfs ?qfx 71 ?qf2 w.heap.size 3 it0 (.int .i64 0) 1 8 ?qf3 ?qf4 ?qf5 ?qf6 ?qf7 ?qf8 ?qf9 (.slice (some ⟨g3, 0, none⟩) r c3) r ((st.take r).map (Value.int .i64)) ?qf10 ?qfh1 ⟨W4.heap.size, 0, none⟩ 1 1 [.int .i64 rv] ?qf11 ?qf12 ?qfh2 ?qfh3 ?qfc1 ?qfc2 ?qfc3 ?qfc4 (W4.heap.size + 1) ?qfc5 ?_; (case qf1 => rfl); (case qf2 => rfl); (case qf10 => rfl); (case qf11 => rfl); (case qfh1 => exact O4.out.alloc _); (case qf3 => exact Tryz.underlying71); (case qf4 => exact hi); (case qf5 => exact hz0); (case qf6 => exact hz1); (case qf7 => exact hz2); (case qf8 => rfl); (case qf9 => decide); (case qf12 => rfl); (case qfh2 => exact World.news_of_block (heap_alloc_new W4 _)); (case qfh3 => intro u hu; simp at hu; subst hu; rfl); (case qfc1 => decide); (case qfc2 => unfold maxLen; omega); (case qfc3 => omega); (case qfc4 => simp only [World.size_alloc]; omega); (case qfc5 => simp only [World.size_alloc]); intro g2 cp2 wy hownY hgrowY hatY hltY)
        have hbY : Below w.heap.size w wy := (HB4.out.trans (((Below.refl _ _).alloc (Nat.le_refl _) _ : Below W4.heap.size W4 (W4.alloc (.cells #[.int .i64 rv] 3))).mono HB4.out.size)).grown hgrowY (by simp only [World.size_alloc]; omega) (fun j e => (O4.out.lt j e).1)
        have HOY : Hid (wy.ownsRow w.heap.size 3 1 (.slice (some ⟨g2, 0, none⟩) (r + 1) cp2) (r + 1) ((st.take r ++ [rv]).map (Value.int .i64))) := Lib.hid (by rw [List.map_append]; exact hownY)
        have HBY := Lib.hid hbY
        clear hownY hgrowY hatY hbY
        go_wp2_with fail
        go_roundw
        case rel => exact ⟨i + 1, r + 1, cp2, g2, st.take r ++ [rv], u + cv, by omega, by go_num, rfl, rfl, by omega, hf, HOY, RN, HBY⟩
        case measure => simp [intOf]; omega
    · obtain rfl : i = n := by omega
      obtain ⟨hl1, HE⟩ := run_end HW.out hrun.out HN.out
      rw [HMV.out] at HE
      simp only [Said.mk.injEq] at HE
      have HE := Lib.hid HE
      have hm1 : m = 1 := by have := HML.out; omega
      subst hm1
      have x0 : wr.cell? ⟨g, 0, none⟩ = some (.int .i64 (st.getD 0 0)) := by
        rw [hown.out.cellAt 0 (by omega)]
        have h1 : 0 < st.length := by omega
        simp [h1]
      clear hl1
      generalize st.getD 0 0 = sv at *
      go_wp2
      go_ret3
      obtain ⟨rfl, rfl, rfl⟩ := HE.out
      refine ⟨?_, hb.out⟩
      rw [show fu - (fu - u) = u from by omega]
      rfl
end Go.Proofs.YtjphjnopdlfplaaGreatDoor

namespace Go.Proofs.YtjphjnopdlfplaaGreatDoor
open Go.RowKit
set_option linter.unusedVariables false
set_option linter.unusedSimpArgs false

def VmP (ds : List Pl) (ns : List (ByteArray × Int)) (fu : Int) (w : World) (e : Ending) (w' : World) : Prop := e = .returned (.tuple #[.int .i64 (vmRunV ds ns fu).1, .int .i64 (vmRunV ds ns fu).2.1, .int .i64 (vmRunV ds ns fu).2.2]) ∧ Below w.heap.size w w'
theorem vmRun_no {ds : List Pl} {ns : List (ByteArray × Int)} {fu : Int} (h : ¬ (OkV ds ∧ 0 ≤ fu ∧ fu ≤ 1000)) : vmRunV ds ns fu = (0, 4, 0) := by unfold vmRunV; rw [if_neg h]
theorem vmRun_yes {ds : List Pl} {ns : List (ByteArray × Int)} {fu : Int} (h : OkV ds ∧ 0 ≤ fu ∧ fu ≤ 1000) : vmRunV ds ns fu = ((machV ns ds [] fu).v, (machV ns ds [] fu).c, fu - (machV ns ds [] fu).f) := by unfold vmRunV; rw [if_pos h]
theorem PlsN.old {w w' : World} {a : Option Addr} {n mb : Nat} {ds : List Pl} (h : PlsN All w a n ds) (hB : Below w.heap.size w w') (he : w.heap.size ≤ mb) : PlsN (fun b => b ≠ mb) w' a n ds :=
  (h.lt.kept (same_lt hB (Nat.le_refl _))).mono (fun b hb => by show b ≠ mb; omega)
theorem mach_new (w : World) (na : Option Addr) (nl nc : Nat) (fu : Int) (ty : TypeId) : Mach (w.alloc (.cells #[.slice na nl nc, .int .i64 fu, .slice none 0 0, .int .i64 0] ty)) w.heap.size na nl nc fu none 0 0 0 := by
  have h : (w.alloc (.cells #[.slice na nl nc, .int .i64 fu, .slice none 0 0, .int .i64 0] ty)).heap[w.heap.size]? = some (.cells #[.slice na nl nc, .int .i64 fu, .slice none 0 0, .int .i64 0] ty (0, 0)) := heap_alloc_new w _
  exact ⟨⟨(Array.getElem?_eq_some_iff.1 h).1, by rw [Lib.cell_of_heap h]; rfl, by rw [Lib.cell_of_heap h]; rfl, Lib.frozen_of_heap h 1⟩, by rw [Lib.cell_of_heap h]; rfl, by rw [Lib.cell_of_heap h]; rfl, Lib.frozen_of_heap h 2, Lib.frozen_of_heap h 3⟩
set_option maxHeartbeats 8000000 in
theorem specVmRun (a : Option Addr) (n cap : Nat) (ds : List Pl) (ns : List (ByteArray × Int)) (na : Option Addr) (nl nc : Nat) (fu : Int) (w : World) (h : PlsN All w a n ds) (hsm : ∀ d ∈ ds, SmallP d) (hl : n ≤ 1048576) (hp : PairsN All w na nl ns) (hnl : nl ≤ 1048576) :
    Calls Tryz.prog 10 #[.slice a n cap, .slice na nl nc, .int .i64 fu] w (VmP ds ns fu w) := by
  have hK := Lib.hid (specVmOk a n cap ds w h hsm hl)
  have hI := Lib.hid (fun W => specInZ fu 0 1000 W)
  have H := Lib.hid h
  have HSM := Lib.hid hsm
  have HP := Lib.hid hp
  clear h hsm hp
  unfold OkVP at hK
  by_cases hok : OkV ds
  rotate_left
  · have HV := Lib.hid (vmRun_no (ns := ns) (fu := fu) (ds := ds) (fun k => hok k.1))
    rw [decide_eq_false hok] at hK
    clear hok
    go_enter Tryz.func10, Tryz.ntmps10
    go_wp2_with fail
    refine hK.out.mono ?_
    rintro e w1 ⟨rfl, d1⟩
    go_wp2
    go_ret3
    unfold VmP
    rw [HV.out]
    exact ⟨rfl, d1⟩
  rw [decide_eq_true hok] at hK
  by_cases hf : 0 ≤ fu ∧ fu ≤ 1000
  rotate_left
  · have HV := Lib.hid (vmRun_no (ns := ns) (fu := fu) (ds := ds) (fun k => hf k.2))
    have z : (decide (0 ≤ fu) && decide (fu ≤ 1000)) = false := by
      rcases Int.lt_or_le fu 0 with c | c
      · rw [decide_eq_false (by omega)]; rfl
      · rw [decide_eq_false (p := fu ≤ 1000) (fun k => hf ⟨c, k⟩), Bool.and_false]
    rw [z] at hI
    clear hok hf z
    go_enter Tryz.func10, Tryz.ntmps10
    go_wp2_with fail
    refine hK.out.mono ?_
    rintro e w1 ⟨rfl, d1⟩
    go_wp2_with fail
    refine (hI.out _).mono ?_
    rintro e w2 ⟨rfl, d2⟩
    subst d2
    go_wp2
    go_ret3
    unfold VmP
    rw [HV.out]
    exact ⟨rfl, d1⟩
  have z : (decide (0 ≤ fu) && decide (fu ≤ 1000)) = true := by rw [decide_eq_true hf.1, decide_eq_true hf.2]; rfl
  rw [z] at hI
  have HV := Lib.hid (vmRun_yes (ns := ns) (fu := fu) (ds := ds) ⟨hok, hf⟩)
  have HOK := Lib.hid hok
  have HF := Lib.hid hf
  clear hok hf z
  go_enter Tryz.func10, Tryz.ntmps10
  go_wp2_with fail
  refine hK.out.mono ?_
  rintro e w1 ⟨rfl, d1⟩
  go_wp2_with fail
  refine (hI.out _).mono ?_
  rintro e w2 ⟨rfl, d2⟩
  subst d2
  have hR := specRun a n cap ds ns na nl nc fu w1 (H.out.kept (same_of_below d1)) HSM.out HOK.out (HP.out.kept (same_of_below d1)) hnl HF.out.1 HF.out.2
  have hR := Lib.hid hR
  have HB1 := Lib.hid d1
  clear d1
  generalize (machV ns ds [] fu).v = x1 at *
  generalize (machV ns ds [] fu).c = x2 at *
  generalize (machV ns ds [] fu).f = x3 at *
  generalize hx4 : fu - x3 = x4 at *
  clear hx4
  go_wp2_with fail
  refine hR.out.mono ?_
  rintro e w3 ⟨rfl, d3⟩
  go_wp2
  go_ret3
  unfold VmP
  rw [HV.out]
  exact ⟨rfl, HB1.out.trans (d3.mono HB1.out.size)⟩
set_option maxHeartbeats 8000000 in
theorem implVmRun (a : Option Addr) (n cap : Nat) (ds : List Pl) (ns : List (ByteArray × Int)) (na : Option Addr) (nl nc : Nat) (fu : Int) (w : World) (h : PlsN All w a n ds) (hsm : ∀ d ∈ ds, SmallP d) (hl : n ≤ 1048576) (hp : PairsN All w na nl ns) (hnl : nl ≤ 1048576) (hL : Laid w) :
    Calls Tryz.prog 13 #[.slice a n cap, .slice na nl nc, .int .i64 fu] w (VmP ds ns fu w) := by
  have hK := Lib.hid (implVmOk a n cap ds w h hsm hl hL)
  have hI := Lib.hid (fun W => implFuelOk fu W)
  have H := Lib.hid h
  have HSM := Lib.hid hsm
  have HP := Lib.hid hp
  clear h hsm hp hL
  unfold OkVP at hK
  by_cases hok : OkV ds
  rotate_left
  · have HV := Lib.hid (vmRun_no (ns := ns) (fu := fu) (ds := ds) (fun k => hok k.1))
    rw [decide_eq_false hok] at hK
    clear hok
    go_enter Tryz.func13, Tryz.ntmps13
    go_wp2_with fail
    refine hK.out.mono ?_
    rintro e w1 ⟨rfl, d1⟩
    go_wp2
    go_ret3
    unfold VmP
    rw [HV.out]
    exact ⟨rfl, d1⟩
  rw [decide_eq_true hok] at hK
  by_cases hf : 0 ≤ fu ∧ fu ≤ 1000
  rotate_left
  · have HV := Lib.hid (vmRun_no (ns := ns) (fu := fu) (ds := ds) (fun k => hf k.2))
    have z : (decide (0 ≤ fu) && decide (fu ≤ 1000)) = false := by
      rcases Int.lt_or_le fu 0 with c | c
      · rw [decide_eq_false (by omega)]; rfl
      · rw [decide_eq_false (p := fu ≤ 1000) (fun k => hf ⟨c, k⟩), Bool.and_false]
    rw [z] at hI
    clear hok hf z
    go_enter Tryz.func13, Tryz.ntmps13
    go_wp2_with fail
    refine hK.out.mono ?_
    rintro e w1 ⟨rfl, d1⟩
    go_wp2_with fail
    refine (hI.out _).mono ?_
    rintro e w2 ⟨rfl, d2⟩
    subst d2
    go_wp2
    go_ret3
    unfold VmP
    rw [HV.out]
    exact ⟨rfl, d1⟩
  have z : (decide (0 ≤ fu) && decide (fu ≤ 1000)) = true := by rw [decide_eq_true hf.1, decide_eq_true hf.2]; rfl
  rw [z] at hI
  have HV := Lib.hid (vmRun_yes (ns := ns) (fu := fu) (ds := ds) ⟨hok, hf⟩)
  have HOK := Lib.hid hok
  have HF := Lib.hid hf
  have HS := Lib.hid (mach_sok ns hok hf.1)
  clear hok hf z
  go_enter Tryz.func13, Tryz.ntmps13
  go_wp2_with fail
  refine hK.out.mono ?_
  rintro e w1 ⟨rfl, d1⟩
  go_wp2_with fail
  refine (hI.out _).mono ?_
  rintro e w2 ⟨rfl, d2⟩
  subst d2
  have HB1 := Lib.hid d1
  have hX : Below w1.heap.size w1 (w1.alloc (.cells #[.slice na nl nc, .int .i64 fu, .slice none 0 0, .int .i64 0] 75)) := (Below.refl _ _).alloc (Nat.le_refl _) _
  have hBX := d1.trans (hX.mono d1.size)
  have HBX := Lib.hid hBX
  have hR := implRun a n cap ds ns na nl nc fu w1.heap.size _ (H.out.old hBX d1.size) HSM.out HOK.out (HP.out.old hBX d1.size) hnl HF.out.1 HF.out.2 (mach_new w1 na nl nc fu 75) _ rfl
  have hR := Lib.hid hR
  have hs := HS.out.2.2.1
  have hff := HF.out
  have HD1 := d1.size
  clear d1 hX hBX HS
  unfold RunP at hR
  generalize machV ns ds [] fu = mv at *
  obtain ⟨x1, x2, x3⟩ := mv
  dsimp only at *
  have ew : IntKind.i64.wrap (fu - x3) = fu - x3 := IntWalk.i64_in _ (by omega)
  go_wp2_with fail
  refine hR.out.mono ?_
  rintro e w3 ⟨rfl, hev, hg⟩
  have y1 := hev.out.2.2.1
  have HG3 := Lib.hid hg.out
  clear hev hg hR hs hff
  go_wp2_with fail
  go_quiet (fail)
  go_wp2
  go_ret3
  unfold VmP
  rw [HV.out]
  exact ⟨rfl, belowN (HBX.out.grown HG3.out HBX.out.size (fun k e => by cases e; exact HD1)) nq⟩
end Go.Proofs.YtjphjnopdlfplaaGreatDoor

namespace Go.Proofs.YtjphjnopdlfplaaGreatDoor
open Go.RowKit
set_option linter.unusedVariables false
set_option linter.unusedSimpArgs false

set_option maxRecDepth 20000 in
set_option maxHeartbeats 8000000 in
theorem exactVmRun (a : Option Addr) (n cap : Nat) (ds : List Pl) (a1 : Option Addr) (len cap1 : Nat) (ns : List (ByteArray × Int)) (fu : Int) (w : World) (w0 : IsPls w a n cap ds) (wp : IsRowP w a1 len cap1 ns) (hL : Laid w) :
    Calls Tryz.prog 3 #[.slice a n cap, .slice a1 len cap1, .int .i64 fu] w fun e w' => e = .returned (.bool true) ∧ Below w.heap.size w w' := by
  obtain ⟨hlc, hcm, h, hw⟩ := w0
  obtain ⟨pl1, pl2, hp, hpz⟩ := wp
  have H := Lib.hid h
  have HL := Lib.hid hL
  have HP := Lib.hid hp
  have HPZ := Lib.hid hpz
  have HPL : Hid (len ≤ maxLen) := Nat.le_trans pl1 pl2
  have HN : Hid (n = ds.length) := h.1
  have hS := Lib.hid (szPls a n cap ds 1048576 w h hw (by omega) (by omega) (by omega))
  clear h hw hL hlc hcm hp hpz pl1 pl2
  go_enter Tryz.func3, Tryz.ntmps3
  go_wp2_with fail
  refine hS.out.mono ?_
  rintro e w1 ⟨r, r0, r1, rfl, hr, d1⟩
  have B1 := Lib.hid d1
  clear d1
  rcases Int.lt_or_le r 0 with c | c
  · have g0 : decide (r < 0) = true := decide_eq_true c
    go_wp2
    go_ret
    exact ⟨rfl, B1.out⟩
  have g0 : decide (r < 0) = false := decide_eq_false (by omega)
  have hn : n ≤ 1048576 := by have := (hr.out c).1; have := HN.out; omega
  have HS := Lib.hid (hr.out c).2
  clear hr
  have hSP := Lib.hid (szPairs a1 len cap1 ns r w1 (HP.out.kept (same_of_below B1.out)) HPZ.out HPL.out c r1)
  go_wp2_with fail
  refine hSP.out.mono ?_
  rintro e w1' ⟨r2, q0, q1, rfl, hr2, d1⟩
  have B1' := Lib.hid (B1.out.trans (d1.mono B1.out.size))
  clear d1
  rcases Int.lt_or_le r2 0 with c2 | c2
  · have g1 : decide (r2 < 0) = true := decide_eq_true c2
    go_wp2
    go_ret
    exact ⟨rfl, B1'.out⟩
  have g1 : decide (r2 < 0) = false := decide_eq_false (by omega)
  have HNN : Hid (len ≤ 1048576) := Lib.hid (by have := hr2.out c2; omega)
  have hnn := HNN.out
  clear hr2
  go_wp2_with fail
  refine (toPls ds HS.out a n cap w1' (H.out.kept (same_of_below B1'.out)) hn).mono ?_
  rintro e w2 ⟨g2, hg2, rfl, h2, d2⟩
  have B2 := Lib.hid (B1'.out.trans (d2.mono B1'.out.size))
  have H2 := Lib.hid (h2.mono (N' := All) (fun _ _ => trivial))
  clear h2 d2 hg2
  go_wp2_with fail
  refine (copyPairs a1 len cap1 ns w2 (HP.out.kept (same_of_below B2.out)) HNN.out).mono ?_
  rintro e w3 ⟨g3, -, rfl, p3, d3⟩
  have B3 := Lib.hid (B2.out.trans (d3.mono B2.out.size))
  have hq := Lib.hid (specVmRun _ _ _ ds ns _ _ _ fu w3 (H2.out.kept (same_of_below d3)) HS.out (by have := HN.out; omega) (p3.mono (fun _ _ => trivial)) HNN.out : Calls Tryz.prog _ #[.slice (some ⟨g2, 0, none⟩) ds.length ds.length, .slice (some ⟨g3, 0, none⟩) len len, .int .i64 fu] w3 _)
  clear p3 d3
  unfold VmP at hq
  go_wp2_with fail
  refine hq.out.mono ?_
  rintro e w4 ⟨rfl, d4⟩
  have B4 := Lib.hid (B3.out.trans (d4.mono B3.out.size))
  clear d4 hq
  go_wp2_with fail
  refine (toPls ds HS.out a n cap w4 (H.out.kept (same_of_below B4.out)) hn).mono ?_
  rintro e w5 ⟨g5, hg5, rfl, h5, d5⟩
  have B5 := Lib.hid (B4.out.trans (d5.mono B4.out.size))
  have H5 := Lib.hid (h5.mono (N' := All) (fun _ _ => trivial))
  clear h5 d5 hg5
  go_wp2_with fail
  refine (copyPairs a1 len cap1 ns w5 (HP.out.kept (same_of_below B5.out)) HNN.out).mono ?_
  rintro e w6 ⟨g6, -, rfl, p6, d6⟩
  have B6 := Lib.hid (B5.out.trans (d6.mono B5.out.size))
  have H6 := Lib.hid (H5.out.kept (same_of_below d6))
  have P6 := Lib.hid (p6.mono (N' := All) (fun _ _ => trivial))
  have hI := Lib.hid (implVmRun _ _ _ ds ns _ _ _ fu w6 H6.out HS.out (by have := HN.out; omega) P6.out HNN.out (laid_stays HL.out B6.out) : Calls Tryz.prog _ #[.slice (some ⟨g5, 0, none⟩) ds.length ds.length, .slice (some ⟨g6, 0, none⟩) len len, .int .i64 fu] w6 _)
  clear p6 d6
  unfold VmP at hI
  go_wp2_with fail
  refine hI.out.mono ?_
  rintro e w7 ⟨rfl, d7⟩
  have B7 := Lib.hid (B6.out.trans (d7.mono B6.out.size))
  have H7 := Lib.hid (H6.out.kept (same_of_below d7))
  have P7 := Lib.hid (P6.out.kept (same_of_below d7))
  clear d7 hI
  generalize (vmRunV ds ns fu).1 = v1 at *
  generalize (vmRunV ds ns fu).2.1 = v2 at *
  generalize (vmRunV ds ns fu).2.2 = v3 at *
  have hv1 : (v1 != v1) = false := by simp
  have hv2 : (v2 != v2) = false := by simp
  have hv3 : (v3 != v3) = false := by simp
  go_wp2_with fail
  refine (toPls ds HS.out a n cap w7 (H.out.kept (same_of_below B7.out)) hn).mono ?_
  rintro e w8 ⟨g8, hg8, rfl, h8, d8⟩
  have B8 := Lib.hid (B7.out.trans (d8.mono B7.out.size))
  have P8 := Lib.hid (P7.out.kept (same_of_below d8))
  have hq6 := Lib.hid (eqPls _ _ _ ds.length ds.length ds w8 (H7.out.kept (same_of_below d8)) (h8.mono (N' := All) (fun _ _ => trivial)) HS.out (by have := HN.out; omega) : Calls Tryz.prog _ #[.slice (some ⟨g5, 0, none⟩) ds.length ds.length, .slice (some ⟨g8, 0, none⟩) ds.length ds.length] w8 _)
  clear h8 d8 hg8
  go_wp2_with fail
  refine hq6.out.mono ?_
  rintro e w9 ⟨rfl, d9⟩
  have B9 := Lib.hid (B8.out.trans (d9.mono B8.out.size))
  have P9 := Lib.hid (P8.out.kept (same_of_below d9))
  clear d9 hq6
  go_wp2_with fail
  refine (copyPairs a1 len cap1 ns w9 (HP.out.kept (same_of_below B9.out)) HNN.out).mono ?_
  rintro e wa ⟨ga, -, rfl, pa, da⟩
  have hq := Lib.hid (eqPairs (some ⟨g6, 0, none⟩) (some ⟨ga, 0, none⟩) len len len ns wa (P9.out.kept (same_of_below da)) (pa.mono (fun _ _ => trivial)) HNN.out)
  have hfa : Below w.heap.size w wa := B9.out.trans (da.mono B9.out.size)
  go_wp2_with fail
  refine hq.out.mono ?_
  rintro e wb ⟨rfl, db⟩
  go_wp2
  go_ret
  exact ⟨rfl, hfa.trans (db.mono hfa.size)⟩
end Go.Proofs.YtjphjnopdlfplaaGreatDoor
