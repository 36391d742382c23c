/-
  What the model says of a rule.
-/
import Derived.Test.YtemjooejfmkkbaaGreatDoorJ29
namespace Go.Proofs.YtemjooejfmkkbaaGreatDoor
open Go.RowKit
set_option linter.unusedVariables false
set_option linter.unusedSimpArgs false

set_option maxHeartbeats 4000000 in
theorem burnNo (k fu : Int) (eb : Nat) (na : Option Addr) (nl nc : Nat) (w : World) (h : fu < k) (hev : Ev w eb na nl nc fu) :
    Calls Tryz.prog 158 #[.pointer (some ⟨eb, 0, none⟩), .int .i64 k] w fun e w' => e = .returned (.int .i64 1) ∧ w' = w := by
  have z : decide (fu < k) = true := decide_eq_true h
  obtain ⟨h1, h2, h3, h4⟩ := hev
  go_enter Tryz.func158, Tryz.ntmps158
  go_wp2
  go_ret
  exact ⟨rfl, rfl⟩
set_option maxHeartbeats 4000000 in
theorem burnYes (k fu : Int) (eb : Nat) (na : Option Addr) (nl nc : Nat) (w : World) (h : k ≤ fu) (k0 : 0 ≤ k) (f1 : fu ≤ 1000) (hev : Ev w eb na nl nc fu) :
    Calls Tryz.prog 158 #[.pointer (some ⟨eb, 0, none⟩), .int .i64 k] w fun e w' => e = .returned (.int .i64 0) ∧ Ev w' eb na nl nc (fu - k) ∧ w.grownBy w' (some eb) := by
  have z : decide (fu < k) = false := decide_eq_false (by omega)
  have e1 : IntKind.i64.wrap (fu - k) = fu - k := IntWalk.i64_in _ (by omega)
  have HE := Lib.hid (hev.set (g := fu - k))
  have HG := Lib.hid (grown_set w ⟨eb, 1, none⟩ (.int .i64 (fu - k)))
  obtain ⟨h1, h2, h3, h4⟩ := hev
  go_enter Tryz.func158, Tryz.ntmps158
  go_wp2
  go_ret
  exact ⟨rfl, HE.out, HG.out⟩
theorem IntsN.cells {N : Nat → Prop} {w : World} {a : Option Addr} {len : Nat} {l : List Int} (h : IntsN N w a len l) (h0 : 0 < len) : ∃ b off, a = some ⟨b, off, none⟩ ∧ b < w.heap.size ∧ ∀ i, i < len → w.cell? ⟨b, off + i, none⟩ = some (.int .i64 (l.getD i 0)) := by
  obtain ⟨-, h2 | ⟨b, off, k1, -, k3, k4⟩⟩ := h
  · omega
  · exact ⟨b, off, k1, k3, k4⟩
theorem evalN {ns : List (ByteArray × Int)} {o n : Int} {s : ByteArray} {ks : List Tr} {ms : List (Int × Int)} {fu : Int} {q : List Int × Int × Int} (hq : seqF ((ks.map (evalT ns)).take (if o = 9 then 2 else ks.length)) fu = q) :
    evalT ns (.node o n s ks ms) fu = if q.2.1 ≠ 0 then ⟨0, q.2.1, q.2.2⟩ else if q.2.2 < 1 + ms.length then ⟨0, 1, q.2.2⟩
      else if o = 9 then (if q.1.getD 0 0 < q.1.getD 1 0 then (ks.map (evalT ns)).getD 2 noSaid else (ks.map (evalT ns)).getD 3 noSaid) (q.2.2 - (1 + ms.length))
      else ⟨(doR ns o n s ms q.1).1, (doR ns o n s ms q.1).2, q.2.2 - (1 + ms.length)⟩ := by
  have hl : (ks.map (evalT ns)).length = ks.length := by simp
  rw [evalT, evalFs_eq]
  unfold nodeV
  rw [hl, hq]
set_option maxRecDepth 20000 in
set_option maxHeartbeats 16000000 in
theorem ofOp (ns : List (ByteArray × Int)) (o n : Int) (s : ByteArray) (ks : List Tr) (ms : List (Int × Int)) (h9 : o ≠ 9) (ih : ∀ t ∈ ks, EvAt 102 ns t) : EvAt 102 ns (.node o n s ks ms) := by
  intro f eb fu na nl nc w h hok hev hp hnl f0 f1
  obtain ⟨e1, e2, e3, hm, hk, hc1, hc2⟩ := trF_iff.1 h
  obtain ⟨fo, fn, fs, ka, kl, kc, ma, ml, mc⟩ := f
  dsimp only at e1 e2 e3 hm hk hc1 hc2
  have q1 := e1.symm
  have q2 := e2.symm
  have q3 := e3.symm
  clear e1 e2 e3
  subst q1 q2 q3
  obtain rfl := hk.1
  obtain rfl := hm.1
  obtain ⟨hpl, hoks⟩ := okP_parts hok
  have hw29 : wL ks ≤ 29 := by have := okP_w hok; rw [wT] at this; omega
  have hkb : ks.length ≤ 29 := by have := len_wL ks; omega
  have hm5 := ms_len hpl
  have hin := op_in hpl
  have hA : Below w.heap.size w (w.alloc (.cells #[.int .i64 o, .int .i64 n, .string s, .slice ka ks.length kc, .slice ma ms.length mc] 38)) := (Below.refl _ _).alloc (Nat.le_refl _) _
  have hArg : (w.alloc (.cells #[.int .i64 o, .int .i64 n, .string s, .slice ka ks.length kc, .slice ma ms.length mc] 38)).heap[w.heap.size]? = some (.cells #[.int .i64 o, .int .i64 n, .string s, .slice ka ks.length kc, .slice ma ms.length mc] 38 (0, 0)) := heap_alloc_new w _
  have hsz : (w.alloc (.cells #[.int .i64 o, .int .i64 n, .string s, .slice ka ks.length kc, .slice ma ms.length mc] 38)).heap.size = w.heap.size + 1 := by simp
  have heb := hev.1
  have HK := Lib.hid (kidsN' ns o n s ks ma ms.length mc ka kc ks.length eb fu na nl nc _ ih (hk.kept (same_of_below hA)) hoks (by omega) hkb (hev.kept hA) (hp.kept (same_of_below hA)) hnl f0 f1)
  have hqo := seqF_ok ((ks.map (evalT ns)).take ks.length) fu f0 (fun g hg fu hf => by
    obtain ⟨t, ht, rfl⟩ := List.mem_map.1 (List.mem_of_mem_take hg)
    exact eval_ok ns _ t (Nat.le_refl _) (hoks t ht) fu hf)
  have hql : ((ks.map (evalT ns)).take ks.length).length = ks.length := by rw [List.length_take, List.length_map]; omega
  rw [hql] at hqo
  have HE := Lib.hid (evalN (ns := ns) (o := o) (n := n) (s := s) (ks := ks) (ms := ms) (fu := fu) rfl)
  have HM := Lib.hid hm
  have HR := Lib.hid hk
  have HPL := Lib.hid hpl
  have HOKS := Lib.hid hoks
  have HP := Lib.hid hp
  have HA := Lib.hid hA
  have HArg := Lib.hid hArg
  have em : IntKind.i64.wrap (1 + (ms.length : Int)) = 1 + (ms.length : Int) := IntWalk.i64_in _ (by omega)
  clear h hm hk hc1 hc2 hpl hoks hok hA hArg hql hp
  unfold KidsP at HK
  unfold EvP
  unfold Fld.val
  dsimp only
  rw [if_neg h9] at HE
  have z9 : (o == 9) = false := by simpa using h9
  generalize hqv : seqF ((ks.map (evalT ns)).take ks.length) fu = q at *
  obtain ⟨vs, cd, fr⟩ := q
  dsimp only at *
  obtain ⟨⟨qc0, qc1⟩, ⟨qf0, qf1⟩, hqv2, hql2⟩ := hqo
  have HVS := Lib.hid hqv2
  have HVL := Lib.hid hql2
  generalize evalT ns (.node o n s ks ms) fu = sv at *
  clear hqv hqv2 hql2
  go_enter Tryz.func102, Tryz.ntmps102
  go_wp2_with fail
  generalize hW0 : (w.alloc (.cells #[.int .i64 o, .int .i64 n, .string s, .slice ka ks.length kc, .slice ma ms.length mc] 38)) = W0 at *
  clear hW0
  have sz0 : w.heap.size < W0.heap.size := by omega
  refine HK.out.mono ?_
  rintro e w1 ⟨a, m, cp, rfl, hr, hg1⟩
  have HG1 : Hid (w.grownBy w1 (some eb)) := grown_trans (grown_any HA.out) hg1
  have HA1 := Lib.hid ((hg1.block w.heap.size sz0 (by intro e; simp only [Option.some.injEq] at e; omega)).trans HArg.out)
  clear hg1 HK
  by_cases hc : cd = 0
  rotate_left
  · have z : (cd != 0) = true := by simpa using hc
    have HSV : Hid (sv = ⟨0, cd, fr⟩) := by show _ = _; rw [HE.out, if_pos hc]
    have HC := Lib.hid hc
    clear hc
    go_wp2
    go_ret2
    refine ⟨?_, fun h => ?_, HG1.out⟩
    · show Ending.returned (.tuple #[.int .i64 0, .int .i64 cd]) = _
      rw [HSV.out]
    · rw [HSV.out] at h; exact absurd h HC.out
  subst hc
  obtain ⟨hints, hev1⟩ := hr.out rfl
  have HI := Lib.hid hints
  have HEV1 := Lib.hid hev1
  have hmk : m = ks.length := by have h1 := hints.1; have h2 := HVL.out rfl; omega
  subst hmk
  have ca4 : w1.cell? ⟨w.heap.size, 4, none⟩ = some (Value.slice ma ms.length mc) := by rw [Lib.cell_of_heap HA1.out]; rfl
  clear hints hev1 hr
  rcases Int.lt_or_le fr (1 + (ms.length : Int)) with hb | hb
  · have HSV : Hid (sv = ⟨0, 1, fr⟩) := by show _ = _; rw [HE.out, if_neg (by simp), if_pos hb]
    have HB := Lib.hid (burnNo (1 + (ms.length : Int)) fr eb na nl nc w1 hb HEV1.out)
    go_wp2_with fail
    refine HB.out.mono ?_
    rintro e w2 ⟨rfl, rfl⟩
    go_wp2
    go_ret2
    refine ⟨?_, fun h => ?_, HG1.out⟩
    · show Ending.returned (.tuple #[.int .i64 0, .int .i64 1]) = _
      rw [HSV.out]
    · rw [HSV.out] at h; cases h
  have HB := Lib.hid (burnYes (1 + (ms.length : Int)) fr eb na nl nc w1 hb (by omega) (by omega) HEV1.out)
  have HSE := Lib.hid HE.out
  rw [if_neg (by simp), if_neg (by omega)] at HSE
  go_wp2_with fail
  refine HB.out.mono ?_
  rintro e w2 ⟨rfl, hev2, hg2⟩
  have HEV2 := Lib.hid hev2
  have HG2 := Lib.hid (grown_trans HG1.out hg2)
  have HI2 := Lib.hid (HI.out.kept (same_ne hg2))
  have HA2 := Lib.hid ((hg2.block w.heap.size (Array.getElem?_eq_some_iff.1 HA1.out).1 (by intro e; simp only [Option.some.injEq] at e; omega)).trans HA1.out)
  have e0 := hev2.2.1
  have ca0 : w2.cell? ⟨w.heap.size, 0, none⟩ = some (Value.int .i64 o) := by rw [Lib.cell_of_heap HA2.out]; rfl
  have ca1 : w2.cell? ⟨w.heap.size, 1, none⟩ = some (Value.int .i64 n) := by rw [Lib.cell_of_heap HA2.out]; rfl
  have ca2 : w2.cell? ⟨w.heap.size, 2, none⟩ = some (Value.string s) := by rw [Lib.cell_of_heap HA2.out]; rfl
  have ca3 : w2.cell? ⟨w.heap.size, 3, none⟩ = some (Value.slice ka ks.length kc) := by rw [Lib.cell_of_heap HA2.out]; rfl
  have ca4' : w2.cell? ⟨w.heap.size, 4, none⟩ = some (Value.slice ma ms.length mc) := by rw [Lib.cell_of_heap HA2.out]; rfl
  clear ca4 hev2 hg2 HB
  rw [if_neg h9] at HSE
  have HAM : Hid (∀ i, Amt (vs.getD i 0)) := fun i => okB_yes (getD_ok HVS.out i)
  have HPN : Hid (∀ W, Below w2.heap.size w2 W → PairsN All W na nl ns) := fun W hW => ((HP.out.kept (same_ne HG2.out)).kept (same_of_below hW)).mono (fun _ _ => trivial)
  have HLK : Hid ((ks.length : Int) = kidsN o) := HPL.out.1
  have HH := Lib.hid HPL.out.2
  have H9 := Lib.hid h9
  clear h9
  by_cases h1 : o = 1
  · subst h1
    have HSV : Hid (sv = ⟨n, 0, fr - (1 + ms.length)⟩) := HSE.out
    go_wp2
    go_ret2
    refine ⟨?_, fun _ => ?_, HG2.out⟩
    · show Ending.returned (.tuple #[.int .i64 n, .int .i64 0]) = _
      rw [HSV.out]
    · rw [HSV.out]; exact HEV2.out
  by_cases h2 : o = 2
  · subst h2
    have HSV : Hid (sv = ⟨(varV ns s).1, (varV ns s).2, fr - (1 + ms.length)⟩) := HSE.out
    have hC : Hid (∀ W, Below w2.heap.size w2 W → Calls Tryz.prog 159 #[.slice na nl nc, .string s] W fun e w' => e = .returned (.tuple #[.int .i64 (varV ns s).1, .int .i64 (varV ns s).2]) ∧ w' = W) := fun W hW => specVar na nl nc ns s W (HPN.out W hW) hnl
    generalize (varV ns s).1 = v at *
    generalize (varV ns s).2 = c at *
    go_wp2_with fail
    go_quiet (first | (go_at_call 159; exact Calls.quiet_of_same (hC.out _ (belowN (Below.refl _ _) _))))
    go_wp2
    go_ret2
    refine ⟨?_, fun _ => ?_, grown_trans HG2.out (grown_any (belowN (Below.refl _ _) nq))⟩
    · show Ending.returned (.tuple #[.int .i64 v, .int .i64 c]) = _
      rw [HSV.out]
    · rw [HSV.out]; exact HEV2.out.kept (belowN (Below.refl _ _) nq)
  have b1 : (o == 1) = false := by simpa using h1
  have b2 : (o == 2) = false := by simpa using h2
  have hpos : 0 < ks.length := by
    have hlk := HLK.out
    unfold kidsN at hlk
    repeat (split at hlk; · omega)
    omega
  obtain ⟨bb, off, rfl, hbl, hcs⟩ := HI2.out.cells hpos
  have x0 := hcs 0 hpos
  rw [Nat.add_zero] at x0
  by_cases h6 : o = 6
  · subst h6
    have hk3 : ks.length = 3 := by have e : kidsN 6 = 3 := rfl; have := HLK.out; omega
    have x1 := hcs 1 (by omega)
    have x2 := hcs 2 (by omega)
    have HSV : Hid (sv = ⟨(partW (vs.getD 0 0) (vs.getD 1 0) (vs.getD 2 0)).1, (partW (vs.getD 0 0) (vs.getD 1 0) (vs.getD 2 0)).2, fr - (1 + ms.length)⟩) := HSE.out
    have hC := Lib.hid (fun W => specPartW (vs.getD 0 0) (vs.getD 1 0) (vs.getD 2 0) W)
    generalize vs.getD 0 0 = v0 at *
    generalize vs.getD 1 0 = v1 at *
    generalize vs.getD 2 0 = v2 at *
    generalize (partW v0 v1 v2).1 = v at *
    generalize (partW v0 v1 v2).2 = c at *
    generalize hkl : ks.length = kl at *
    subst hk3
    clear hcs
    go_wp2_with fail
    go_quiet (first | (go_at_call 160; exact Calls.quiet_of_same (hC.out _)))
    go_wp2
    go_ret2
    refine ⟨?_, fun _ => ?_, grown_trans HG2.out (grown_any (belowN (Below.refl _ _) nq))⟩
    · show Ending.returned (.tuple #[.int .i64 v, .int .i64 c]) = _
      rw [HSV.out]
    · rw [HSV.out]; exact HEV2.out.kept (belowN (Below.refl _ _) nq)
  have b6 : (o == 6) = false := by simpa using h6
  by_cases h10 : o = 10
  · subst h10
    have hk1 : ks.length = 1 := by have e : kidsN 10 = 1 := rfl; have := HLK.out; omega
    have hmo : MOk (mF ms) (mP ms) ms.length := by have := HH.out; unfold HoldsN at this; rw [if_neg (by decide), if_neg (by decide), if_pos rfl] at this; exact this.2.2
    have ham := HAM.out 0
    have HSV : Hid (sv = ⟨(tierV ms (vs.getD 0 0)).1, (tierV ms (vs.getD 0 0)).2, fr - (1 + ms.length)⟩) := HSE.out
    generalize vs.getD 0 0 = v0 at *
    generalize hkl : ks.length = kl at *
    subst hk1
    clear hcs
    rcases Int.lt_or_le v0 0 with c0 | c0
    · have z0 : decide (v0 < 0) = true := decide_eq_true c0
      have HT : Hid (tierV ms v0 = (0, 2)) := by show _ = _; rw [tierV, if_pos c0]
      rw [HT.out] at HSV
      go_wp2
      go_ret2
      refine ⟨?_, fun _ => ?_, HG2.out⟩
      · show Ending.returned (.tuple #[.int .i64 0, .int .i64 2]) = _
        rw [HSV.out]
      · rw [HSV.out]; exact HEV2.out
    · have z0 : decide (v0 < 0) = false := decide_eq_false (by omega)
      have cC : ∀ dd os, Calls Tryz.prog 161 #[.int .i64 v0, .slice ma ms.length mc] (Go.Sort.grow (redrawn w2 dd) os) fun e w'' => e = .returned (.tuple #[.int .i64 (tierV ms v0).1, .int .i64 (tierV ms v0).2]) ∧ ∃ p : Regrown, w'' = Go.Sort.grow (redrawn w2 p.d) p.os := fun dd os => Calls.regrown_of (specTierV ma mc ms v0 _ (((HM.out.kept (same_ne HG2.out)).kept (same_of_below (below_regrown w2 dd os))).mono (fun _ _ => trivial)) hmo c0 ham.2)
      generalize (tierV ms v0).1 = v at *
      generalize (tierV ms v0).2 = c at *
      have r0 := cell_regrown x0
      have r4 := cell_regrown ca4'
      have HMO := Lib.hid hmo
      clear hmo
      go_wp2_with fail
      refine wp_region_quiet_below (by kernel_rfl) (by kernel_rfl) ?_
      repeat (quiet_step (first | exact cC _ _))
      refine wpQuiet_nil ?_
      intro _ hw'
      obtain ⟨⟨dq, osq⟩, hw''⟩ := hw'
      subst hw''
      go_wp2
      go_ret2
      refine ⟨?_, fun _ => ?_, grown_trans HG2.out (grown_any (below_regrown w2 dq osq))⟩
      · show Ending.returned (.tuple #[.int .i64 v, .int .i64 c]) = _
        rw [HSV.out]
      · rw [HSV.out]; exact HEV2.out.kept (below_regrown w2 dq osq)
  have b10 : (o == 10) = false := by simpa using h10
  have b9 : (o == 9) = false := z9
  have ho38 : 3 ≤ o ∧ o ≤ 8 ∧ o ≠ 6 := by have := H9.out; omega
  have hk2 : ks.length = 2 := by
    have e : kidsN o = 2 := by unfold kidsN; rw [if_neg (by omega), if_neg (by omega), if_neg (by omega), if_neg (by omega), if_pos (by omega)]
    have := HLK.out
    omega
  have x1 := hcs 1 (by omega)
  have HSV : Hid (sv = ⟨(twoV o (vs.getD 0 0) (vs.getD 1 0)).1, (twoV o (vs.getD 0 0) (vs.getD 1 0)).2, fr - (1 + ms.length)⟩) := by
    show _ = _
    have e : doR ns o n s ms vs = twoV o (vs.getD 0 0) (vs.getD 1 0) := by unfold doR; rw [if_neg h1, if_neg h2, if_neg h6, if_neg h10]
    rw [HSE.out, e]
  have hC := Lib.hid (fun W => specTwo o (vs.getD 0 0) (vs.getD 1 0) W ho38 (HAM.out 0) (HAM.out 1))
  have HO38 := Lib.hid ho38
  generalize vs.getD 0 0 = v0 at *
  generalize vs.getD 1 0 = v1 at *
  generalize (twoV o v0 v1).1 = v at *
  generalize (twoV o v0 v1).2 = c at *
  generalize hkl : ks.length = kl at *
  subst hk2
  clear hcs h1 h2 h6 h10 ho38
  go_wp2_with fail
  go_quiet (first | (go_at_call 162; exact Calls.quiet_of_same (hC.out _)))
  go_wp2
  go_ret2
  refine ⟨?_, fun _ => ?_, grown_trans HG2.out (grown_any (belowN (Below.refl _ _) nq))⟩
  · show Ending.returned (.tuple #[.int .i64 v, .int .i64 c]) = _
    rw [HSV.out]
  · rw [HSV.out]; exact HEV2.out.kept (belowN (Below.refl _ _) nq)
set_option maxRecDepth 20000 in
set_option maxHeartbeats 16000000 in
theorem ofIf (ns : List (ByteArray × Int)) (n : Int) (s : ByteArray) (ks : List Tr) (ms : List (Int × Int)) (ih : ∀ t ∈ ks, EvAt 102 ns t) : EvAt 102 ns (.node 9 n s ks ms) := by
  generalize ho9 : (9 : Int) = o
  intro f eb fu na nl nc w h hok hev hp hnl f0 f1
  obtain ⟨e1, e2, e3, hm, hk, hc1, hc2⟩ := trF_iff.1 h
  obtain ⟨fo, fn, fs, ka, kl, kc, ma, ml, mc⟩ := f
  dsimp only at e1 e2 e3 hm hk hc1 hc2
  have q1 := e1.symm
  have q2 := e2.symm
  have q3 := e3.symm
  clear e1 e2 e3
  subst q1 q2 q3
  obtain rfl := hk.1
  obtain rfl := hm.1
  obtain ⟨hpl, hoks⟩ := okP_parts hok
  have hw29 : wL ks ≤ 29 := by have := okP_w hok; rw [wT] at this; omega
  have hkb : ks.length ≤ 29 := by have := len_wL ks; omega
  have hm5 := ms_len hpl
  have hin := op_in hpl
  have HK4 : Hid (ks.length = 4) := by show _ = _; rw [← ho9] at hpl; exact if_kids hpl
  have hk4' := HK4.out
  have hA : Below w.heap.size w (w.alloc (.cells #[.int .i64 o, .int .i64 n, .string s, .slice ka ks.length kc, .slice ma ms.length mc] 38)) := (Below.refl _ _).alloc (Nat.le_refl _) _
  have hArg : (w.alloc (.cells #[.int .i64 o, .int .i64 n, .string s, .slice ka ks.length kc, .slice ma ms.length mc] 38)).heap[w.heap.size]? = some (.cells #[.int .i64 o, .int .i64 n, .string s, .slice ka ks.length kc, .slice ma ms.length mc] 38 (0, 0)) := heap_alloc_new w _
  have hsz : (w.alloc (.cells #[.int .i64 o, .int .i64 n, .string s, .slice ka ks.length kc, .slice ma ms.length mc] 38)).heap.size = w.heap.size + 1 := by simp
  have heb := hev.1
  have HK := Lib.hid (kidsN' ns o n s ks ma ms.length mc ka kc 2 eb fu na nl nc _ ih (hk.kept (same_of_below hA)) hoks (by omega) hkb (hev.kept hA) (hp.kept (same_of_below hA)) hnl f0 f1)
  have hqo := seqF_ok ((ks.map (evalT ns)).take 2) fu f0 (fun g hg fu hf => by
    obtain ⟨t, ht, rfl⟩ := List.mem_map.1 (List.mem_of_mem_take hg)
    exact eval_ok ns _ t (Nat.le_refl _) (hoks t ht) fu hf)
  have hql : ((ks.map (evalT ns)).take 2).length = 2 := by rw [List.length_take, List.length_map]; omega
  rw [hql] at hqo
  have HE := Lib.hid (evalN (ns := ns) (o := o) (n := n) (s := s) (ks := ks) (ms := ms) (fu := fu) rfl)
  have IH := Lib.hid ih
  have HM := Lib.hid hm
  have HR := Lib.hid hk
  have HPL := Lib.hid hpl
  have HOKS := Lib.hid hoks
  have HP := Lib.hid hp
  have HA := Lib.hid hA
  have HArg := Lib.hid hArg
  have em : IntKind.i64.wrap (1 + (ms.length : Int)) = 1 + (ms.length : Int) := IntWalk.i64_in _ (by omega)
  clear h hm hk hc1 hc2 hpl hoks hok hA hArg hql hp
  unfold KidsP at HK
  unfold EvP
  unfold Fld.val
  dsimp only
  rw [if_pos ho9.symm] at HE
  have e22 : ((2 : Nat) : Int) = 2 := rfl
  rw [e22] at HK
  generalize hqv : seqF ((ks.map (evalT ns)).take 2) fu = q at *
  obtain ⟨vs, cd, fr⟩ := q
  dsimp only at *
  obtain ⟨⟨qc0, qc1⟩, ⟨qf0, qf1⟩, hqv2, hql2⟩ := hqo
  have HVS := Lib.hid hqv2
  have HVL := Lib.hid hql2
  generalize evalT ns (.node o n s ks ms) fu = sv at *
  clear hqv hqv2 hql2
  subst ho9
  clear hk4'
  go_enter Tryz.func102, Tryz.ntmps102
  go_wp2_with fail
  generalize hW0 : (w.alloc (.cells #[.int .i64 9, .int .i64 n, .string s, .slice ka ks.length kc, .slice ma ms.length mc] 38)) = W0 at *
  clear hW0
  have sz0 : w.heap.size < W0.heap.size := by omega
  refine HK.out.mono ?_
  rintro e w1 ⟨a, m, cp, rfl, hr, hg1⟩
  have HG1 : Hid (w.grownBy w1 (some eb)) := grown_trans (grown_any HA.out) hg1
  have HA1 := Lib.hid ((hg1.block w.heap.size sz0 (by intro e; simp only [Option.some.injEq] at e; omega)).trans HArg.out)
  clear hg1 HK
  by_cases hc : cd = 0
  rotate_left
  · have z : (cd != 0) = true := by simpa using hc
    have HSV : Hid (sv = ⟨0, cd, fr⟩) := by show _ = _; rw [HE.out, if_pos hc]
    have HC := Lib.hid hc
    clear hc
    go_wp2
    go_ret2
    refine ⟨?_, fun h => ?_, HG1.out⟩
    · show Ending.returned (.tuple #[.int .i64 0, .int .i64 cd]) = _
      rw [HSV.out]
    · rw [HSV.out] at h; exact absurd h HC.out
  subst hc
  obtain ⟨hints, hev1⟩ := hr.out rfl
  have HI := Lib.hid hints
  have HEV1 := Lib.hid hev1
  have hmk : m = 2 := by have h1 := hints.1; have h2 := HVL.out rfl; omega
  subst hmk
  have ca4 : w1.cell? ⟨w.heap.size, 4, none⟩ = some (Value.slice ma ms.length mc) := by rw [Lib.cell_of_heap HA1.out]; rfl
  clear hints hev1 hr
  rcases Int.lt_or_le fr (1 + (ms.length : Int)) with hb | hb
  · have HSV : Hid (sv = ⟨0, 1, fr⟩) := by show _ = _; rw [HE.out, if_neg (by simp), if_pos hb]
    have HB := Lib.hid (burnNo (1 + (ms.length : Int)) fr eb na nl nc w1 hb HEV1.out)
    go_wp2_with fail
    refine HB.out.mono ?_
    rintro e w2 ⟨rfl, rfl⟩
    go_wp2
    go_ret2
    refine ⟨?_, fun h => ?_, HG1.out⟩
    · show Ending.returned (.tuple #[.int .i64 0, .int .i64 1]) = _
      rw [HSV.out]
    · rw [HSV.out] at h; cases h
  have HB := Lib.hid (burnYes (1 + (ms.length : Int)) fr eb na nl nc w1 hb (by omega) (by omega) HEV1.out)
  have HSE := Lib.hid HE.out
  rw [if_neg (by simp), if_neg (by omega)] at HSE
  go_wp2_with fail
  refine HB.out.mono ?_
  rintro e w2 ⟨rfl, hev2, hg2⟩
  have HEV2 := Lib.hid hev2
  have HG2 := Lib.hid (grown_trans HG1.out hg2)
  have HI2 := Lib.hid (HI.out.kept (same_ne hg2))
  have HA2 := Lib.hid ((hg2.block w.heap.size (Array.getElem?_eq_some_iff.1 HA1.out).1 (by intro e; simp only [Option.some.injEq] at e; omega)).trans HA1.out)
  have e0 := hev2.2.1
  have ca0 : w2.cell? ⟨w.heap.size, 0, none⟩ = some (Value.int .i64 9) := by rw [Lib.cell_of_heap HA2.out]; rfl
  have ca1 : w2.cell? ⟨w.heap.size, 1, none⟩ = some (Value.int .i64 n) := by rw [Lib.cell_of_heap HA2.out]; rfl
  have ca2 : w2.cell? ⟨w.heap.size, 2, none⟩ = some (Value.string s) := by rw [Lib.cell_of_heap HA2.out]; rfl
  have ca3 : w2.cell? ⟨w.heap.size, 3, none⟩ = some (Value.slice ka ks.length kc) := by rw [Lib.cell_of_heap HA2.out]; rfl
  have ca4' : w2.cell? ⟨w.heap.size, 4, none⟩ = some (Value.slice ma ms.length mc) := by rw [Lib.cell_of_heap HA2.out]; rfl
  clear ca4 hev2 hg2 HB
  rw [if_pos trivial] at HSE
  obtain ⟨bb, off, rfl, hbl, hcs⟩ := HI2.out.cells (by omega)
  have x0 := hcs 0 (by omega)
  rw [Nat.add_zero] at x0
  have x1 := hcs 1 (by omega)
  obtain ⟨k0, k1, k2, k3, rfl⟩ := four HK4.out
  obtain ⟨b, offk, rfl, -, hblk, hrow⟩ := (HR.out.kept (same_ne HG2.out)).cells (by simp)
  obtain ⟨g2, c2, t2⟩ := hrow 2 (by simp)
  obtain ⟨g3, c3, t3⟩ := hrow 3 (by simp)
  have hgd2 : ([k0, k1, k2, k3].map (evalT ns)).getD 2 noSaid = evalT ns k2 := rfl
  have hgd3 : ([k0, k1, k2, k3].map (evalT ns)).getD 3 noSaid = evalT ns k3 := rfl
  rw [hgd2, hgd3] at HSE
  have T2 := Lib.hid t2
  have T3 := Lib.hid t3
  have C2 := Lib.hid c2
  have C3 := Lib.hid c3
  have FV : Hid (0 ≤ fr - (1 + (ms.length : Int)) ∧ fr - (1 + (ms.length : Int)) ≤ 1000) := ⟨by omega, by omega⟩
  have J2 : Hid (∀ m, Calls Tryz.prog 102 #[.pointer (some ⟨eb, 0, none⟩), g2.val] (w2.drewN m) (EvP ns k2 (fr - (1 + ms.length)) eb na nl nc (w2.drewN m))) := fun m => IH.out k2 (by simp) g2 eb _ na nl nc _ (T2.out.kept (same_of_below (belowN (Below.refl _ _) m))) (HOKS.out k2 (by simp)) (HEV2.out.kept (belowN (Below.refl _ _) m)) ((HP.out.kept (same_ne HG2.out)).kept (same_of_below (belowN (Below.refl _ _) m))) hnl FV.out.1 FV.out.2
  have J3 : Hid (∀ m, Calls Tryz.prog 102 #[.pointer (some ⟨eb, 0, none⟩), g3.val] (w2.drewN m) (EvP ns k3 (fr - (1 + ms.length)) eb na nl nc (w2.drewN m))) := fun m => IH.out k3 (by simp) g3 eb _ na nl nc _ (T3.out.kept (same_of_below (belowN (Below.refl _ _) m))) (HOKS.out k3 (by simp)) (HEV2.out.kept (belowN (Below.refl _ _) m)) ((HP.out.kept (same_ne HG2.out)).kept (same_of_below (belowN (Below.refl _ _) m))) hnl FV.out.1 FV.out.2
  generalize vs.getD 0 0 = v0 at *
  generalize vs.getD 1 0 = v1 at *
  have hl4 : ([k0, k1, k2, k3] : List Tr).length = 4 := rfl
  clear hcs hrow t2 t3
  rcases Int.lt_or_le v0 v1 with c | c
  · have z : decide (v0 < v1) = true := decide_eq_true c
    have HSV : Hid (sv = evalT ns k2 (fr - (1 + ms.length))) := by show _ = _; rw [HSE.out, if_pos c]
    obtain ⟨y0, y1, y2, y3, y4⟩ : CellsF w2 b (offk + 10) g2 := c2
    clear c c3
    unfold EvP at J2
    generalize evalT ns k2 (fr - (1 + ms.length)) = s2 at *
    obtain ⟨vv, vc, vf⟩ := s2
    dsimp only at *
    go_wp2_with fail
    go_quiet (fail)
    go_wp2_with fail
    refine (J2.out _).mono ?_
    rintro e w3 ⟨rfl, hev3, hg3⟩
    go_wp2
    go_ret2
    refine ⟨?_, fun h => ?_, grown_trans HG2.out (grown_trans (grown_any (belowN (Below.refl _ _) nq)) hg3)⟩
    · show Ending.returned (.tuple #[.int .i64 vv, .int .i64 vc]) = _
      rw [HSV.out]
    · rw [HSV.out] at h ⊢; exact hev3.out h
  · have z : decide (v0 < v1) = false := decide_eq_false (by omega)
    have HSV : Hid (sv = evalT ns k3 (fr - (1 + ms.length))) := by show _ = _; rw [HSE.out, if_neg (by omega)]
    obtain ⟨y0, y1, y2, y3, y4⟩ : CellsF w2 b (offk + 15) g3 := c3
    clear c c2
    unfold EvP at J3
    generalize evalT ns k3 (fr - (1 + ms.length)) = s2 at *
    obtain ⟨vv, vc, vf⟩ := s2
    dsimp only at *
    go_wp2_with fail
    go_quiet (fail)
    go_wp2_with fail
    refine (J3.out _).mono ?_
    rintro e w3 ⟨rfl, hev3, hg3⟩
    go_wp2
    go_ret2
    refine ⟨?_, fun h => ?_, grown_trans HG2.out (grown_trans (grown_any (belowN (Below.refl _ _) nq)) hg3)⟩
    · show Ending.returned (.tuple #[.int .i64 vv, .int .i64 vc]) = _
      rw [HSV.out]
    · rw [HSV.out] at h ⊢; exact hev3.out h
theorem ofC (ns : List (ByteArray × Int)) : ∀ (k : Nat) (t : Tr), wT t ≤ k → EvAt 102 ns t
  | 0, .node o n s ks ms, hw => by rw [wT] at hw; omega
  | k + 1, .node o n s ks ms, hw => by
    rw [wT] at hw
    by_cases h9 : o = 9
    · subst h9
      exact ofIf ns n s ks ms (fun t ht => ofC ns k t (by have := wL_mem ht; omega))
    · exact ofOp ns o n s ks ms h9 (fun t ht => ofC ns k t (by have := wL_mem ht; omega))
end Go.Proofs.YtemjooejfmkkbaaGreatDoor
