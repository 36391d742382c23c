/-
  How much fuel a rule needs: the program's answer; RuleCost of both.
-/
import Derived.Test.YtemjooejfmkkbaaGreatDoorJ28
namespace Go.Proofs.YtemjooejfmkkbaaGreatDoor
open Go.RowKit
set_option linter.unusedVariables false
set_option linter.unusedSimpArgs false

set_option maxHeartbeats 4000000 in
theorem first9C (n : Int) (s : ByteArray) (b off kc : Nat) (ma : Option Addr) (m mc : Nat) (w : World) (hc : 4 ≤ kc) :
    Calls Tryz.prog 156 #[.agg #[.int .i64 9, .int .i64 n, .string s, .slice (some ⟨b, off, none⟩) 4 kc, .slice ma m mc]] w fun e w' => e = .returned (.slice (some ⟨b, off, none⟩) 2 kc) ∧ Below w.heap.size w w' := by
  have h2 : (2 : Int) ≤ (kc : Int) := by omega
  have h2n : 2 ≤ kc := by omega
  go_enter Tryz.func156, Tryz.ntmps156
  go_wp2
  go_ret
  exact ⟨rfl, (Below.refl _ _).alloc (Nat.le_refl _) _⟩
set_option maxHeartbeats 4000000 in
theorem firstNC (o n : Int) (s : ByteArray) (ka : Option Addr) (k kc : Nat) (ma : Option Addr) (m mc : Nat) (w : World) (h9 : o ≠ 9) :
    Calls Tryz.prog 156 #[.agg #[.int .i64 o, .int .i64 n, .string s, .slice ka k kc, .slice ma m mc]] w fun e w' => e = .returned (.slice ka k kc) ∧ Below w.heap.size w w' := by
  have z9 : (o == 9) = false := by simpa using h9
  clear h9
  go_enter Tryz.func156, Tryz.ntmps156
  go_wp2
  go_ret
  exact ⟨rfl, (Below.refl _ _).alloc (Nat.le_refl _) _⟩
set_option maxRecDepth 20000 in
set_option maxHeartbeats 8000000 in
theorem costIfI (n : Int) (s : ByteArray) (k0 k1 k2 k3 : Tr) (ms : List (Int × Int)) (i0 : CostAt 103 k0) (i1 : CostAt 103 k1) (i2 : CostAt 103 k2) (i3 : CostAt 103 k3) : CostAt 103 (.node 9 n s [k0, k1, k2, k3] ms) := by
  intro f w h hok
  obtain ⟨e1, e2, e3, hm, hk, hc1, hc2⟩ := trF_iff.1 h
  obtain ⟨fo, fn, fs, ka, kl, kc, ma, ml, mc⟩ := f
  dsimp only at e1 e2 e3 hm hk hc1 hc2
  have q1 := e1.symm
  have q2 := e2.symm
  have q3 := e3.symm
  clear e1 e2 e3
  subst q1 q2 q3
  obtain rfl : kl = 4 := hk.1
  obtain rfl := hm.1
  obtain ⟨hpl, hoks⟩ := okP_parts hok
  have hm5 := ms_len hpl
  have b0 := cost_bd _ k0 (Nat.le_refl _) (hoks k0 (by simp))
  have b1 := cost_bd _ k1 (Nat.le_refl _) (hoks k1 (by simp))
  have b2 := cost_bd _ k2 (Nat.le_refl _) (hoks k2 (by simp))
  have b3 := cost_bd _ k3 (Nat.le_refl _) (hoks k3 (by simp))
  have hw30 := okP_w hok
  simp only [wT, wL] at hw30
  have K0 := Lib.hid (hoks k0 (by simp))
  have K1 := Lib.hid (hoks k1 (by simp))
  have K2 := Lib.hid (hoks k2 (by simp))
  have K3 := Lib.hid (hoks k3 (by simp))
  have I0 := Lib.hid i0
  have I1 := Lib.hid i1
  have I2 := Lib.hid i2
  have I3 := Lib.hid i3
  obtain ⟨b, off, g0, g1, g2, g3, rfl, hR⟩ := four_rows hk
  have HR := Lib.hid hR
  have HE : Hid (costT (.node 9 n s [k0, k1, k2, k3] ms) = 1 + ms.length + (costT k0 + costT k1 + (if costT k2 < costT k3 then costT k3 else costT k2))) := by show _ = _; rw [costT, if_pos rfl, costsL_eq]; rfl
  have hF : Hid (∀ W, Calls Tryz.prog 156 #[.agg #[.int .i64 9, .int .i64 n, .string s, .slice (some ⟨b, off, none⟩) 4 kc, .slice ma ms.length mc]] W fun e w' => e = .returned (.slice (some ⟨b, off, none⟩) 2 kc) ∧ Below W.heap.size W w') := fun W => first9C n s b off kc ma ms.length mc W hc1
  clear h hm hk hc1 hc2 hpl hoks hok i0 i1 i2 i3 hR
  unfold Fld.val
  dsimp only
  have hA : Below w.heap.size w (w.alloc (.cells #[.int .i64 9, .int .i64 n, .string s, .slice (some ⟨b, off, none⟩) 4 kc, .slice ma ms.length mc] 38)) := (Below.refl _ _).alloc (Nat.le_refl _) _
  have hArg : (w.alloc (.cells #[.int .i64 9, .int .i64 n, .string s, .slice (some ⟨b, off, none⟩) 4 kc, .slice ma ms.length mc] 38)).heap[w.heap.size]? = some (.cells #[.int .i64 9, .int .i64 n, .string s, .slice (some ⟨b, off, none⟩) 4 kc, .slice ma ms.length mc] 38 (0, 0)) := heap_alloc_new w _
  have HA := Lib.hid hA
  have HArg := Lib.hid hArg
  clear hA hArg
  have em : IntKind.i64.wrap (1 + (ms.length : Int)) = 1 + (ms.length : Int) := IntWalk.i64_in _ (by omega)
  have V0 : Hid (∀ W, Below w.heap.size w W → Calls Tryz.prog 103 #[g0.val] W fun e w' => e = .returned (.int .i64 (costT k0)) ∧ Below W.heap.size W w') := fun W hW => I0.out g0 W (HR.out W hW).2.1 K0.out
  have V1 : Hid (∀ W, Below w.heap.size w W → Calls Tryz.prog 103 #[g1.val] W fun e w' => e = .returned (.int .i64 (costT k1)) ∧ Below W.heap.size W w') := fun W hW => I1.out g1 W (HR.out W hW).2.2.1 K1.out
  have V2 : Hid (∀ W, Below w.heap.size w W → Calls Tryz.prog 103 #[g2.val] W fun e w' => e = .returned (.int .i64 (costT k2)) ∧ Below W.heap.size W w') := fun W hW => I2.out g2 W (HR.out W hW).2.2.2.1 K2.out
  have V3 : Hid (∀ W, Below w.heap.size w W → Calls Tryz.prog 103 #[g3.val] W fun e w' => e = .returned (.int .i64 (costT k3)) ∧ Below W.heap.size W w') := fun W hW => I3.out g3 W (HR.out W hW).2.2.2.2 K3.out
  generalize costT k0 = v0 at *
  generalize costT k1 = v1 at *
  generalize costT k2 = v2 at *
  generalize costT k3 = v3 at *
  go_enter Tryz.func103, Tryz.ntmps103
  go_wp2_with fail
  generalize hW0 : (w.alloc (.cells #[.int .i64 9, .int .i64 n, .string s, .slice (some ⟨b, off, none⟩) 4 kc, .slice ma ms.length mc] 38)) = W0 at *
  clear hW0
  have sz0 : w.heap.size < W0.heap.size := (Array.getElem?_eq_some_iff.1 HArg.out).1
  refine (hF.out W0).mono ?_
  rintro e wf ⟨rfl, df⟩
  have HAf := Lib.hid (HA.out.trans (df.mono HA.out.size))
  have HArgf := Lib.hid ((df.block _ sz0).trans HArg.out)
  clear df
  go_wp2_with fail
  go_loopw [3, 13] (fun vn vi wr => ∃ (k : Nat) (m : Int), k ≤ 2 ∧ vn = .int .i64 m ∧ vi = .int .i64 k ∧ Hid (m = 1 + ms.length + (if k = 0 then 0 else if k = 1 then v0 else v0 + v1)) ∧ Below wf.heap.size wf wr) (fun _ vi _ => 2 - (intOf vi).toNat)
  case atStart => exact ⟨0, _, by omega, rfl, rfl, by show _ = _; simp, Below.refl _ _⟩
  case round =>
    obtain ⟨k, m, hk, rfl, rfl, hp, hb⟩ := hrel
    have hbw := Lib.hid (HAf.out.trans (hb.mono HAf.out.size))
    have hcase : k = 0 ∨ k = 1 ∨ k = 2 := by omega
    rcases hcase with rfl | rfl | rfl
    · have hm := hp.out
      rw [if_pos rfl] at hm
      obtain ⟨⟨⟨y00, y01, y02, y03, y04⟩, -, -, -⟩, -⟩ := HR.out _ hbw.out
      have hXB : Below wr.heap.size wr (wr.alloc (.cells #[.int .i64 g0.op, .int .i64 g0.num, .string g0.name, .slice g0.ka g0.kl g0.kc, .slice g0.ma g0.ml g0.mc] 38)) := (Below.refl _ _).alloc (Nat.le_refl _) _
      have J := Lib.hid (V0.out _ (hbw.out.trans (hXB.mono hbw.out.size)))
      have HXB := Lib.hid hXB
      have nv : IntKind.i64.wrap (m + v0) = m + v0 := IntWalk.i64_in _ (by omega)
      have HM := Lib.hid hm
      clear hXB hm
      go_wp2_with fail
      refine J.out.mono ?_
      rintro e w2 ⟨rfl, d2⟩
      clear y00 y01 y02 y03 y04
      have hb2 : Below wf.heap.size wf w2 := hb.trans ((HXB.out.trans (d2.mono HXB.out.size)).mono hb.size)
      clear d2
      go_wp2
      go_roundw
      case rel => exact ⟨1, m + v0, by omega, rfl, by go_num, by show _ = _; rw [if_neg (by decide), if_pos rfl]; have := HM.out; omega, hb2⟩
      case measure => simp [intOf]
    · have hm := hp.out
      rw [if_neg (by decide), if_pos rfl] at hm
      obtain ⟨⟨-, ⟨y00, y01, y02, y03, y04⟩, -, -⟩, -⟩ := HR.out _ hbw.out
      have hXB : Below wr.heap.size wr (wr.alloc (.cells #[.int .i64 g1.op, .int .i64 g1.num, .string g1.name, .slice g1.ka g1.kl g1.kc, .slice g1.ma g1.ml g1.mc] 38)) := (Below.refl _ _).alloc (Nat.le_refl _) _
      have J := Lib.hid (V1.out _ (hbw.out.trans (hXB.mono hbw.out.size)))
      have HXB := Lib.hid hXB
      have nv : IntKind.i64.wrap (m + v1) = m + v1 := IntWalk.i64_in _ (by omega)
      have HM := Lib.hid hm
      clear hXB hm
      go_wp2_with fail
      refine J.out.mono ?_
      rintro e w2 ⟨rfl, d2⟩
      clear y00 y01 y02 y03 y04
      have hb2 : Below wf.heap.size wf w2 := hb.trans ((HXB.out.trans (d2.mono HXB.out.size)).mono hb.size)
      clear d2
      go_wp2
      go_roundw
      case rel => exact ⟨2, m + v1, by omega, rfl, by go_num, by show _ = _; rw [if_neg (by decide), if_neg (by decide)]; have := HM.out; omega, hb2⟩
      case measure => simp [intOf]
    · have hm := hp.out
      rw [if_neg (by decide), if_neg (by decide)] at hm
      have argr := (hb.block _ (Array.getElem?_eq_some_iff.1 HArgf.out).1).trans HArgf.out
      have ca0 : wr.cell? ⟨w.heap.size, 0, none⟩ = some (Value.int .i64 9) := by rw [Lib.cell_of_heap argr]; rfl
      have ca3 : wr.cell? ⟨w.heap.size, 3, none⟩ = some (Value.slice (some ⟨b, off, none⟩) 4 kc) := by rw [Lib.cell_of_heap argr]; rfl
      obtain ⟨⟨-, -, ⟨y20, y21, y22, y23, y24⟩, ⟨y30, y31, y32, y33, y34⟩⟩, -⟩ := HR.out _ hbw.out
      have c2 : ∀ dd os, Calls Tryz.prog 103 #[.agg #[.int .i64 g2.op, .int .i64 g2.num, .string g2.name, .slice g2.ka g2.kl g2.kc, .slice g2.ma g2.ml g2.mc]] (Go.Sort.grow (redrawn wr dd) os) fun e w'' => e = .returned (.int .i64 v2) ∧ ∃ p : Regrown, w'' = Go.Sort.grow (redrawn wr p.d) p.os := fun dd os => Calls.regrown_of (V2.out _ (hbw.out.trans ((below_regrown wr dd os).mono hbw.out.size)))
      have c3 : ∀ dd os, Calls Tryz.prog 103 #[.agg #[.int .i64 g3.op, .int .i64 g3.num, .string g3.name, .slice g3.ka g3.kl g3.kc, .slice g3.ma g3.ml g3.mc]] (Go.Sort.grow (redrawn wr dd) os) fun e w'' => e = .returned (.int .i64 v3) ∧ ∃ p : Regrown, w'' = Go.Sort.grow (redrawn wr p.d) p.os := fun dd os => Calls.regrown_of (V3.out _ (hbw.out.trans ((below_regrown wr dd os).mono hbw.out.size)))
      have r3 := cell_regrown ca3
      have r20 := cell_regrown y20
      have r21 := cell_regrown y21
      have r22 := cell_regrown y22
      have r23 := cell_regrown y23
      have r24 := cell_regrown y24
      have r30 := cell_regrown y30
      have r31 := cell_regrown y31
      have r32 := cell_regrown y32
      have r33 := cell_regrown y33
      have r34 := cell_regrown y34
      have HM := Lib.hid hm
      have hmx : max v2 v3 = if v2 < v3 then v3 else v2 := by rcases Int.lt_or_le v2 v3 with c | c
                                                              · rw [if_pos c, Int.max_eq_right (by omega)]
                                                              · rw [if_neg (by omega), Int.max_eq_left c]
      have HMX := Lib.hid hmx
      have nx : IntKind.i64.wrap (m + max v2 v3) = m + max v2 v3 := IntWalk.i64_in _ (by rw [hmx]; split <;> omega)
      clear hmx
      clear hm argr y20 y21 y22 y23 y24 y30 y31 y32 y33 y34
      go_wp2_with fail
      refine wp_region_quiet_below (by kernel_rfl) (by kernel_rfl) ?_
      repeat (quiet_step (first | (go_at_call_of 103 (Value.int IntKind.i64 g2.op); exact c2 _ _) | (go_at_call_of 103 (Value.int IntKind.i64 g3.op); exact c3 _ _)))
      refine wpQuiet_nil ?_
      intro _ hw'
      obtain ⟨⟨dq, osq⟩, hw''⟩ := hw'
      subst hw''
      go_wp2
      go_ret
      exact ⟨retI (by rw [HE.out, ← HMX.out]; have := HM.out; omega), hbw.out.trans ((below_regrown wr dq osq).mono hbw.out.size)⟩
set_option maxRecDepth 20000 in
set_option maxHeartbeats 8000000 in
theorem costNI (o n : Int) (s : ByteArray) (ks : List Tr) (ms : List (Int × Int)) (h9 : o ≠ 9) (ih : ∀ t ∈ ks, CostAt 103 t) : CostAt 103 (.node o n s ks ms) := by
  intro f w h hok
  obtain ⟨e1, e2, e3, hm, hk, hc1, hc2⟩ := trF_iff.1 h
  obtain ⟨fo, fn, fs, ka, kl, kc, ma, ml, mc⟩ := f
  dsimp only at e1 e2 e3 hm hk hc1 hc2
  have q1 := e1.symm
  have q2 := e2.symm
  have q3 := e3.symm
  clear e1 e2 e3
  subst q1 q2 q3
  obtain rfl := hk.1
  obtain rfl := hm.1
  obtain ⟨hpl, hoks⟩ := okP_parts hok
  have hw29 : wL ks ≤ 29 := by have := okP_w hok; rw [wT] at this; omega
  have hm5 := ms_len hpl
  have hkb : ks.length ≤ 29 := by have := len_wL ks; omega
  have HK := Lib.hid hk
  have IH := Lib.hid ih
  have HOK := Lib.hid hoks
  have HCB : Hid (∀ t ∈ ks, 1 ≤ costT t ∧ costT t ≤ 180) := fun t ht => by
    have h1 := cost_bd _ t (Nat.le_refl _) (hoks t ht)
    have h2 := okP_w (hoks t ht)
    omega
  have HE : Hid (costT (.node o n s ks ms) = 1 + ms.length + (ks.map costT).sum) := by show _ = _; rw [costT, if_neg h9, costsL_eq]
  have z9 : (o == 9) = false := by simpa using h9
  have hF : Hid (∀ W, Calls Tryz.prog 156 #[.agg #[.int .i64 o, .int .i64 n, .string s, .slice ka ks.length kc, .slice ma ms.length mc]] W fun e w' => e = .returned (.slice ka ks.length kc) ∧ Below W.heap.size W w') := fun W => firstNC o n s ka ks.length kc ma ms.length mc W h9
  clear h hm hk hc1 hc2 hpl hoks hok h9
  unfold Fld.val
  dsimp only
  have hA : Below w.heap.size w (w.alloc (.cells #[.int .i64 o, .int .i64 n, .string s, .slice ka ks.length kc, .slice ma ms.length mc] 38)) := (Below.refl _ _).alloc (Nat.le_refl _) _
  have hArg : (w.alloc (.cells #[.int .i64 o, .int .i64 n, .string s, .slice ka ks.length kc, .slice ma ms.length mc] 38)).heap[w.heap.size]? = some (.cells #[.int .i64 o, .int .i64 n, .string s, .slice ka ks.length kc, .slice ma ms.length mc] 38 (0, 0)) := heap_alloc_new w _
  have HA := Lib.hid hA
  have HArg := Lib.hid hArg
  clear hA hArg
  have em : IntKind.i64.wrap (1 + (ms.length : Int)) = 1 + (ms.length : Int) := IntWalk.i64_in _ (by omega)
  go_enter Tryz.func103, Tryz.ntmps103
  go_wp2_with fail
  generalize hW0 : (w.alloc (.cells #[.int .i64 o, .int .i64 n, .string s, .slice ka ks.length kc, .slice ma ms.length mc] 38)) = W0 at *
  clear hW0
  have sz0 : w.heap.size < W0.heap.size := (Array.getElem?_eq_some_iff.1 HArg.out).1
  refine (hF.out W0).mono ?_
  rintro e wf ⟨rfl, df⟩
  have HAf := Lib.hid (HA.out.trans (df.mono HA.out.size))
  have HArgf := Lib.hid ((df.block _ sz0).trans HArg.out)
  clear df
  go_wp2_with fail
  go_loopw [3, 13] (fun vn vi wr => ∃ (k : Nat) (m : Int), k ≤ ks.length ∧ vn = .int .i64 m ∧ vi = .int .i64 k ∧ 0 ≤ m ∧ m ≤ 6 + 180 * k ∧ Hid (m = 1 + ms.length + ((ks.take k).map costT).sum) ∧ Below wf.heap.size wf wr) (fun _ vi _ => ks.length - (intOf vi).toNat)
  case atStart => exact ⟨0, _, Nat.zero_le _, rfl, rfl, by omega, by omega, by show _ = _; simp, Below.refl _ _⟩
  case round =>
    obtain ⟨k, m, hk, rfl, rfl, m0, m1, hp, hb⟩ := hrel
    have hbw : Below w.heap.size w wr := HAf.out.trans (hb.mono HAf.out.size)
    rcases Nat.lt_or_ge k ks.length with hlt | hge
    · have k1 : (k : Int) < ks.length := by omega
      have k0 : (0 : Int) ≤ k := by omega
      obtain ⟨b, off, rfl, -, hbl, hrow⟩ := (HK.out.kept (same_of_below (N := All) hbw)).cells (by omega)
      obtain ⟨f, ⟨y0, y1, y2, y3, y4⟩, ht⟩ := hrow k hlt
      have hXB : Below wr.heap.size wr (wr.alloc (.cells #[.int .i64 f.op, .int .i64 f.num, .string f.name, .slice f.ka f.kl f.kc, .slice f.ma f.ml f.mc] 38)) := (Below.refl _ _).alloc (Nat.le_refl _) _
      have hcall := Lib.hid (IH.out ks[k] (List.getElem_mem _) f _ (ht.kept (same_of_below hXB)) (HOK.out _ (List.getElem_mem _)))
      have HXB := Lib.hid hXB
      have hcb := HCB.out ks[k] (List.getElem_mem _)
      have HS := Lib.hid (sum_take costT ks k hlt)
      clear hrow hbl ht hXB
      generalize costT ks[k] = v at *
      have nv : IntKind.i64.wrap (m + v) = m + v := IntWalk.i64_in _ (by omega)
      go_wp2_with fail
      refine hcall.out.mono ?_
      rintro e w2 ⟨rfl, d2⟩
      clear y0 y1 y2 y3 y4
      have hb2 : Below wf.heap.size wf w2 := hb.trans ((HXB.out.trans (d2.mono HXB.out.size)).mono hb.size)
      clear d2
      go_wp2
      go_roundw
      case rel => exact ⟨k + 1, m + v, by omega, rfl, by go_num, by omega, by omega, by show _ = _; rw [HS.out]; have := hp.out; omega, hb2⟩
      case measure => simp [intOf]; omega
    · obtain rfl : k = ks.length := by omega
      rw [List.take_length] at hp
      have argr := (hb.block _ (Array.getElem?_eq_some_iff.1 HArgf.out).1).trans HArgf.out
      have ca0 : wr.cell? ⟨w.heap.size, 0, none⟩ = some (Value.int .i64 o) := by rw [Lib.cell_of_heap argr]; rfl
      clear argr
      go_wp2
      go_ret
      exact ⟨retI (by rw [HE.out]; exact hp.out), hbw⟩
theorem costIC : ∀ (k : Nat) (t : Tr), wT t ≤ k → CostAt 103 t
  | 0, .node o n s ks ms, hw => by rw [wT] at hw; omega
  | k + 1, .node o n s ks ms, hw => by
    rw [wT] at hw
    by_cases h9 : o = 9
    · intro f w h hok
      obtain ⟨hpl, hoks⟩ := okP_parts hok
      subst h9
      obtain ⟨k0, k1, k2, k3, rfl⟩ := four (if_kids hpl)
      simp only [wL] at hw
      exact costIfI n s k0 k1 k2 k3 ms (costIC k k0 (by omega)) (costIC k k1 (by omega)) (costIC k k2 (by omega)) (costIC k k3 (by omega)) f w h hok
    · exact costNI o n s ks ms h9 (fun t ht => costIC k t (by have := wL_mem ht; omega))
def costR (t : Tr) : Int := if okR t then costT t else 0
set_option maxHeartbeats 4000000 in
theorem specRuleCost {t : Tr} {f : Fld} {w : World} (h : TrF All w t f) (hs : szT t ≤ 1048576) :
    Calls Tryz.prog 43 #[f.val] w fun e w' => e = .returned (.int .i64 (costR t)) ∧ Below w.heap.size w w' := by
  have hA : Below w.heap.size w (w.alloc (RBox f)) := (Below.refl _ _).alloc (Nat.le_refl _) _
  have hArg : (w.alloc (RBox f)).heap[w.heap.size]? = some (RBox f) := heap_alloc_new w _
  have hP := Lib.hid (specRuleOk (h.kept (same_of_below hA)) hs)
  have H := Lib.hid h
  have HA := Lib.hid hA
  clear h hA hs
  unfold Fld.val
  by_cases c : okR t
  · have z : Hid (decide (okR t) = true) := decide_eq_true c
    have hok : Hid (OkP t) := okR_P c.1
    have HArg := Lib.hid hArg
    rw [show costR t = costT t from by rw [costR, if_pos c]]
    clear hArg c
    rw [z.out] at hP
    go_enter Tryz.func43, Tryz.ntmps43
    go_wp2_with fail
    refine hP.out.mono ?_
    rintro e w1 ⟨rfl, d1⟩
    have arg1 := (d1.block _ (by simp)).trans HArg.out
    have hB1 := Lib.hid (HA.out.trans (d1.mono HA.out.size))
    unfold RBox at arg1
    have y0 : w1.cell? ⟨w.heap.size, 0, none⟩ = some (.int .i64 f.op) := by rw [Lib.cell_of_heap arg1]; rfl
    have y1 : w1.cell? ⟨w.heap.size, 1, none⟩ = some (.int .i64 f.num) := by rw [Lib.cell_of_heap arg1]; rfl
    have y2 : w1.cell? ⟨w.heap.size, 2, none⟩ = some (.string f.name) := by rw [Lib.cell_of_heap arg1]; rfl
    have y3 : w1.cell? ⟨w.heap.size, 3, none⟩ = some (.slice f.ka f.kl f.kc) := by rw [Lib.cell_of_heap arg1]; rfl
    have y4 : w1.cell? ⟨w.heap.size, 4, none⟩ = some (.slice f.ma f.ml f.mc) := by rw [Lib.cell_of_heap arg1]; rfl
    have hT := Lib.hid (costSC _ t (Nat.le_refl _) f w1 (H.out.kept (same_of_below hB1.out)) hok.out)
    clear arg1 d1
    go_wp2_with fail
    refine hT.out.mono ?_
    rintro e w2 ⟨rfl, d2⟩
    go_wp2
    go_ret
    exact ⟨rfl, hB1.out.trans (d2.mono hB1.out.size)⟩
  · have z : Hid (decide (okR t) = false) := decide_eq_false c
    rw [show costR t = 0 from by rw [costR, if_neg c]]
    clear c hArg
    rw [z.out] at hP
    go_enter Tryz.func43, Tryz.ntmps43
    go_wp2_with fail
    refine hP.out.mono ?_
    rintro e w1 ⟨rfl, d1⟩
    go_wp2
    go_ret
    exact ⟨rfl, HA.out.trans (d1.mono HA.out.size)⟩
set_option maxHeartbeats 4000000 in
theorem implRuleCost {t : Tr} {f : Fld} {w : World} (h : TrF All w t f) (hs : szT t ≤ 1048576) (hL : Laid w) :
    Calls Tryz.prog 42 #[f.val] w fun e w' => e = .returned (.int .i64 (costR t)) ∧ Below w.heap.size w w' := by
  have hA : Below w.heap.size w (w.alloc (RBox f)) := (Below.refl _ _).alloc (Nat.le_refl _) _
  have hArg : (w.alloc (RBox f)).heap[w.heap.size]? = some (RBox f) := heap_alloc_new w _
  have hP := Lib.hid (implRuleOk (h.kept (same_of_below hA)) hs (laid_stays hL hA))
  have H := Lib.hid h
  have HA := Lib.hid hA
  clear h hA hs
  unfold Fld.val
  by_cases c : okR t
  · have z : Hid (decide (okR t) = true) := decide_eq_true c
    have hok : Hid (OkP t) := okR_P c.1
    have HArg := Lib.hid hArg
    rw [show costR t = costT t from by rw [costR, if_pos c]]
    clear hArg c
    rw [z.out] at hP
    go_enter Tryz.func42, Tryz.ntmps42
    go_wp2_with fail
    refine hP.out.mono ?_
    rintro e w1 ⟨rfl, d1⟩
    have arg1 := (d1.block _ (by simp)).trans HArg.out
    have hB1 := Lib.hid (HA.out.trans (d1.mono HA.out.size))
    unfold RBox at arg1
    have y0 : w1.cell? ⟨w.heap.size, 0, none⟩ = some (.int .i64 f.op) := by rw [Lib.cell_of_heap arg1]; rfl
    have y1 : w1.cell? ⟨w.heap.size, 1, none⟩ = some (.int .i64 f.num) := by rw [Lib.cell_of_heap arg1]; rfl
    have y2 : w1.cell? ⟨w.heap.size, 2, none⟩ = some (.string f.name) := by rw [Lib.cell_of_heap arg1]; rfl
    have y3 : w1.cell? ⟨w.heap.size, 3, none⟩ = some (.slice f.ka f.kl f.kc) := by rw [Lib.cell_of_heap arg1]; rfl
    have y4 : w1.cell? ⟨w.heap.size, 4, none⟩ = some (.slice f.ma f.ml f.mc) := by rw [Lib.cell_of_heap arg1]; rfl
    have hT := Lib.hid (costIC _ t (Nat.le_refl _) f w1 (H.out.kept (same_of_below hB1.out)) hok.out)
    clear arg1 d1
    go_wp2_with fail
    refine hT.out.mono ?_
    rintro e w2 ⟨rfl, d2⟩
    go_wp2
    go_ret
    exact ⟨rfl, hB1.out.trans (d2.mono hB1.out.size)⟩
  · have z : Hid (decide (okR t) = false) := decide_eq_false c
    rw [show costR t = 0 from by rw [costR, if_neg c]]
    clear c hArg
    rw [z.out] at hP
    go_enter Tryz.func42, Tryz.ntmps42
    go_wp2_with fail
    refine hP.out.mono ?_
    rintro e w1 ⟨rfl, d1⟩
    go_wp2
    go_ret
    exact ⟨rfl, HA.out.trans (d1.mono HA.out.size)⟩
end Go.Proofs.YtemjooejfmkkbaaGreatDoor
