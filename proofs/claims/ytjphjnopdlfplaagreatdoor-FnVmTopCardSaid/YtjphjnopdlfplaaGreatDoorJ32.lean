/-
  How much fuel a rule needs: the program's answer; RuleCost of both.
  What the model says of a rule: fuel in memory, the kids one behind the other.
  What the model says of a rule.
  What the program's ops say, each by its row in the table.
-/
import Derived.Test.YtjphjnopdlfplaaGreatDoorJ28
import Derived.Deep.AppendLies
import Derived.Deep.Cut
import Derived.Test.YtjphjnopdlfplaaGreatDoorJ19
namespace Go.Proofs.YtjphjnopdlfplaaGreatDoor
open Go.RowKit
set_option linter.unusedVariables false
set_option linter.unusedSimpArgs false

set_option maxHeartbeats 4000000 in
theorem first9C (n : Int) (s : ByteArray) (b off kc : Nat) (ma : Option Addr) (m mc : Nat) (w : World) (hc : 4 ≤ kc) :
    Calls Tryz.prog 75 #[.agg #[.int .i64 9, .int .i64 n, .string s, .slice (some ⟨b, off, none⟩) 4 kc, .slice ma m mc]] w fun e w' => e = .returned (.slice (some ⟨b, off, none⟩) 2 kc) ∧ Below w.heap.size w w' := by
  have h2 : (2 : Int) ≤ (kc : Int) := by omega
  have h2n : 2 ≤ kc := by omega
  go_enter Tryz.func75, Tryz.ntmps75
  go_wp2
  go_ret
  exact ⟨rfl, (Below.refl _ _).alloc (Nat.le_refl _) _⟩
set_option maxHeartbeats 4000000 in
theorem firstNC (o n : Int) (s : ByteArray) (ka : Option Addr) (k kc : Nat) (ma : Option Addr) (m mc : Nat) (w : World) (h9 : o ≠ 9) :
    Calls Tryz.prog 75 #[.agg #[.int .i64 o, .int .i64 n, .string s, .slice ka k kc, .slice ma m mc]] w fun e w' => e = .returned (.slice ka k kc) ∧ Below w.heap.size w w' := by
  have z9 : (o == 9) = false := by simpa using h9
  clear h9
  go_enter Tryz.func75, Tryz.ntmps75
  go_wp2
  go_ret
  exact ⟨rfl, (Below.refl _ _).alloc (Nat.le_refl _) _⟩
set_option maxRecDepth 20000 in
set_option maxHeartbeats 8000000 in
theorem costIfI (n : Int) (s : ByteArray) (k0 k1 k2 k3 : Tr) (ms : List (Int × Int)) (i0 : CostAt 55 k0) (i1 : CostAt 55 k1) (i2 : CostAt 55 k2) (i3 : CostAt 55 k3) : CostAt 55 (.node 9 n s [k0, k1, k2, k3] ms) := by
  intro f w h hok
  obtain ⟨e1, e2, e3, hm, hk, hc1, hc2⟩ := trF_iff.1 h
  obtain ⟨fo, fn, fs, ka, kl, kc, ma, ml, mc⟩ := f
  dsimp only at e1 e2 e3 hm hk hc1 hc2
  have q1 := e1.symm
  have q2 := e2.symm
  have q3 := e3.symm
  clear e1 e2 e3
  subst q1 q2 q3
  obtain rfl : kl = 4 := hk.1
  obtain rfl := hm.1
  obtain ⟨hpl, hoks⟩ := okP_parts hok
  have hm5 := ms_len hpl
  have b0 := cost_bd _ k0 (Nat.le_refl _) (hoks k0 (by simp))
  have b1 := cost_bd _ k1 (Nat.le_refl _) (hoks k1 (by simp))
  have b2 := cost_bd _ k2 (Nat.le_refl _) (hoks k2 (by simp))
  have b3 := cost_bd _ k3 (Nat.le_refl _) (hoks k3 (by simp))
  have hw30 := okP_w hok
  simp only [wT, wL] at hw30
  have K0 := Lib.hid (hoks k0 (by simp))
  have K1 := Lib.hid (hoks k1 (by simp))
  have K2 := Lib.hid (hoks k2 (by simp))
  have K3 := Lib.hid (hoks k3 (by simp))
  have I0 := Lib.hid i0
  have I1 := Lib.hid i1
  have I2 := Lib.hid i2
  have I3 := Lib.hid i3
  obtain ⟨b, off, g0, g1, g2, g3, rfl, hR⟩ := four_rows hk
  have HR := Lib.hid hR
  have HE : Hid (costT (.node 9 n s [k0, k1, k2, k3] ms) = 1 + ms.length + (costT k0 + costT k1 + (if costT k2 < costT k3 then costT k3 else costT k2))) := by show _ = _; rw [costT, if_pos rfl, costsL_eq]; rfl
  have hF : Hid (∀ W, Calls Tryz.prog 75 #[.agg #[.int .i64 9, .int .i64 n, .string s, .slice (some ⟨b, off, none⟩) 4 kc, .slice ma ms.length mc]] W fun e w' => e = .returned (.slice (some ⟨b, off, none⟩) 2 kc) ∧ Below W.heap.size W w') := fun W => first9C n s b off kc ma ms.length mc W hc1
  clear h hm hk hc1 hc2 hpl hoks hok i0 i1 i2 i3 hR
  unfold Fld.val
  dsimp only
  have hA : Below w.heap.size w (w.alloc (.cells #[.int .i64 9, .int .i64 n, .string s, .slice (some ⟨b, off, none⟩) 4 kc, .slice ma ms.length mc] 39)) := (Below.refl _ _).alloc (Nat.le_refl _) _
  have hArg : (w.alloc (.cells #[.int .i64 9, .int .i64 n, .string s, .slice (some ⟨b, off, none⟩) 4 kc, .slice ma ms.length mc] 39)).heap[w.heap.size]? = some (.cells #[.int .i64 9, .int .i64 n, .string s, .slice (some ⟨b, off, none⟩) 4 kc, .slice ma ms.length mc] 39 (0, 0)) := heap_alloc_new w _
  have HA := Lib.hid hA
  have HArg := Lib.hid hArg
  clear hA hArg
  have em : IntKind.i64.wrap (1 + (ms.length : Int)) = 1 + (ms.length : Int) := IntWalk.i64_in _ (by omega)
  have V0 : Hid (∀ W, Below w.heap.size w W → Calls Tryz.prog 55 #[g0.val] W fun e w' => e = .returned (.int .i64 (costT k0)) ∧ Below W.heap.size W w') := fun W hW => I0.out g0 W (HR.out W hW).2.1 K0.out
  have V1 : Hid (∀ W, Below w.heap.size w W → Calls Tryz.prog 55 #[g1.val] W fun e w' => e = .returned (.int .i64 (costT k1)) ∧ Below W.heap.size W w') := fun W hW => I1.out g1 W (HR.out W hW).2.2.1 K1.out
  have V2 : Hid (∀ W, Below w.heap.size w W → Calls Tryz.prog 55 #[g2.val] W fun e w' => e = .returned (.int .i64 (costT k2)) ∧ Below W.heap.size W w') := fun W hW => I2.out g2 W (HR.out W hW).2.2.2.1 K2.out
  have V3 : Hid (∀ W, Below w.heap.size w W → Calls Tryz.prog 55 #[g3.val] W fun e w' => e = .returned (.int .i64 (costT k3)) ∧ Below W.heap.size W w') := fun W hW => I3.out g3 W (HR.out W hW).2.2.2.2 K3.out
  generalize costT k0 = v0 at *
  generalize costT k1 = v1 at *
  generalize costT k2 = v2 at *
  generalize costT k3 = v3 at *
  go_enter Tryz.func55, Tryz.ntmps55
  go_wp2_with fail
  generalize hW0 : (w.alloc (.cells #[.int .i64 9, .int .i64 n, .string s, .slice (some ⟨b, off, none⟩) 4 kc, .slice ma ms.length mc] 39)) = W0 at *
  clear hW0
  have sz0 : w.heap.size < W0.heap.size := (Array.getElem?_eq_some_iff.1 HArg.out).1
  refine (hF.out W0).mono ?_
  rintro e wf ⟨rfl, df⟩
  have HAf := Lib.hid (HA.out.trans (df.mono HA.out.size))
  have HArgf := Lib.hid ((df.block _ sz0).trans HArg.out)
  clear df
  go_wp2_with fail
  go_loopw [3, 13] (fun vn vi wr => ∃ (k : Nat) (m : Int), k ≤ 2 ∧ vn = .int .i64 m ∧ vi = .int .i64 k ∧ Hid (m = 1 + ms.length + (if k = 0 then 0 else if k = 1 then v0 else v0 + v1)) ∧ Below wf.heap.size wf wr) (fun _ vi _ => 2 - (intOf vi).toNat)
  case atStart => exact ⟨0, _, by omega, rfl, rfl, by show _ = _; simp, Below.refl _ _⟩
  case round =>
    obtain ⟨k, m, hk, rfl, rfl, hp, hb⟩ := hrel
    have hbw := Lib.hid (HAf.out.trans (hb.mono HAf.out.size))
    have hcase : k = 0 ∨ k = 1 ∨ k = 2 := by omega
    rcases hcase with rfl | rfl | rfl
    · have hm := hp.out
      rw [if_pos rfl] at hm
      obtain ⟨⟨⟨y00, y01, y02, y03, y04⟩, -, -, -⟩, -⟩ := HR.out _ hbw.out
      have hXB : Below wr.heap.size wr (wr.alloc (.cells #[.int .i64 g0.op, .int .i64 g0.num, .string g0.name, .slice g0.ka g0.kl g0.kc, .slice g0.ma g0.ml g0.mc] 39)) := (Below.refl _ _).alloc (Nat.le_refl _) _
      have J := Lib.hid (V0.out _ (hbw.out.trans (hXB.mono hbw.out.size)))
      have HXB := Lib.hid hXB
      have nv : IntKind.i64.wrap (m + v0) = m + v0 := IntWalk.i64_in _ (by omega)
      have HM := Lib.hid hm
      clear hXB hm
      go_wp2_with fail
      refine J.out.mono ?_
      rintro e w2 ⟨rfl, d2⟩
      clear y00 y01 y02 y03 y04
      have hb2 : Below wf.heap.size wf w2 := hb.trans ((HXB.out.trans (d2.mono HXB.out.size)).mono hb.size)
      clear d2
      go_wp2
      go_roundw
      case rel => exact ⟨1, m + v0, by omega, rfl, by go_num, by show _ = _; rw [if_neg (by decide), if_pos rfl]; have := HM.out; omega, hb2⟩
      case measure => simp [intOf]
    · have hm := hp.out
      rw [if_neg (by decide), if_pos rfl] at hm
      obtain ⟨⟨-, ⟨y00, y01, y02, y03, y04⟩, -, -⟩, -⟩ := HR.out _ hbw.out
      have hXB : Below wr.heap.size wr (wr.alloc (.cells #[.int .i64 g1.op, .int .i64 g1.num, .string g1.name, .slice g1.ka g1.kl g1.kc, .slice g1.ma g1.ml g1.mc] 39)) := (Below.refl _ _).alloc (Nat.le_refl _) _
      have J := Lib.hid (V1.out _ (hbw.out.trans (hXB.mono hbw.out.size)))
      have HXB := Lib.hid hXB
      have nv : IntKind.i64.wrap (m + v1) = m + v1 := IntWalk.i64_in _ (by omega)
      have HM := Lib.hid hm
      clear hXB hm
      go_wp2_with fail
      refine J.out.mono ?_
      rintro e w2 ⟨rfl, d2⟩
      clear y00 y01 y02 y03 y04
      have hb2 : Below wf.heap.size wf w2 := hb.trans ((HXB.out.trans (d2.mono HXB.out.size)).mono hb.size)
      clear d2
      go_wp2
      go_roundw
      case rel => exact ⟨2, m + v1, by omega, rfl, by go_num, by show _ = _; rw [if_neg (by decide), if_neg (by decide)]; have := HM.out; omega, hb2⟩
      case measure => simp [intOf]
    · have hm := hp.out
      rw [if_neg (by decide), if_neg (by decide)] at hm
      have argr := (hb.block _ (Array.getElem?_eq_some_iff.1 HArgf.out).1).trans HArgf.out
      have ca0 : wr.cell? ⟨w.heap.size, 0, none⟩ = some (Value.int .i64 9) := by rw [Lib.cell_of_heap argr]; rfl
      have ca3 : wr.cell? ⟨w.heap.size, 3, none⟩ = some (Value.slice (some ⟨b, off, none⟩) 4 kc) := by rw [Lib.cell_of_heap argr]; rfl
      obtain ⟨⟨-, -, ⟨y20, y21, y22, y23, y24⟩, ⟨y30, y31, y32, y33, y34⟩⟩, -⟩ := HR.out _ hbw.out
      have c2 : ∀ dd os, Calls Tryz.prog 55 #[.agg #[.int .i64 g2.op, .int .i64 g2.num, .string g2.name, .slice g2.ka g2.kl g2.kc, .slice g2.ma g2.ml g2.mc]] (Go.Sort.grow (redrawn wr dd) os) fun e w'' => e = .returned (.int .i64 v2) ∧ ∃ p : Regrown, w'' = Go.Sort.grow (redrawn wr p.d) p.os := fun dd os => Calls.regrown_of (V2.out _ (hbw.out.trans ((below_regrown wr dd os).mono hbw.out.size)))
      have c3 : ∀ dd os, Calls Tryz.prog 55 #[.agg #[.int .i64 g3.op, .int .i64 g3.num, .string g3.name, .slice g3.ka g3.kl g3.kc, .slice g3.ma g3.ml g3.mc]] (Go.Sort.grow (redrawn wr dd) os) fun e w'' => e = .returned (.int .i64 v3) ∧ ∃ p : Regrown, w'' = Go.Sort.grow (redrawn wr p.d) p.os := fun dd os => Calls.regrown_of (V3.out _ (hbw.out.trans ((below_regrown wr dd os).mono hbw.out.size)))
      have r3 := cell_regrown ca3
      have r20 := cell_regrown y20
      have r21 := cell_regrown y21
      have r22 := cell_regrown y22
      have r23 := cell_regrown y23
      have r24 := cell_regrown y24
      have r30 := cell_regrown y30
      have r31 := cell_regrown y31
      have r32 := cell_regrown y32
      have r33 := cell_regrown y33
      have r34 := cell_regrown y34
      have HM := Lib.hid hm
      have hmx : max v2 v3 = if v2 < v3 then v3 else v2 := by rcases Int.lt_or_le v2 v3 with c | c
                                                              · rw [if_pos c, Int.max_eq_right (by omega)]
                                                              · rw [if_neg (by omega), Int.max_eq_left c]
      have HMX := Lib.hid hmx
      have nx : IntKind.i64.wrap (m + max v2 v3) = m + max v2 v3 := IntWalk.i64_in _ (by rw [hmx]; split <;> omega)
      clear hmx
      clear hm argr y20 y21 y22 y23 y24 y30 y31 y32 y33 y34
      go_wp2_with fail
      refine wp_region_quiet_below (by kernel_rfl) (by kernel_rfl) ?_
      repeat (quiet_step (first | (go_at_call_of 55 (Value.int IntKind.i64 g2.op); exact c2 _ _) | (go_at_call_of 55 (Value.int IntKind.i64 g3.op); exact c3 _ _)))
      refine wpQuiet_nil ?_
      intro _ hw'
      obtain ⟨⟨dq, osq⟩, hw''⟩ := hw'
      subst hw''
      go_wp2
      go_ret
      exact ⟨retI (by rw [HE.out, ← HMX.out]; have := HM.out; omega), hbw.out.trans ((below_regrown wr dq osq).mono hbw.out.size)⟩
set_option maxRecDepth 20000 in
set_option maxHeartbeats 8000000 in
theorem costNI (o n : Int) (s : ByteArray) (ks : List Tr) (ms : List (Int × Int)) (h9 : o ≠ 9) (ih : ∀ t ∈ ks, CostAt 55 t) : CostAt 55 (.node o n s ks ms) := by
  intro f w h hok
  obtain ⟨e1, e2, e3, hm, hk, hc1, hc2⟩ := trF_iff.1 h
  obtain ⟨fo, fn, fs, ka, kl, kc, ma, ml, mc⟩ := f
  dsimp only at e1 e2 e3 hm hk hc1 hc2
  have q1 := e1.symm
  have q2 := e2.symm
  have q3 := e3.symm
  clear e1 e2 e3
  subst q1 q2 q3
  obtain rfl := hk.1
  obtain rfl := hm.1
  obtain ⟨hpl, hoks⟩ := okP_parts hok
  have hw29 : wL ks ≤ 29 := by have := okP_w hok; rw [wT] at this; omega
  have hm5 := ms_len hpl
  have hkb : ks.length ≤ 29 := by have := len_wL ks; omega
  have HK := Lib.hid hk
  have IH := Lib.hid ih
  have HOK := Lib.hid hoks
  have HCB : Hid (∀ t ∈ ks, 1 ≤ costT t ∧ costT t ≤ 180) := fun t ht => by
    have h1 := cost_bd _ t (Nat.le_refl _) (hoks t ht)
    have h2 := okP_w (hoks t ht)
    omega
  have HE : Hid (costT (.node o n s ks ms) = 1 + ms.length + (ks.map costT).sum) := by show _ = _; rw [costT, if_neg h9, costsL_eq]
  have z9 : (o == 9) = false := by simpa using h9
  have hF : Hid (∀ W, Calls Tryz.prog 75 #[.agg #[.int .i64 o, .int .i64 n, .string s, .slice ka ks.length kc, .slice ma ms.length mc]] W fun e w' => e = .returned (.slice ka ks.length kc) ∧ Below W.heap.size W w') := fun W => firstNC o n s ka ks.length kc ma ms.length mc W h9
  clear h hm hk hc1 hc2 hpl hoks hok h9
  unfold Fld.val
  dsimp only
  have hA : Below w.heap.size w (w.alloc (.cells #[.int .i64 o, .int .i64 n, .string s, .slice ka ks.length kc, .slice ma ms.length mc] 39)) := (Below.refl _ _).alloc (Nat.le_refl _) _
  have hArg : (w.alloc (.cells #[.int .i64 o, .int .i64 n, .string s, .slice ka ks.length kc, .slice ma ms.length mc] 39)).heap[w.heap.size]? = some (.cells #[.int .i64 o, .int .i64 n, .string s, .slice ka ks.length kc, .slice ma ms.length mc] 39 (0, 0)) := heap_alloc_new w _
  have HA := Lib.hid hA
  have HArg := Lib.hid hArg
  clear hA hArg
  have em : IntKind.i64.wrap (1 + (ms.length : Int)) = 1 + (ms.length : Int) := IntWalk.i64_in _ (by omega)
  go_enter Tryz.func55, Tryz.ntmps55
  go_wp2_with fail
  generalize hW0 : (w.alloc (.cells #[.int .i64 o, .int .i64 n, .string s, .slice ka ks.length kc, .slice ma ms.length mc] 39)) = W0 at *
  clear hW0
  have sz0 : w.heap.size < W0.heap.size := (Array.getElem?_eq_some_iff.1 HArg.out).1
  refine (hF.out W0).mono ?_
  rintro e wf ⟨rfl, df⟩
  have HAf := Lib.hid (HA.out.trans (df.mono HA.out.size))
  have HArgf := Lib.hid ((df.block _ sz0).trans HArg.out)
  clear df
  go_wp2_with fail
  go_loopw [3, 13] (fun vn vi wr => ∃ (k : Nat) (m : Int), k ≤ ks.length ∧ vn = .int .i64 m ∧ vi = .int .i64 k ∧ 0 ≤ m ∧ m ≤ 6 + 180 * k ∧ Hid (m = 1 + ms.length + ((ks.take k).map costT).sum) ∧ Below wf.heap.size wf wr) (fun _ vi _ => ks.length - (intOf vi).toNat)
  case atStart => exact ⟨0, _, Nat.zero_le _, rfl, rfl, by omega, by omega, by show _ = _; simp, Below.refl _ _⟩
  case round =>
    obtain ⟨k, m, hk, rfl, rfl, m0, m1, hp, hb⟩ := hrel
    have hbw : Below w.heap.size w wr := HAf.out.trans (hb.mono HAf.out.size)
    rcases Nat.lt_or_ge k ks.length with hlt | hge
    · have k1 : (k : Int) < ks.length := by omega
      have k0 : (0 : Int) ≤ k := by omega
      obtain ⟨b, off, rfl, -, hbl, hrow⟩ := (HK.out.kept (same_of_below (N := All) hbw)).cells (by omega)
      obtain ⟨f, ⟨y0, y1, y2, y3, y4⟩, ht⟩ := hrow k hlt
      have hXB : Below wr.heap.size wr (wr.alloc (.cells #[.int .i64 f.op, .int .i64 f.num, .string f.name, .slice f.ka f.kl f.kc, .slice f.ma f.ml f.mc] 39)) := (Below.refl _ _).alloc (Nat.le_refl _) _
      have hcall := Lib.hid (IH.out ks[k] (List.getElem_mem _) f _ (ht.kept (same_of_below hXB)) (HOK.out _ (List.getElem_mem _)))
      have HXB := Lib.hid hXB
      have hcb := HCB.out ks[k] (List.getElem_mem _)
      have HS := Lib.hid (sum_take costT ks k hlt)
      clear hrow hbl ht hXB
      generalize costT ks[k] = v at *
      have nv : IntKind.i64.wrap (m + v) = m + v := IntWalk.i64_in _ (by omega)
      go_wp2_with fail
      refine hcall.out.mono ?_
      rintro e w2 ⟨rfl, d2⟩
      clear y0 y1 y2 y3 y4
      have hb2 : Below wf.heap.size wf w2 := hb.trans ((HXB.out.trans (d2.mono HXB.out.size)).mono hb.size)
      clear d2
      go_wp2
      go_roundw
      case rel => exact ⟨k + 1, m + v, by omega, rfl, by go_num, by omega, by omega, by show _ = _; rw [HS.out]; have := hp.out; omega, hb2⟩
      case measure => simp [intOf]; omega
    · obtain rfl : k = ks.length := by omega
      rw [List.take_length] at hp
      have argr := (hb.block _ (Array.getElem?_eq_some_iff.1 HArgf.out).1).trans HArgf.out
      have ca0 : wr.cell? ⟨w.heap.size, 0, none⟩ = some (Value.int .i64 o) := by rw [Lib.cell_of_heap argr]; rfl
      clear argr
      go_wp2
      go_ret
      exact ⟨retI (by rw [HE.out]; exact hp.out), hbw⟩
theorem costIC : ∀ (k : Nat) (t : Tr), wT t ≤ k → CostAt 55 t
  | 0, .node o n s ks ms, hw => by rw [wT] at hw; omega
  | k + 1, .node o n s ks ms, hw => by
    rw [wT] at hw
    by_cases h9 : o = 9
    · intro f w h hok
      obtain ⟨hpl, hoks⟩ := okP_parts hok
      subst h9
      obtain ⟨k0, k1, k2, k3, rfl⟩ := four (if_kids hpl)
      simp only [wL] at hw
      exact costIfI n s k0 k1 k2 k3 ms (costIC k k0 (by omega)) (costIC k k1 (by omega)) (costIC k k2 (by omega)) (costIC k k3 (by omega)) f w h hok
    · exact costNI o n s ks ms h9 (fun t ht => costIC k t (by have := wL_mem ht; omega))
def costR (t : Tr) : Int := if okR t then costT t else 0
set_option maxHeartbeats 4000000 in
theorem implRuleCost {t : Tr} {f : Fld} {w : World} (h : TrF All w t f) (hs : szT t ≤ 1048576) (hL : Laid w) :
    Calls Tryz.prog 24 #[f.val] w fun e w' => e = .returned (.int .i64 (costR t)) ∧ Below w.heap.size w w' := by
  have hA : Below w.heap.size w (w.alloc (RBox f)) := (Below.refl _ _).alloc (Nat.le_refl _) _
  have hArg : (w.alloc (RBox f)).heap[w.heap.size]? = some (RBox f) := heap_alloc_new w _
  have hP := Lib.hid (implRuleOk (h.kept (same_of_below hA)) hs (laid_stays hL hA))
  have H := Lib.hid h
  have HA := Lib.hid hA
  clear h hA hs
  unfold Fld.val
  by_cases c : okR t
  · have z : Hid (decide (okR t) = true) := decide_eq_true c
    have hok : Hid (OkP t) := okR_P c.1
    have HArg := Lib.hid hArg
    rw [show costR t = costT t from by rw [costR, if_pos c]]
    clear hArg c
    rw [z.out] at hP
    go_enter Tryz.func24, Tryz.ntmps24
    go_wp2_with fail
    refine hP.out.mono ?_
    rintro e w1 ⟨rfl, d1⟩
    have arg1 := (d1.block _ (by simp)).trans HArg.out
    have hB1 := Lib.hid (HA.out.trans (d1.mono HA.out.size))
    unfold RBox at arg1
    have y0 : w1.cell? ⟨w.heap.size, 0, none⟩ = some (.int .i64 f.op) := by rw [Lib.cell_of_heap arg1]; rfl
    have y1 : w1.cell? ⟨w.heap.size, 1, none⟩ = some (.int .i64 f.num) := by rw [Lib.cell_of_heap arg1]; rfl
    have y2 : w1.cell? ⟨w.heap.size, 2, none⟩ = some (.string f.name) := by rw [Lib.cell_of_heap arg1]; rfl
    have y3 : w1.cell? ⟨w.heap.size, 3, none⟩ = some (.slice f.ka f.kl f.kc) := by rw [Lib.cell_of_heap arg1]; rfl
    have y4 : w1.cell? ⟨w.heap.size, 4, none⟩ = some (.slice f.ma f.ml f.mc) := by rw [Lib.cell_of_heap arg1]; rfl
    have hT := Lib.hid (costIC _ t (Nat.le_refl _) f w1 (H.out.kept (same_of_below hB1.out)) hok.out)
    clear arg1 d1
    go_wp2_with fail
    refine hT.out.mono ?_
    rintro e w2 ⟨rfl, d2⟩
    go_wp2
    go_ret
    exact ⟨rfl, hB1.out.trans (d2.mono hB1.out.size)⟩
  · have z : Hid (decide (okR t) = false) := decide_eq_false c
    rw [show costR t = 0 from by rw [costR, if_neg c]]
    clear c hArg
    rw [z.out] at hP
    go_enter Tryz.func24, Tryz.ntmps24
    go_wp2_with fail
    refine hP.out.mono ?_
    rintro e w1 ⟨rfl, d1⟩
    go_wp2
    go_ret
    exact ⟨rfl, HA.out.trans (d1.mono HA.out.size)⟩
end Go.Proofs.YtjphjnopdlfplaaGreatDoor

namespace Go.Proofs.YtjphjnopdlfplaaGreatDoor
open Go.RowKit
set_option linter.unusedVariables false
set_option linter.unusedSimpArgs false

/-- What a rule is run by, in memory: the names, and the fuel that is left. -/
def Ev (w : World) (eb : Nat) (na : Option Addr) (nl nc : Nat) (fu : Int) : Prop := eb < w.heap.size ∧ w.cell? ⟨eb, 0, none⟩ = some (.slice na nl nc) ∧ w.cell? ⟨eb, 1, none⟩ = some (.int .i64 fu) ∧ w.frozen? ⟨eb, 1, none⟩ = false
theorem Ev.kept {w w' : World} {eb : Nat} {na : Option Addr} {nl nc : Nat} {fu : Int} (h : Ev w eb na nl nc fu) (hb : Below w.heap.size w w') : Ev w' eb na nl nc fu := by
  have e := hb.block eb h.1
  exact ⟨Nat.lt_of_lt_of_le h.1 hb.size, (World.cell?_of_block (a := ⟨eb, 0, none⟩) e).trans h.2.1, (World.cell?_of_block (a := ⟨eb, 1, none⟩) e).trans h.2.2.1, (World.frozen?_of_block (a := ⟨eb, 1, none⟩) e).trans h.2.2.2⟩
theorem Ev.blk {w w' : World} {eb : Nat} {na : Option Addr} {nl nc : Nat} {fu : Int} (h : Ev w eb na nl nc fu) (e : w'.heap[eb]? = w.heap[eb]?) (hs : w.heap.size ≤ w'.heap.size) : Ev w' eb na nl nc fu :=
  ⟨Nat.lt_of_lt_of_le h.1 hs, (World.cell?_of_block (a := ⟨eb, 0, none⟩) e).trans h.2.1, (World.cell?_of_block (a := ⟨eb, 1, none⟩) e).trans h.2.2.1, (World.frozen?_of_block (a := ⟨eb, 1, none⟩) e).trans h.2.2.2⟩
theorem Ev.set {w : World} {eb : Nat} {na : Option Addr} {nl nc : Nat} {fu g : Int} (h : Ev w eb na nl nc fu) : Ev (w.setCell ⟨eb, 1, none⟩ (.int .i64 g)) eb na nl nc g := by
  obtain ⟨h1, h2, h3, h4⟩ := h
  refine ⟨by simpa [World.setCell] using h1, ?_, ?_, ?_⟩
  · rw [World.cell?_setCell_other (h := by simp)]; exact h2
  · exact World.cell?_setCell_same (h := h3) ..
  · rw [World.frozen?_setCell]; exact h4
def IntsN (N : Nat → Prop) (w : World) (a : Option Addr) (len : Nat) (l : List Int) : Prop :=
  len = l.length ∧ (len = 0 ∨ ∃ b off, a = some ⟨b, off, none⟩ ∧ N b ∧ b < w.heap.size ∧ ∀ i, i < len → w.cell? ⟨b, off + i, none⟩ = some (.int .i64 (l.getD i 0)))
theorem IntsN.kept {N : Nat → Prop} {w w' : World} {a : Option Addr} {len : Nat} {l : List Int} (h : IntsN N w a len l) (s : Same N w w') : IntsN N w' a len l := by
  obtain ⟨h1, h2⟩ := h
  refine ⟨h1, ?_⟩
  rcases h2 with h | ⟨b, off, k1, k2, k3, k4⟩
  · exact Or.inl h
  · have e := s.2 b k2 k3
    exact Or.inr ⟨b, off, k1, k2, Nat.lt_of_lt_of_le k3 s.1, fun i hi => (World.cell?_of_block (a := ⟨b, off + i, none⟩) e).trans (k4 i hi)⟩
theorem ints_own {N : Nat → Prop} {w : World} {base m c : Nat} {a : Option Addr} {l : List Int} (h : w.ownsRow base 3 1 (.slice a m c) m (l.map (Value.int .i64))) (hN : ∀ b, base ≤ b → N b) : IntsN N w a m l := by
  have hl : m = l.length := by have := h.1; simpa using this.symm
  refine ⟨hl, ?_⟩
  rcases Nat.eq_zero_or_pos m with h0 | h0
  · exact Or.inl h0
  · obtain ⟨g, cap, cur, hv, hbg, hcur, -⟩ : ∃ g cap cur, (Value.slice a m c) = .slice (some ⟨g, 0, none⟩) m cap ∧ base ≤ g ∧ w.heap[g]? = some (.cells cur 3 (0, 0)) ∧ True := by
      obtain ⟨-, h | ⟨g, cap, cur, k1, k2, k3, -⟩⟩ := h
      · omega
      · exact ⟨g, cap, cur, k1, k2, k3, trivial⟩
    obtain ⟨rfl, -, rfl⟩ : a = some ⟨g, 0, none⟩ ∧ m = m ∧ c = cap := by simpa using hv
    refine Or.inr ⟨g, 0, rfl, hN g hbg, (Array.getElem?_eq_some_iff.1 hcur).1, fun i hi => ?_⟩
    rw [Nat.zero_add, h.cellAt i (by omega)]
    have hi' : i < l.length := by omega
    simp [hi']
theorem seqF_app : ∀ (l : List (Int → Said)) (g : Int → Said) (fu : Int), (seqF l fu).2.1 = 0 → seqF (l ++ [g]) fu = if (g (seqF l fu).2.2).c = 0 then ((seqF l fu).1 ++ [(g (seqF l fu).2.2).v], 0, (g (seqF l fu).2.2).f) else ((seqF l fu).1, (g (seqF l fu).2.2).c, (g (seqF l fu).2.2).f)
  | [], g, fu, _ => by by_cases h : (g fu).c = 0 <;> simp [seqF, h]
  | x :: r, g, fu, h => by
    rw [seqF] at h
    rw [List.cons_append, seqF]
    split at h
    · rename_i hx
      rw [if_pos hx]
      have hr : seqF (x :: r) fu = ((x fu).v :: (seqF r (x fu).f).1, (seqF r (x fu).f).2) := by rw [seqF, if_pos hx]
      rw [seqF_app r g (x fu).f h, hr]
      split <;> rfl
    · rename_i hx
      exact absurd h hx
theorem seqF_fail : ∀ (l r : List (Int → Said)) (fu : Int), (seqF l fu).2.1 ≠ 0 → (seqF (l ++ r) fu).2 = (seqF l fu).2
  | [], r, fu, h => by simp [seqF] at h
  | x :: l, r, fu, h => by
    rw [seqF] at h
    rw [List.cons_append, seqF, seqF]
    split
    · rename_i hx
      rw [if_pos hx] at h
      exact seqF_fail l r (x fu).f h
    · rfl
theorem take_at {α : Type} (l : List α) (k kk : Nat) (h : k + 1 ≤ kk) : l.take kk = l.take (k + 1) ++ (l.take kk).drop (k + 1) := by
  have := List.take_append_drop (k + 1) (l.take kk)
  rw [List.take_take, Nat.min_eq_left h] at this
  exact this.symm
def EvP (ns : List (ByteArray × Int)) (t : Tr) (fu : Int) (eb : Nat) (na : Option Addr) (nl nc : Nat) (w : World) (e : Ending) (w' : World) : Prop :=
  e = .returned (.tuple #[.int .i64 (evalT ns t fu).v, .int .i64 (evalT ns t fu).c]) ∧ Hid ((evalT ns t fu).c = 0 → Ev w' eb na nl nc (evalT ns t fu).f) ∧ w.grownBy w' (some eb)
def EvAt (F : FuncId) (ns : List (ByteArray × Int)) (t : Tr) : Prop := ∀ (f : Fld) (eb : Nat) (fu : Int) (na : Option Addr) (nl nc : Nat) (w : World), TrF (fun b => b ≠ eb) w t f → OkP t → Ev w eb na nl nc fu → PairsN (fun b => b ≠ eb) w na nl ns → nl ≤ 1048576 → 0 ≤ fu → fu ≤ 1000 → Calls Tryz.prog F #[.pointer (some ⟨eb, 0, none⟩), f.val] w (EvP ns t fu eb na nl nc w)
theorem infoIntE : (Tryz.prog.info? 3).map (fun i => (i.zero, i.size, i.bytes)) = some (some (.int .i64 0), 1, 8) := by kernel_rfl
end Go.Proofs.YtjphjnopdlfplaaGreatDoor

namespace Go.Proofs.YtjphjnopdlfplaaGreatDoor
open Go.RowKit
set_option linter.unusedVariables false
set_option linter.unusedSimpArgs false

theorem IntsN.cells {N : Nat → Prop} {w : World} {a : Option Addr} {len : Nat} {l : List Int} (h : IntsN N w a len l) (h0 : 0 < len) : ∃ b off, a = some ⟨b, off, none⟩ ∧ b < w.heap.size ∧ ∀ i, i < len → w.cell? ⟨b, off + i, none⟩ = some (.int .i64 (l.getD i 0)) := by
  obtain ⟨-, h2 | ⟨b, off, k1, -, k3, k4⟩⟩ := h
  · omega
  · exact ⟨b, off, k1, k3, k4⟩
theorem evalN {ns : List (ByteArray × Int)} {o n : Int} {s : ByteArray} {ks : List Tr} {ms : List (Int × Int)} {fu : Int} {q : List Int × Int × Int} (hq : seqF ((ks.map (evalT ns)).take (if o = 9 then 2 else ks.length)) fu = q) :
    evalT ns (.node o n s ks ms) fu = if q.2.1 ≠ 0 then ⟨0, q.2.1, q.2.2⟩ else if q.2.2 < 1 + ms.length then ⟨0, 1, q.2.2⟩
      else if o = 9 then (if q.1.getD 0 0 < q.1.getD 1 0 then (ks.map (evalT ns)).getD 2 noSaid else (ks.map (evalT ns)).getD 3 noSaid) (q.2.2 - (1 + ms.length))
      else ⟨(doR ns o n s ms q.1).1, (doR ns o n s ms q.1).2, q.2.2 - (1 + ms.length)⟩ := by
  have hl : (ks.map (evalT ns)).length = ks.length := by simp
  rw [evalT, evalFs_eq]
  unfold nodeV
  rw [hl, hq]
end Go.Proofs.YtjphjnopdlfplaaGreatDoor

namespace Go.Proofs.YtjphjnopdlfplaaGreatDoor
open Go.RowKit
set_option linter.unusedVariables false
set_option linter.unusedSimpArgs false

def saysF (o : Int) : FuncId := if o = 1 then 154 else if o = 2 then 156 else if o = 3 then 161 else if o = 4 then 163 else if o = 5 then 165 else if o = 6 then 168 else if o = 7 then 173 else if o = 8 then 175 else if o = 9 then 178 else 182
theorem meth_says (o : Int) (h : 1 ≤ o ∧ o ≤ 10) (w : World) : (method 313 (opT o) (.agg #[]) "loop.example/stopover/impl.says").run Tryz.prog w = .ok (saysF o, .agg #[]) w := by
  rcases ops10 h with rfl | rfl | rfl | rfl | rfl | rfl | rfl | rfl | rfl | rfl <;> kernel_rfl
theorem call_says (o : Int) (h : 1 ≤ o ∧ o ≤ 10) (args : Array Value) (w : World) : (callFunc (saysF o) args).run Tryz.prog w = .ok (.enter (saysF o) args) w := by
  rcases ops10 h with rfl | rfl | rfl | rfl | rfl | rfl | rfl | rfl | rfl | rfl <;> kernel_rfl
set_option maxHeartbeats 4000000 in
theorem implOrBig (x : Int) (b : Bool) (w : World) :
    Calls Tryz.prog 158 #[.int .i64 x, .bool b] w fun e w' => e = .returned (.tuple #[.int .i64 (orB x b).1, .int .i64 (orB x b).2]) ∧ w' = w := by
  cases b with
  | true =>
    go_enter Tryz.func158, Tryz.ntmps158
    go_wp2
    go_ret2
    exact ⟨rfl, rfl⟩
  | false =>
    go_enter Tryz.func158, Tryz.ntmps158
    go_wp2
    go_ret2
    exact ⟨rfl, rfl⟩
theorem two_boxes (w : World) (a b : Obj) : Below w.heap.size w ((w.alloc a).alloc b) := ((Below.refl _ _).alloc (Nat.le_refl _) _).alloc (by simp only [World.size_alloc]; omega) _
theorem add_orB {a b : Int} (ha : okB a = true) (hb : okB b = true) : orB (addV a b) (addOk a b) = orB (a + b) (okB (a + b)) := by
  unfold addV addOk
  rw [ha, hb]
  simp only [Bool.true_and]
  cases okB (a + b) <;> rfl
theorem okB_neg {a : Int} (h : okB a = true) : okB (-a) = true := by have := okB_yes h; exact okB_mk (by omega)
def SaysP (r : Int × Int) (w : World) (e : Ending) (w' : World) : Prop := e = .returned (.tuple #[.int .i64 r.1, .int .i64 r.2]) ∧ Below w.heap.size w w'
set_option maxRecDepth 20000 in
set_option maxHeartbeats 8000000 in
theorem saysNum (o n : Int) (s : ByteArray) (ka : Option Addr) (kl kc : Nat) (ma : Option Addr) (ml mc : Nat) (p : Value) (w : World) (v : Value) :
    Calls Tryz.prog 154 #[.agg #[], p, .agg #[.int .i64 o, .int .i64 n, .string s, .slice ka kl kc, .slice ma ml mc], v] w (SaysP (n, 0) w) := by
  have hA : Below w.heap.size w ((w.alloc (.cells #[] 146)).alloc (.cells #[.int .i64 o, .int .i64 n, .string s, .slice ka kl kc, .slice ma ml mc] 39)) := two_boxes w _ _
  have HA := Lib.hid hA
  clear hA
  go_enter Tryz.func154, Tryz.ntmps154
  go_wp2
  go_ret2
  exact ⟨rfl, HA.out⟩
set_option maxRecDepth 20000 in
set_option maxHeartbeats 8000000 in
theorem saysAdd (o n : Int) (s : ByteArray) (ka : Option Addr) (kl kc : Nat) (ma : Option Addr) (ml mc : Nat) (p : Value) (w : World) (b off len cp : Nat) (hl : 1 < len) (x y : Int) (hb : b < w.heap.size) (hx : w.cell? ⟨b, off, none⟩ = some (.int .i64 x)) (hy : w.cell? ⟨b, off + 1, none⟩ = some (.int .i64 y)) (ax : okB x = true) (ay : okB y = true) :
    Calls Tryz.prog 161 #[.agg #[], p, .agg #[.int .i64 o, .int .i64 n, .string s, .slice ka kl kc, .slice ma ml mc], .slice (some ⟨b, off, none⟩) len cp] w (SaysP (orB (x + y) (okB (x + y))) w) := by
  have hA : Below w.heap.size w ((w.alloc (.cells #[] 152)).alloc (.cells #[.int .i64 o, .int .i64 n, .string s, .slice ka kl kc, .slice ma ml mc] 39)) := two_boxes w _ _
  have HA := Lib.hid hA
  have x0 := (hA.cell (p := ⟨b, off, none⟩) hb).trans hx
  have x1 := (hA.cell (p := ⟨b, off + 1, none⟩) hb).trans hy
  have l0 : (0 : Int) < len := by omega
  have l1 : (1 : Int) < len := by omega
  have l0n : 0 < len := by omega
  have lx := okB_yes ax
  have ly := okB_yes ay
  clear hA hx hy
  have HR : Hid (orB (addV x y) (addOk x y) = (orB (x + y) (okB (x + y)))) := by show _ = _; rw [add_orB ax ay]
  have e1 : IntKind.i64.wrap (-y) = -y := IntWalk.i64_in _ (by omega)
  have hC := Lib.hid (fun W => (implMoneyAdd x y W).mono fun e w' h => And.intro h.1 h.2.symm)
  have hO := Lib.hid (fun W => implOrBig (addV x y) (addOk x y) W)
  generalize hv : (orB (addV x y) (addOk x y)) = r at *
  generalize addV x y = av at *
  generalize addOk x y = ao at *
  obtain ⟨r1, r2⟩ := r
  dsimp only at *
  have HV := Lib.hid hv
  clear hv
  go_enter Tryz.func161, Tryz.ntmps161
  go_wp2_with fail
  go_quiet (first | (go_at_call 31; exact Calls.quiet_of_same (hC.out _)) | (go_at_call 158; exact Calls.quiet_of_same (hO.out _)))
  go_wp2
  go_ret2
  refine ⟨?_, HA.out.trans ((belowN (Below.refl _ _) nq).mono HA.out.size)⟩
  rw [← HR.out]
  rfl
set_option maxRecDepth 20000 in
set_option maxHeartbeats 8000000 in
theorem saysSub (o n : Int) (s : ByteArray) (ka : Option Addr) (kl kc : Nat) (ma : Option Addr) (ml mc : Nat) (p : Value) (w : World) (b off len cp : Nat) (hl : 1 < len) (x y : Int) (hb : b < w.heap.size) (hx : w.cell? ⟨b, off, none⟩ = some (.int .i64 x)) (hy : w.cell? ⟨b, off + 1, none⟩ = some (.int .i64 y)) (ax : okB x = true) (ay : okB y = true) :
    Calls Tryz.prog 163 #[.agg #[], p, .agg #[.int .i64 o, .int .i64 n, .string s, .slice ka kl kc, .slice ma ml mc], .slice (some ⟨b, off, none⟩) len cp] w (SaysP (orB (x - y) (okB (x - y))) w) := by
  have hA : Below w.heap.size w ((w.alloc (.cells #[] 153)).alloc (.cells #[.int .i64 o, .int .i64 n, .string s, .slice ka kl kc, .slice ma ml mc] 39)) := two_boxes w _ _
  have HA := Lib.hid hA
  have x0 := (hA.cell (p := ⟨b, off, none⟩) hb).trans hx
  have x1 := (hA.cell (p := ⟨b, off + 1, none⟩) hb).trans hy
  have l0 : (0 : Int) < len := by omega
  have l1 : (1 : Int) < len := by omega
  have l0n : 0 < len := by omega
  have lx := okB_yes ax
  have ly := okB_yes ay
  clear hA hx hy
  have HR : Hid (orB (addV x (-y)) (addOk x (-y)) = (orB (x - y) (okB (x - y)))) := by show _ = _; rw [add_orB ax (okB_neg ay)]; rw [show x + -y = x - y from by omega]
  have e1 : IntKind.i64.wrap (-y) = -y := IntWalk.i64_in _ (by omega)
  have hC := Lib.hid (fun W => (implMoneyAdd x (-y) W).mono fun e w' h => And.intro h.1 h.2.symm)
  have hO := Lib.hid (fun W => implOrBig (addV x (-y)) (addOk x (-y)) W)
  generalize hv : (orB (addV x (-y)) (addOk x (-y))) = r at *
  generalize addV x (-y) = av at *
  generalize addOk x (-y) = ao at *
  obtain ⟨r1, r2⟩ := r
  dsimp only at *
  have HV := Lib.hid hv
  clear hv
  go_enter Tryz.func163, Tryz.ntmps163
  go_wp2_with fail
  go_quiet (first | (go_at_call 31; exact Calls.quiet_of_same (hC.out _)) | (go_at_call 158; exact Calls.quiet_of_same (hO.out _)))
  go_wp2
  go_ret2
  refine ⟨?_, HA.out.trans ((belowN (Below.refl _ _) nq).mono HA.out.size)⟩
  rw [← HR.out]
  rfl
set_option maxRecDepth 20000 in
set_option maxHeartbeats 8000000 in
theorem saysMin (o n : Int) (s : ByteArray) (ka : Option Addr) (kl kc : Nat) (ma : Option Addr) (ml mc : Nat) (p : Value) (w : World) (b off len cp : Nat) (hl : 1 < len) (x y : Int) (hb : b < w.heap.size) (hx : w.cell? ⟨b, off, none⟩ = some (.int .i64 x)) (hy : w.cell? ⟨b, off + 1, none⟩ = some (.int .i64 y)) (ax : okB x = true) (ay : okB y = true) :
    Calls Tryz.prog 173 #[.agg #[], p, .agg #[.int .i64 o, .int .i64 n, .string s, .slice ka kl kc, .slice ma ml mc], .slice (some ⟨b, off, none⟩) len cp] w (SaysP (if y < x then y else x, 0) w) := by
  have hA : Below w.heap.size w ((w.alloc (.cells #[] 156)).alloc (.cells #[.int .i64 o, .int .i64 n, .string s, .slice ka kl kc, .slice ma ml mc] 39)) := two_boxes w _ _
  have HA := Lib.hid hA
  have x0 := (hA.cell (p := ⟨b, off, none⟩) hb).trans hx
  have x1 := (hA.cell (p := ⟨b, off + 1, none⟩) hb).trans hy
  have l0 : (0 : Int) < len := by omega
  have l1 : (1 : Int) < len := by omega
  have l0n : 0 < len := by omega
  have lx := okB_yes ax
  have ly := okB_yes ay
  clear hA hx hy
  have HM : Hid (min x y = if y < x then y else x) := by
    show _ = _
    rcases Int.lt_or_le y x with c | c
    · rw [if_pos c, Int.min_eq_right (by omega)]
    · rw [if_neg (by omega), Int.min_eq_left c]
  generalize (if y < x then y else x) = r at HM ⊢
  go_enter Tryz.func173, Tryz.ntmps173
  go_wp2_with fail
  go_quiet (fail)
  go_wp2
  go_ret2
  refine ⟨?_, HA.out.trans ((belowN (Below.refl _ _) nq).mono HA.out.size)⟩
  show Ending.returned (.tuple #[.int .i64 (min x y), .int .i64 0]) = _
  rw [HM.out]
set_option maxRecDepth 20000 in
set_option maxHeartbeats 8000000 in
theorem saysMax (o n : Int) (s : ByteArray) (ka : Option Addr) (kl kc : Nat) (ma : Option Addr) (ml mc : Nat) (p : Value) (w : World) (b off len cp : Nat) (hl : 1 < len) (x y : Int) (hb : b < w.heap.size) (hx : w.cell? ⟨b, off, none⟩ = some (.int .i64 x)) (hy : w.cell? ⟨b, off + 1, none⟩ = some (.int .i64 y)) (ax : okB x = true) (ay : okB y = true) :
    Calls Tryz.prog 175 #[.agg #[], p, .agg #[.int .i64 o, .int .i64 n, .string s, .slice ka kl kc, .slice ma ml mc], .slice (some ⟨b, off, none⟩) len cp] w (SaysP (if x < y then y else x, 0) w) := by
  have hA : Below w.heap.size w ((w.alloc (.cells #[] 157)).alloc (.cells #[.int .i64 o, .int .i64 n, .string s, .slice ka kl kc, .slice ma ml mc] 39)) := two_boxes w _ _
  have HA := Lib.hid hA
  have x0 := (hA.cell (p := ⟨b, off, none⟩) hb).trans hx
  have x1 := (hA.cell (p := ⟨b, off + 1, none⟩) hb).trans hy
  have l0 : (0 : Int) < len := by omega
  have l1 : (1 : Int) < len := by omega
  have l0n : 0 < len := by omega
  have lx := okB_yes ax
  have ly := okB_yes ay
  clear hA hx hy
  have HM : Hid (max x y = if x < y then y else x) := by
    show _ = _
    rcases Int.lt_or_le x y with c | c
    · rw [if_pos c, Int.max_eq_right (by omega)]
    · rw [if_neg (by omega), Int.max_eq_left c]
  generalize (if x < y then y else x) = r at HM ⊢
  go_enter Tryz.func175, Tryz.ntmps175
  go_wp2_with fail
  go_quiet (fail)
  go_wp2
  go_ret2
  refine ⟨?_, HA.out.trans ((belowN (Below.refl _ _) nq).mono HA.out.size)⟩
  show Ending.returned (.tuple #[.int .i64 (max x y), .int .i64 0]) = _
  rw [HM.out]
theorem abs_max (a : Int) : max a (-a) = if a < 0 then -a else a := by
  rcases Int.lt_or_le a 0 with c | c
  · rw [if_pos c, Int.max_eq_right (by omega)]
  · rw [if_neg (by omega), Int.max_eq_left (by omega)]
theorem le_div_iff {x y : Int} (hy : 0 < y) : decide (x ≤ 1000000000000 / y) = decide (x * y ≤ 1000000000000) := by
  refine decide_eq_decide.2 ⟨fun h => ?_, fun h => ?_⟩
  · exact Int.mul_le_of_le_ediv hy h
  · exact Int.le_ediv_of_mul_le hy h
set_option maxRecDepth 20000 in
set_option maxHeartbeats 8000000 in
theorem saysMul (o n : Int) (s : ByteArray) (ka : Option Addr) (kl kc : Nat) (ma : Option Addr) (ml mc : Nat) (p : Value) (w : World) (b off len cp : Nat) (hl : 1 < len) (x y : Int) (hb : b < w.heap.size) (hx : w.cell? ⟨b, off, none⟩ = some (.int .i64 x)) (hy : w.cell? ⟨b, off + 1, none⟩ = some (.int .i64 y)) (ax : okB x = true) (ay : okB y = true) :
    Calls Tryz.prog 165 #[.agg #[], p, .agg #[.int .i64 o, .int .i64 n, .string s, .slice ka kl kc, .slice ma ml mc], .slice (some ⟨b, off, none⟩) len cp] w (SaysP (orB (x * y) (okB (x * y))) w) := by
  have hA : Below w.heap.size w ((w.alloc (.cells #[] 154)).alloc (.cells #[.int .i64 o, .int .i64 n, .string s, .slice ka kl kc, .slice ma ml mc] 39)) := two_boxes w _ _
  have HA := Lib.hid hA
  have x0 := (hA.cell (p := ⟨b, off, none⟩) hb).trans hx
  have x1 := (hA.cell (p := ⟨b, off + 1, none⟩) hb).trans hy
  have l0 : (0 : Int) < len := by omega
  have l1 : (1 : Int) < len := by omega
  have l0n : 0 < len := by omega
  have lx := okB_yes ax
  have ly := okB_yes ay
  clear hA hx hy
  obtain ⟨mx, hmx, mx0, mx1⟩ : ∃ m, max x (-x) = m ∧ 0 ≤ m ∧ m ≤ 1000000000000 := ⟨_, rfl, by rw [abs_max]; split <;> omega, by rw [abs_max]; split <;> omega⟩
  obtain ⟨my, hmy, my0, my1⟩ : ∃ m, max y (-y) = m ∧ 0 ≤ m ∧ m ≤ 1000000000000 := ⟨_, rfl, by rw [abs_max]; split <;> omega, by rw [abs_max]; split <;> omega⟩
  have hab : x * y = mx * my ∨ x * y = -(mx * my) := by
    rw [abs_max] at hmx hmy
    rcases Int.lt_or_le x 0 with s | s <;> rcases Int.lt_or_le y 0 with t | t
    · left; rw [← hmx, ← hmy, if_pos s, if_pos t, Int.neg_mul_neg]
    · right; rw [← hmx, ← hmy, if_pos s, if_neg (by omega), Int.neg_mul, Int.neg_neg]
    · right; rw [← hmx, ← hmy, if_neg (by omega), if_pos t, Int.mul_neg, Int.neg_neg]
    · left; rw [← hmx, ← hmy, if_neg (by omega), if_neg (by omega)]
  have hok := mul_okB mx0 my0 hab
  have enx : IntKind.i64.wrap (-x) = -x := IntWalk.i64_in _ (by omega)
  have eny : IntKind.i64.wrap (-y) = -y := IntWalk.i64_in _ (by omega)
  have HOK : Hid (∀ (pv : Int) (bv : Bool), bv = okB (x * y) → (okB (x * y) = true → pv = x * y) → orB pv bv = orB (x * y) (okB (x * y))) := fun pv bv h1 h2 => by
    subst h1
    unfold orB
    split
    · rename_i h; rw [h2 h]
    · rfl
  obtain ⟨pv, hpv, hpv2⟩ : ∃ pv, IntKind.i64.wrap (x * y) = pv ∧ (okB (x * y) = true → pv = x * y) := ⟨_, rfl, fun h => IntWalk.i64_in _ (by have := okB_yes h; omega)⟩
  have hO := Lib.hid (fun b W => implOrBig pv b W)
  have HPV := Lib.hid hpv2
  by_cases hy0 : y = 0
  · subst hy0
    have HRR : Hid (orB 0 true = orB (x * 0) (okB (x * 0))) := by show _ = _; rw [Int.mul_zero]; rfl
    rw [← HRR.out]
    clear hab hok hmx hmy hpv2 hpv
    have hO := Lib.hid (fun W => implOrBig 0 true W)
    go_enter Tryz.func165, Tryz.ntmps165
    go_wp2_with fail
    go_quiet (fail)
    go_wp2_with fail
    refine (hO.out _).mono ?_
    rintro e w' ⟨rfl, rfl⟩
    go_wp2
    go_ret2
    exact ⟨rfl, HA.out.trans ((belowN (Below.refl _ _) nq).mono HA.out.size)⟩
  · have z : (y == 0) = false := by simpa using hy0
    have hmyp : 0 < my := by
      rw [abs_max] at hmy
      split at hmy <;> omega
    have hd := le_div_iff (x := mx) hmyp
    rw [← hok] at hd
    have qd : Int.tdiv 1000000000000 my = 1000000000000 / my := Int.tdiv_eq_ediv_of_nonneg (by omega)
    have qb0 : 0 ≤ 1000000000000 / my := Int.ediv_nonneg (by omega) (by omega)
    have qb1 : 1000000000000 / my ≤ 1000000000000 := Int.ediv_le_self _ (by omega)
    have qw : IntKind.i64.wrap (Int.tdiv 1000000000000 my) = 1000000000000 / my := by rw [qd]; exact IntWalk.i64_in _ (by omega)
    have xz : ¬ my = 0 := by omega
    obtain ⟨bv, hbv⟩ : ∃ bv, decide (mx ≤ 1000000000000 / my) = bv := ⟨_, rfl⟩
    have HB : Hid (bv = okB (x * y)) := by show _ = _; rw [← hd, hbv]
    have HRR := Lib.hid (HOK.out pv bv HB.out HPV.out)
    rw [← HRR.out]
    clear hab hok hd qd qb0 qb1 hmyp mx0 mx1 my0 my1 hpv2 hy0 lx ly
    go_enter Tryz.func165, Tryz.ntmps165
    go_wp2_with fail
    go_quiet (fail)
    go_wp2_with fail
    refine (hO.out bv _).mono ?_
    rintro e w' ⟨rfl, rfl⟩
    go_wp2
    go_ret2
    exact ⟨rfl, HA.out.trans ((belowN (Below.refl _ _) nq).mono HA.out.size)⟩
end Go.Proofs.YtjphjnopdlfplaaGreatDoor
