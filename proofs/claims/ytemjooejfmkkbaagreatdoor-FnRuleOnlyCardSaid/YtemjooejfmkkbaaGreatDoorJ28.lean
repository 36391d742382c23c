/-
  How much fuel a rule needs: the model's answer and the program's.
  What a rule says by names' numbers and fuel: the mathematical answer.
-/
import Derived.Test.YtemjooejfmkkbaaGreatDoorJ27
import Derived.Test.YtemjooejfmkkbaaGreatDoorJ1
import Derived.Test.YtemjooejfmkkbaaGreatDoorJ17
namespace Go.Proofs.YtemjooejfmkkbaaGreatDoor
open Go.RowKit
set_option linter.unusedVariables false
set_option linter.unusedSimpArgs false

def ifC : List Int → Int
  | [a, b, c, d] => a + b + (if c < d then d else c)
  | _ => 0
mutual
def costT : Tr → Int
  | .node o n s ks ms => 1 + ms.length + (if o = 9 then ifC (costsL ks) else (costsL ks).sum)
def costsL : List Tr → List Int
  | [] => []
  | t :: r => costT t :: costsL r
end
theorem costsL_eq : ∀ ks : List Tr, costsL ks = ks.map costT
  | [] => by rw [costsL]; rfl
  | t :: r => by rw [costsL, costsL_eq r]; rfl
theorem sum_take {α : Type} (f : α → Int) (l : List α) (k : Nat) (h : k < l.length) : ((l.take (k + 1)).map f).sum = ((l.take k).map f).sum + f l[k] := by
  rw [List.take_succ_eq_append_getElem h, List.map_append, List.sum_append]; simp
theorem ms_len {o n : Int} {s : ByteArray} {k : Nat} {ms : List (Int × Int)} (h : PlainN o n s k ms) : ms.length ≤ 5 := by
  have h2 := h.2
  unfold HoldsN at h2
  split at h2
  · omega
  split at h2
  · omega
  split at h2
  · exact h2.2.2.2.1
  · omega
theorem four {α : Type} {l : List α} (h : l.length = 4) : ∃ a b c d, l = [a, b, c, d] := by
  match l, h with
  | [a, b, c, d], _ => exact ⟨a, b, c, d, rfl⟩
theorem if_kids {n : Int} {s : ByteArray} {ks : List Tr} {ms : List (Int × Int)} (h : PlainN 9 n s ks.length ms) : ks.length = 4 := by
  have h1 := h.1
  have e : kidsN 9 = 4 := rfl
  omega
theorem cost_bd : ∀ (k : Nat) (t : Tr), wT t ≤ k → OkP t → 1 ≤ costT t ∧ costT t ≤ 6 * wT t := by
  intro k
  induction k with
  | zero => intro t h; cases t; rw [wT] at h; omega
  | succ k ih =>
    intro t hk h
    obtain ⟨o, n, s, ks, ms⟩ := t
    obtain ⟨hp, h3⟩ := okP_parts h
    have h5 := ms_len hp
    rw [wT] at hk ⊢
    have e : ∀ ks : List Tr, wL ks ≤ k → (∀ t ∈ ks, OkP t) → 0 ≤ (ks.map costT).sum ∧ (ks.map costT).sum ≤ 6 * wL ks := by
      intro ks
      induction ks with
      | nil => intro _ _; simp [wL]
      | cons t r ihr =>
        intro hw ho
        rw [wL] at hw ⊢
        have a := ihr (by omega) (fun x hx => ho x (by simp [hx]))
        have b := ih t (by omega) (ho t (by simp))
        simp only [List.map_cons, List.sum_cons] at a ⊢
        omega
    have hs := e ks (by omega) h3
    rw [costT, costsL_eq]
    split
    · rename_i h9
      subst h9
      obtain ⟨a, b, c, d, rfl⟩ := four (if_kids hp)
      simp only [wL] at hk ⊢
      have ha := ih a (by omega) (h3 a (by simp))
      have hb := ih b (by omega) (h3 b (by simp))
      have hc := ih c (by omega) (h3 c (by simp))
      have hd := ih d (by omega) (h3 d (by simp))
      simp only [List.map_cons, List.map_nil, ifC]
      split <;> omega
    · omega
def CostAt (F : FuncId) (t : Tr) : Prop := ∀ (f : Fld) (w : World), TrF All w t f → OkP t → Calls Tryz.prog F #[f.val] w fun e w' => e = .returned (.int .i64 (costT t)) ∧ Below w.heap.size w w'
theorem cellsF_b {w W : World} {b o : Nat} {f : Fld} (h : CellsF w b o f) (hb : b < w.heap.size) (hB : Below w.heap.size w W) : CellsF W b o f := h.kept (hB.block b hb)
/-- What a choice's kids read as, in all worlds behind. -/
def Four (w : World) (b off : Nat) (g0 g1 g2 g3 : Fld) (k0 k1 k2 k3 : Tr) : Prop := ∀ W, Below w.heap.size w W → (CellsF W b off g0 ∧ CellsF W b (off + 5) g1 ∧ CellsF W b (off + 10) g2 ∧ CellsF W b (off + 15) g3) ∧ TrF All W k0 g0 ∧ TrF All W k1 g1 ∧ TrF All W k2 g2 ∧ TrF All W k3 g3
theorem four_rows {w : World} {a : Option Addr} {k0 k1 k2 k3 : Tr} (h : RowsT All w a 4 [k0, k1, k2, k3]) : ∃ b off g0 g1 g2 g3, a = some ⟨b, off, none⟩ ∧ Four w b off g0 g1 g2 g3 k0 k1 k2 k3 := by
  obtain ⟨b, off, e, -, hb, hr⟩ := h.cells (by omega)
  obtain ⟨g0, c0, t0⟩ := hr 0 (by simp)
  obtain ⟨g1, c1, t1⟩ := hr 1 (by simp)
  obtain ⟨g2, c2, t2⟩ := hr 2 (by simp)
  obtain ⟨g3, c3, t3⟩ := hr 3 (by simp)
  refine ⟨b, off, g0, g1, g2, g3, e, fun W hW => ⟨⟨?_, ?_, ?_, ?_⟩, t0.kept (same_of_below hW), t1.kept (same_of_below hW), t2.kept (same_of_below hW), t3.kept (same_of_below hW)⟩⟩
  · have := cellsF_b c0 hb hW; rw [Nat.zero_mul, Nat.add_zero] at this; exact this
  · exact cellsF_b c1 hb hW
  · exact cellsF_b c2 hb hW
  · exact cellsF_b c3 hb hW
set_option maxRecDepth 20000 in
set_option maxHeartbeats 8000000 in
theorem costIfS (n : Int) (s : ByteArray) (k0 k1 k2 k3 : Tr) (ms : List (Int × Int)) (i0 : CostAt 104 k0) (i1 : CostAt 104 k1) (i2 : CostAt 104 k2) (i3 : CostAt 104 k3) : CostAt 104 (.node 9 n s [k0, k1, k2, k3] ms) := by
  intro f w h hok
  obtain ⟨e1, e2, e3, hm, hk, hc1, hc2⟩ := trF_iff.1 h
  obtain ⟨fo, fn, fs, ka, kl, kc, ma, ml, mc⟩ := f
  dsimp only at e1 e2 e3 hm hk hc1 hc2
  have q1 := e1.symm
  have q2 := e2.symm
  have q3 := e3.symm
  clear e1 e2 e3
  subst q1 q2 q3
  obtain rfl : kl = 4 := hk.1
  obtain rfl := hm.1
  obtain ⟨hpl, hoks⟩ := okP_parts hok
  have hm5 := ms_len hpl
  have b0 := cost_bd _ k0 (Nat.le_refl _) (hoks k0 (by simp))
  have b1 := cost_bd _ k1 (Nat.le_refl _) (hoks k1 (by simp))
  have b2 := cost_bd _ k2 (Nat.le_refl _) (hoks k2 (by simp))
  have b3 := cost_bd _ k3 (Nat.le_refl _) (hoks k3 (by simp))
  have hw30 := okP_w hok
  simp only [wT, wL] at hw30
  have K0 := Lib.hid (hoks k0 (by simp))
  have K1 := Lib.hid (hoks k1 (by simp))
  have K2 := Lib.hid (hoks k2 (by simp))
  have K3 := Lib.hid (hoks k3 (by simp))
  have I0 := Lib.hid i0
  have I1 := Lib.hid i1
  have I2 := Lib.hid i2
  have I3 := Lib.hid i3
  obtain ⟨b, off, g0, g1, g2, g3, rfl, hR⟩ := four_rows hk
  have HR := Lib.hid hR
  have HE : Hid (costT (.node 9 n s [k0, k1, k2, k3] ms) = 1 + ms.length + (costT k0 + costT k1 + (if costT k2 < costT k3 then costT k3 else costT k2))) := by show _ = _; rw [costT, if_pos rfl, costsL_eq]; rfl
  clear h hm hk hc1 hc2 hpl hoks hok i0 i1 i2 i3 hR
  unfold Fld.val
  dsimp only
  have hA : Below w.heap.size w (w.alloc (.cells #[.int .i64 9, .int .i64 n, .string s, .slice (some ⟨b, off, none⟩) 4 kc, .slice ma ms.length mc] 38)) := (Below.refl _ _).alloc (Nat.le_refl _) _
  have hArg : (w.alloc (.cells #[.int .i64 9, .int .i64 n, .string s, .slice (some ⟨b, off, none⟩) 4 kc, .slice ma ms.length mc] 38)).heap[w.heap.size]? = some (.cells #[.int .i64 9, .int .i64 n, .string s, .slice (some ⟨b, off, none⟩) 4 kc, .slice ma ms.length mc] 38 (0, 0)) := heap_alloc_new w _
  have HA := Lib.hid hA
  have HArg := Lib.hid hArg
  clear hA hArg
  have em : IntKind.i64.wrap (1 + (ms.length : Int)) = 1 + (ms.length : Int) := IntWalk.i64_in _ (by omega)
  have J2 := Lib.hid (I2.out g2 _ (HR.out _ HA.out).2.2.2.1 K2.out)
  obtain ⟨⟨⟨y00, y01, y02, y03, y04⟩, ⟨y10, y11, y12, y13, y14⟩, ⟨y20, y21, y22, y23, y24⟩, ⟨y30, y31, y32, y33, y34⟩⟩, -⟩ := HR.out _ HA.out
  go_enter Tryz.func104, Tryz.ntmps104
  go_wp2_with fail
  generalize hW0 : (w.alloc (.cells #[.int .i64 9, .int .i64 n, .string s, .slice (some ⟨b, off, none⟩) 4 kc, .slice ma ms.length mc] 38)) = W0 at *
  clear hW0
  have sz0 : w.heap.size < W0.heap.size := (Array.getElem?_eq_some_iff.1 HArg.out).1
  refine J2.out.mono ?_
  rintro e w1 ⟨rfl, d1⟩
  have B1 := Lib.hid (HA.out.trans (d1.mono HA.out.size))
  have A1 := Lib.hid ((d1.block _ sz0).trans HArg.out)
  have ca : w1.cell? ⟨w.heap.size, 3, none⟩ = some (Value.slice (some ⟨b, off, none⟩) 4 kc) := by rw [Lib.cell_of_heap A1.out]; rfl
  clear y00 y01 y02 y03 y04 y10 y11 y12 y13 y14 y20 y21 y22 y23 y24 y30 y31 y32 y33 y34 d1
  obtain ⟨⟨⟨y00, y01, y02, y03, y04⟩, ⟨y10, y11, y12, y13, y14⟩, ⟨y20, y21, y22, y23, y24⟩, ⟨y30, y31, y32, y33, y34⟩⟩, -⟩ := HR.out _ B1.out
  have J3 := Lib.hid (I3.out g3 _ (HR.out _ B1.out).2.2.2.2 K3.out)
  go_wp2_with fail
  refine J3.out.mono ?_
  rintro e w2 ⟨rfl, d2⟩
  have B2 := Lib.hid (B1.out.trans (d2.mono B1.out.size))
  have A2 := Lib.hid ((d2.block _ (Array.getElem?_eq_some_iff.1 A1.out).1).trans A1.out)
  clear y00 y01 y02 y03 y04 y10 y11 y12 y13 y14 y20 y21 y22 y23 y24 y30 y31 y32 y33 y34 d2 ca
  have ca : w2.cell? ⟨w.heap.size, 3, none⟩ = some (Value.slice (some ⟨b, off, none⟩) 4 kc) := by rw [Lib.cell_of_heap A2.out]; rfl
  obtain ⟨⟨⟨y00, y01, y02, y03, y04⟩, ⟨y10, y11, y12, y13, y14⟩, -, -⟩, -⟩ := HR.out _ B2.out
  have c0 : ∀ dd os, Calls Tryz.prog 104 #[.agg #[.int .i64 g0.op, .int .i64 g0.num, .string g0.name, .slice g0.ka g0.kl g0.kc, .slice g0.ma g0.ml g0.mc]] (Go.Sort.grow (redrawn w2 dd) os) fun e w'' => e = .returned (.int .i64 (costT k0)) ∧ ∃ p : Regrown, w'' = Go.Sort.grow (redrawn w2 p.d) p.os := fun dd os => Calls.regrown_of (I0.out g0 _ (HR.out _ (B2.out.trans ((below_regrown w2 dd os).mono B2.out.size))).2.1 K0.out)
  have c1 : ∀ dd os, Calls Tryz.prog 104 #[.agg #[.int .i64 g1.op, .int .i64 g1.num, .string g1.name, .slice g1.ka g1.kl g1.kc, .slice g1.ma g1.ml g1.mc]] (Go.Sort.grow (redrawn w2 dd) os) fun e w'' => e = .returned (.int .i64 (costT k1)) ∧ ∃ p : Regrown, w'' = Go.Sort.grow (redrawn w2 p.d) p.os := fun dd os => Calls.regrown_of (I1.out g1 _ (HR.out _ (B2.out.trans ((below_regrown w2 dd os).mono B2.out.size))).2.2.1 K1.out)
  have r9 := cell_regrown ca
  have r00 := cell_regrown y00
  have r01 := cell_regrown y01
  have r02 := cell_regrown y02
  have r03 := cell_regrown y03
  have r04 := cell_regrown y04
  have r10 := cell_regrown y10
  have r11 := cell_regrown y11
  have r12 := cell_regrown y12
  have r13 := cell_regrown y13
  have r14 := cell_regrown y14
  clear y00 y01 y02 y03 y04 y10 y11 y12 y13 y14
  generalize costT k0 = v0 at *
  generalize costT k1 = v1 at *
  generalize costT k2 = v2 at *
  generalize costT k3 = v3 at *
  have n1 : IntKind.i64.wrap (1 + (ms.length : Int) + v0) = 1 + (ms.length : Int) + v0 := IntWalk.i64_in _ (by omega)
  have n2 : IntKind.i64.wrap (1 + (ms.length : Int) + v0 + v1) = 1 + (ms.length : Int) + v0 + v1 := IntWalk.i64_in _ (by omega)
  rcases Int.lt_or_le v2 v3 with c | c
  · have z : decide (v2 < v3) = true := decide_eq_true c
    have n3 : IntKind.i64.wrap (1 + (ms.length : Int) + v0 + v1 + v3) = 1 + (ms.length : Int) + v0 + v1 + v3 := IntWalk.i64_in _ (by omega)
    go_wp2_with fail
    refine wp_region_quiet_below (by kernel_rfl) (by kernel_rfl) ?_
    repeat (quiet_step (first | (go_at_call_of 104 (Value.int IntKind.i64 g0.op); exact c0 _ _) | (go_at_call_of 104 (Value.int IntKind.i64 g1.op); exact c1 _ _)))
    refine wpQuiet_nil ?_
    intro _ hw'
    obtain ⟨⟨dq, osq⟩, hw''⟩ := hw'
    subst hw''
    go_wp2
    go_ret
    exact ⟨retI (by rw [HE.out, if_pos c]; omega), B2.out.trans ((below_regrown w2 dq osq).mono B2.out.size)⟩
  · have z : decide (v2 < v3) = false := decide_eq_false (by omega)
    have n3 : IntKind.i64.wrap (1 + (ms.length : Int) + v0 + v1 + v2) = 1 + (ms.length : Int) + v0 + v1 + v2 := IntWalk.i64_in _ (by omega)
    go_wp2_with fail
    refine wp_region_quiet_below (by kernel_rfl) (by kernel_rfl) ?_
    repeat (quiet_step (first | (go_at_call_of 104 (Value.int IntKind.i64 g0.op); exact c0 _ _) | (go_at_call_of 104 (Value.int IntKind.i64 g1.op); exact c1 _ _)))
    refine wpQuiet_nil ?_
    intro _ hw'
    obtain ⟨⟨dq, osq⟩, hw''⟩ := hw'
    subst hw''
    go_wp2
    go_ret
    exact ⟨retI (by rw [HE.out, if_neg (by omega)]; omega), B2.out.trans ((below_regrown w2 dq osq).mono B2.out.size)⟩
set_option maxRecDepth 20000 in
set_option maxHeartbeats 8000000 in
theorem costNS (o n : Int) (s : ByteArray) (ks : List Tr) (ms : List (Int × Int)) (h9 : o ≠ 9) (ih : ∀ t ∈ ks, CostAt 104 t) : CostAt 104 (.node o n s ks ms) := by
  intro f w h hok
  obtain ⟨e1, e2, e3, hm, hk, hc1, hc2⟩ := trF_iff.1 h
  obtain ⟨fo, fn, fs, ka, kl, kc, ma, ml, mc⟩ := f
  dsimp only at e1 e2 e3 hm hk hc1 hc2
  have q1 := e1.symm
  have q2 := e2.symm
  have q3 := e3.symm
  clear e1 e2 e3
  subst q1 q2 q3
  obtain rfl := hk.1
  obtain rfl := hm.1
  obtain ⟨hpl, hoks⟩ := okP_parts hok
  have hw29 : wL ks ≤ 29 := by have := okP_w hok; rw [wT] at this; omega
  have hm5 := ms_len hpl
  have hkb : ks.length ≤ 29 := by have := len_wL ks; omega
  have HK := Lib.hid hk
  have IH := Lib.hid ih
  have HOK := Lib.hid hoks
  have HCB : Hid (∀ t ∈ ks, 1 ≤ costT t ∧ costT t ≤ 180) := fun t ht => by
    have h1 := cost_bd _ t (Nat.le_refl _) (hoks t ht)
    have h2 := okP_w (hoks t ht)
    omega
  have HE : Hid (costT (.node o n s ks ms) = 1 + ms.length + (ks.map costT).sum) := by show _ = _; rw [costT, if_neg h9, costsL_eq]
  have z9 : (o == 9) = false := by simpa using h9
  clear h hk hm ih hc1 hc2 hpl hoks hok h9
  unfold Fld.val
  dsimp only
  have hA : Below w.heap.size w (w.alloc (.cells #[.int .i64 o, .int .i64 n, .string s, .slice ka ks.length kc, .slice ma ms.length mc] 38)) := (Below.refl _ _).alloc (Nat.le_refl _) _
  have hArg : (w.alloc (.cells #[.int .i64 o, .int .i64 n, .string s, .slice ka ks.length kc, .slice ma ms.length mc] 38)).heap[w.heap.size]? = some (.cells #[.int .i64 o, .int .i64 n, .string s, .slice ka ks.length kc, .slice ma ms.length mc] 38 (0, 0)) := heap_alloc_new w _
  have HA := Lib.hid hA
  have HArg := Lib.hid hArg
  clear hA hArg
  have em : IntKind.i64.wrap (1 + (ms.length : Int)) = 1 + (ms.length : Int) := IntWalk.i64_in _ (by omega)
  go_enter Tryz.func104, Tryz.ntmps104
  go_wp2_with fail
  generalize hW0 : (w.alloc (.cells #[.int .i64 o, .int .i64 n, .string s, .slice ka ks.length kc, .slice ma ms.length mc] 38)) = W0 at *
  clear hW0
  have sz0 : w.heap.size < W0.heap.size := (Array.getElem?_eq_some_iff.1 HArg.out).1
  go_loopw [3, 6] (fun vn vi wr => ∃ (k : Nat) (m : Int), k ≤ ks.length ∧ vn = .int .i64 m ∧ vi = .int .i64 k ∧ 0 ≤ m ∧ m ≤ 6 + 180 * k ∧ Hid (m = 1 + ms.length + ((ks.take k).map costT).sum) ∧ Below W0.heap.size W0 wr) (fun _ vi _ => ks.length - (intOf vi).toNat)
  case atStart => exact ⟨0, _, Nat.zero_le _, rfl, rfl, by omega, by omega, by show _ = _; simp, Below.refl _ _⟩
  case round =>
    obtain ⟨k, m, hk, rfl, rfl, m0, m1, hp, hb⟩ := hrel
    have argr := (hb.block _ sz0).trans HArg.out
    have ca : wr.cell? ⟨w.heap.size, 3, none⟩ = some (Value.slice ka ks.length kc) := by rw [Lib.cell_of_heap argr]; rfl
    have hbw : Below w.heap.size w wr := HA.out.trans (hb.mono HA.out.size)
    clear argr
    rcases Nat.lt_or_ge k ks.length with hlt | hge
    · have k1 : (k : Int) < ks.length := by omega
      have k0 : (0 : Int) ≤ k := by omega
      obtain ⟨b, off, rfl, -, hbl, hrow⟩ := (HK.out.kept (same_of_below (N := All) hbw)).cells (by omega)
      obtain ⟨f, ⟨y0, y1, y2, y3, y4⟩, ht⟩ := hrow k hlt
      have hcall := Lib.hid (IH.out ks[k] (List.getElem_mem _) f wr ht (HOK.out _ (List.getElem_mem _)))
      have hcb := HCB.out ks[k] (List.getElem_mem _)
      have HS := Lib.hid (sum_take costT ks k hlt)
      clear hrow hbl ht
      generalize costT ks[k] = v at *
      have nv : IntKind.i64.wrap (m + v) = m + v := IntWalk.i64_in _ (by omega)
      go_wp2_with fail
      refine hcall.out.mono ?_
      rintro e w2 ⟨rfl, d2⟩
      clear y0 y1 y2 y3 y4 ca
      have hb2 : Below W0.heap.size W0 w2 := hb.trans (d2.mono hb.size)
      go_wp2
      go_roundw
      case rel => exact ⟨k + 1, m + v, by omega, rfl, by go_num, by omega, by omega, by show _ = _; rw [HS.out]; have := hp.out; omega, hb2⟩
      case measure => simp [intOf]; omega
    · obtain rfl : k = ks.length := by omega
      rw [List.take_length] at hp
      go_wp2
      go_ret
      exact ⟨retI (by rw [HE.out]; exact hp.out), hbw⟩
theorem costSC : ∀ (k : Nat) (t : Tr), wT t ≤ k → CostAt 104 t
  | 0, .node o n s ks ms, hw => by rw [wT] at hw; omega
  | k + 1, .node o n s ks ms, hw => by
    rw [wT] at hw
    by_cases h9 : o = 9
    · intro f w h hok
      obtain ⟨hpl, hoks⟩ := okP_parts hok
      subst h9
      obtain ⟨k0, k1, k2, k3, rfl⟩ := four (if_kids hpl)
      simp only [wL] at hw
      exact costIfS n s k0 k1 k2 k3 ms (costSC k k0 (by omega)) (costSC k k1 (by omega)) (costSC k k2 (by omega)) (costSC k k3 (by omega)) f w h hok
    · exact costNS o n s ks ms h9 (fun t ht => costSC k t (by have := wL_mem ht; omega))
end Go.Proofs.YtemjooejfmkkbaaGreatDoor

namespace Go.Proofs.YtemjooejfmkkbaaGreatDoor
open Go.RowKit
set_option linter.unusedVariables false
set_option linter.unusedSimpArgs false

/-- What is said: a value, a code, and the fuel that is left. -/
structure Said where
  v : Int
  c : Int
  f : Int
def varV : List (ByteArray × Int) → ByteArray → Int × Int
  | [], _ => (0, 4)
  | p :: r, s => if p.1 = s then (if okB p.2 then (p.2, 0) else (0, 2)) else varV r s
/-- One number, or two much. -/
def orB (x : Int) (b : Bool) : Int × Int := if b then (x, 0) else (0, 2)
def twoV (o a b : Int) : Int × Int :=
  if o = 3 then orB (a + b) (okB (a + b)) else if o = 4 then orB (a - b) (okB (a - b)) else if o = 5 then orB (a * b) (okB (a * b))
  else if o = 7 then (if b < a then b else a, 0) else (if a < b then b else a, 0)
def partW (a b c : Int) : Int × Int := if c = 0 then (0, 3) else orB (partV a b c) (partOk a b c)
def tierV (ms : List (Int × Int)) (a : Int) : Int × Int := if a < 0 then (0, 2) else orB (tSum (mF ms) (mP ms) ms.length a ms.length) (decide (tSum (mF ms) (mP ms) ms.length a ms.length ≤ 1000000000000))
def doR (ns : List (ByteArray × Int)) (o n : Int) (s : ByteArray) (ms : List (Int × Int)) (l : List Int) : Int × Int :=
  if o = 1 then (n, 0) else if o = 2 then varV ns s else if o = 6 then partW (l.getD 0 0) (l.getD 1 0) (l.getD 2 0)
  else if o = 10 then tierV ms (l.getD 0 0) else twoV o (l.getD 0 0) (l.getD 1 0)
/-- Kids one behind the other: their values, a code, and the fuel that is left. -/
def seqF : List (Int → Said) → Int → List Int × Int × Int
  | [], fu => ([], 0, fu)
  | g :: r, fu => if (g fu).c = 0 then ((g fu).v :: (seqF r (g fu).f).1, (seqF r (g fu).f).2) else ([], (g fu).c, (g fu).f)
def noSaid : Int → Said := fun fu => ⟨0, 0, fu⟩
def nodeV (ns : List (ByteArray × Int)) (o n : Int) (s : ByteArray) (ms : List (Int × Int)) (gs : List (Int → Said)) (fu : Int) : Said :=
  if (seqF (gs.take (if o = 9 then 2 else gs.length)) fu).2.1 ≠ 0 then ⟨0, (seqF (gs.take (if o = 9 then 2 else gs.length)) fu).2.1, (seqF (gs.take (if o = 9 then 2 else gs.length)) fu).2.2⟩
  else if (seqF (gs.take (if o = 9 then 2 else gs.length)) fu).2.2 < 1 + ms.length then ⟨0, 1, (seqF (gs.take (if o = 9 then 2 else gs.length)) fu).2.2⟩
  else if o = 9 then
    (if (seqF (gs.take (if o = 9 then 2 else gs.length)) fu).1.getD 0 0 < (seqF (gs.take (if o = 9 then 2 else gs.length)) fu).1.getD 1 0 then gs.getD 2 noSaid else gs.getD 3 noSaid) ((seqF (gs.take (if o = 9 then 2 else gs.length)) fu).2.2 - (1 + ms.length))
  else ⟨(doR ns o n s ms (seqF (gs.take (if o = 9 then 2 else gs.length)) fu).1).1, (doR ns o n s ms (seqF (gs.take (if o = 9 then 2 else gs.length)) fu).1).2, (seqF (gs.take (if o = 9 then 2 else gs.length)) fu).2.2 - (1 + ms.length)⟩
mutual
def evalT (ns : List (ByteArray × Int)) : Tr → Int → Said
  | .node o n s ks ms => nodeV ns o n s ms (evalFs ns ks)
def evalFs (ns : List (ByteArray × Int)) : List Tr → List (Int → Said)
  | [] => []
  | t :: r => evalT ns t :: evalFs ns r
end
theorem evalFs_eq (ns : List (ByteArray × Int)) : ∀ ks : List Tr, evalFs ns ks = ks.map (evalT ns)
  | [] => by rw [evalFs]; rfl
  | t :: r => by rw [evalFs, evalFs_eq ns r]; rfl
/-- A value within limits, a code that is known, no more fuel than there was. -/
def SOk (fu : Int) (r : Said) : Prop := okB r.v = true ∧ (0 ≤ r.c ∧ r.c ≤ 4) ∧ (0 ≤ r.f ∧ r.f ≤ fu) ∧ (r.c ≠ 0 → r.v = 0)
theorem okB0 : okB 0 = true := by decide
theorem varV_ok : ∀ (ns : List (ByteArray × Int)) (s : ByteArray), okB (varV ns s).1 = true ∧ (0 ≤ (varV ns s).2 ∧ (varV ns s).2 ≤ 4) ∧ ((varV ns s).2 ≠ 0 → (varV ns s).1 = 0)
  | [], s => by simp [varV, okB0]
  | p :: r, s => by
    rw [varV]
    split
    · split
      · rename_i h; simp [h]
      · simp [okB0]
    · exact varV_ok r s
theorem orB_ok {x : Int} {b : Bool} (h : b = true → okB x = true) : okB (orB x b).1 = true ∧ (0 ≤ (orB x b).2 ∧ (orB x b).2 ≤ 4) ∧ ((orB x b).2 ≠ 0 → (orB x b).1 = 0) := by
  cases b with
  | true => simp [orB, h rfl]
  | false => simp [orB, okB0]
theorem partOk_ok {a b c : Int} (h : partOk a b c = true) : okB (partV a b c) = true := by
  have h2 := h
  unfold partOk at h2
  simp only [Bool.and_eq_true] at h2
  rw [partV, if_pos h]
  exact h2.2
/-- What an op is given: amounts, as many as it wants. -/
def Args (o : Int) (l : List Int) : Prop := (l.length : Int) = (if o = 9 then 2 else kidsN o) ∧ ∀ x ∈ l, okB x = true
theorem getD_ok {l : List Int} (h : ∀ x ∈ l, okB x = true) (i : Nat) : okB (l.getD i 0) = true := by
  rcases Nat.lt_or_ge i l.length with hi | hi
  · have : l.getD i 0 = l[i] := by simp [hi]
    rw [this]; exact h _ (List.getElem_mem _)
  · have : l.getD i 0 = 0 := by simp [List.getD, List.getElem?_eq_none hi]
    rw [this]; exact okB0
theorem doR_ok {ns : List (ByteArray × Int)} {o n : Int} {s : ByteArray} {ms : List (Int × Int)} {l : List Int} (hp : HoldsN o n s ms) (hl : ∀ x ∈ l, okB x = true) : okB (doR ns o n s ms l).1 = true ∧ (0 ≤ (doR ns o n s ms l).2 ∧ (doR ns o n s ms l).2 ≤ 4) ∧ ((doR ns o n s ms l).2 ≠ 0 → (doR ns o n s ms l).1 = 0) := by
  have g0 := okB_yes (getD_ok hl 0)
  have g1 := okB_yes (getD_ok hl 1)
  unfold doR
  split
  · rename_i h1
    unfold HoldsN at hp
    rw [if_pos h1] at hp
    exact ⟨okB_mk (by simp only; omega), by simp, by simp⟩
  split
  · exact varV_ok ns s
  split
  · unfold partW
    split
    · exact ⟨okB0, by simp, by simp⟩
    · exact orB_ok partOk_ok
  split
  · rename_i h1 h2 h6 h10
    unfold tierV
    split
    · exact ⟨okB0, by simp, by simp⟩
    · rename_i hn
      refine orB_ok fun h => okB_mk ?_
      have h3 := of_decide_eq_true h
      unfold HoldsN at hp
      rw [if_neg h1, if_neg h2, if_pos h10] at hp
      have := (tSum_bd hp.2.2 (by omega : 0 ≤ l.getD 0 0) g0.2 ms.length (Nat.le_refl _)).1
      omega
  · unfold twoV
    split
    · exact orB_ok fun h => h
    split
    · exact orB_ok fun h => h
    split
    · exact orB_ok fun h => h
    split
    · refine ⟨?_, by simp, by simp⟩
      simp only
      split
      · exact getD_ok hl 1
      · exact getD_ok hl 0
    · refine ⟨?_, by simp, by simp⟩
      simp only
      split
      · exact getD_ok hl 1
      · exact getD_ok hl 0
theorem seqF_ok : ∀ (gs : List (Int → Said)) (fu : Int), 0 ≤ fu → (∀ g ∈ gs, ∀ fu, 0 ≤ fu → SOk fu (g fu)) → (0 ≤ (seqF gs fu).2.1 ∧ (seqF gs fu).2.1 ≤ 4) ∧ (0 ≤ (seqF gs fu).2.2 ∧ (seqF gs fu).2.2 ≤ fu) ∧ (∀ x ∈ (seqF gs fu).1, okB x = true) ∧ ((seqF gs fu).2.1 = 0 → (seqF gs fu).1.length = gs.length)
  | [], fu, h0, h => by simp [seqF, h0]
  | g :: r, fu, h0, h => by
    have hg := h g (by simp) fu h0
    obtain ⟨k1, k2, k3, k4⟩ := hg
    rw [seqF]
    split
    · have ih := seqF_ok r (g fu).f k3.1 (fun g' hg' => h g' (by simp [hg']))
      refine ⟨ih.1, ⟨ih.2.1.1, Int.le_trans ih.2.1.2 k3.2⟩, fun x hx => ?_, fun e => ?_⟩
      · simp only [List.mem_cons] at hx
        rcases hx with rfl | hx
        · exact k1
        · exact ih.2.2.1 x hx
      · simp [ih.2.2.2 e]
    · rename_i hc
      exact ⟨k2, k3, by simp, fun e => absurd e hc⟩
theorem eval_ok (ns : List (ByteArray × Int)) : ∀ (k : Nat) (t : Tr), wT t ≤ k → OkP t → ∀ fu, 0 ≤ fu → SOk fu (evalT ns t fu) := by
  intro k
  induction k with
  | zero => intro t h; cases t; rw [wT] at h; omega
  | succ k ih =>
    intro t hk h fu h0
    obtain ⟨o, n, s, ks, ms⟩ := t
    obtain ⟨hp, h3⟩ := okP_parts h
    rw [wT] at hk
    have hg : ∀ g ∈ ks.map (evalT ns), ∀ fu, 0 ≤ fu → SOk fu (g fu) := fun g hg fu hf => by
      obtain ⟨t, ht, rfl⟩ := List.mem_map.1 hg
      exact ih t (by have := wL_mem ht; omega) (h3 t ht) fu hf
    rw [evalT, evalFs_eq]
    have hs := seqF_ok ((ks.map (evalT ns)).take (if o = 9 then 2 else (ks.map (evalT ns)).length)) fu h0 (fun g h => hg g (List.mem_of_mem_take h))
    unfold nodeV
    generalize seqF ((ks.map (evalT ns)).take (if o = 9 then 2 else (ks.map (evalT ns)).length)) fu = q at *
    obtain ⟨q1, q2, q3, q4⟩ := hs
    split
    · exact ⟨okB0, q1, q2, fun _ => rfl⟩
    split
    · exact ⟨okB0, by simp, q2, fun _ => rfl⟩
    split
    · rename_i h9
      subst h9
      have hk4 := if_kids hp
      have hf2 : 0 ≤ q.2.2 - (1 + (ms.length : Int)) := by omega
      have hm : ∀ i, i < 4 → SOk (q.2.2 - (1 + (ms.length : Int))) (((ks.map (evalT ns)).getD i noSaid) (q.2.2 - (1 + (ms.length : Int)))) := fun i hi => by
        have : (ks.map (evalT ns)).getD i noSaid = evalT ns (ks[i]'(by omega)) := by simp [List.getD, show i < ks.length by omega]
        rw [this]
        exact ih _ (by have := wL_mem (List.getElem_mem (l := ks) (n := i) (by omega)); omega) (h3 _ (List.getElem_mem _)) _ hf2
      have up : ∀ {r : Said}, SOk (q.2.2 - (1 + (ms.length : Int))) r → SOk fu r := fun h => ⟨h.1, h.2.1, ⟨h.2.2.1.1, by have := h.2.2.1.2; omega⟩, h.2.2.2⟩
      split
      · exact up (hm 2 (by omega))
      · exact up (hm 3 (by omega))
    · have hd := doR_ok (ns := ns) (o := o) (n := n) (s := s) (ms := ms) hp.2 q3
      exact ⟨hd.1, hd.2.1, ⟨by simp only; omega, by simp only; omega⟩, hd.2.2⟩
end Go.Proofs.YtemjooejfmkkbaaGreatDoor
