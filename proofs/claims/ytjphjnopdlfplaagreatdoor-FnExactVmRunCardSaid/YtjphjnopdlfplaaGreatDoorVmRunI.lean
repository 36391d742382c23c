/-
  The program runs a program, place by place.
-/
import Derived.Test.YtjphjnopdlfplaaGreatDoorJ34
namespace Go.Proofs.YtjphjnopdlfplaaGreatDoor
open Go.RowKit
set_option linter.unusedVariables false
set_option linter.unusedSimpArgs false

def StepP (mb : Nat) (na : Option Addr) (nl nc : Nat) (fu : Int) (base : Nat) (st : List Int) (out rc : Int) (row : Option Nat) (w : World) (e : Ending) (w' : World) : Prop :=
  e = .returned (.int .i64 rc) ∧ Hid (Ev w' mb na nl nc fu) ∧ Hid (rc = 0 → ∃ (a : Option Addr) (n c : Nat), Mach w' mb na nl nc fu a n c out ∧ w'.ownsRow base 3 1 (.slice a n c) n (st.map (Value.int .i64))) ∧ Hid (Grow2 w w' mb row)
theorem fn_reckon (args : Array Value) (w : World) : (callFunc 95 args).run Tryz.prog w = .ok (.enter 95 args) w := by kernel_rfl
theorem fn_test (args : Array Value) (w : World) : (callFunc 96 args).run Tryz.prog w = .ok (.enter 96 args) w := by kernel_rfl
theorem fn_skip (args : Array Value) (w : World) : (callFunc 97 args).run Tryz.prog w = .ok (.enter 97 args) w := by kernel_rfl
def StepOf (ds : List Pl) (hs : List Int) (ns : List (ByteArray × Int)) (fu : Int) (i : Nat) (f' : Int) (o nn : Int) (s : ByteArray) (ms : List (Int × Int)) (mb : Nat) (na : Option Addr) (nl nc base : Nat) (ma : Option Addr) (mc : Nat) (row : Option Nat) (w5 : World) : Prop :=
  ∃ (FN : FuncId) (st' : List Int) (out' rc : Int) (q' : Nat), ((∀ args W, (callFunc FN args).run Tryz.prog W = .ok (.enter FN args) W) ∧ 0 ≤ o ∧ o < 12 ∧ (fnsA mb)[o.toNat]? = some (.func (.func FN) #[.pointer (some ⟨mb, 0, none⟩)] #[])) ∧
    (∀ W, Below w5.heap.size w5 W → Calls Tryz.prog FN #[.pointer (some ⟨mb, 0, none⟩), .agg #[.int .i64 o, .int .i64 nn, .string s, .slice ma ms.length mc]] W (StepP mb na nl nc f' base st' out' rc row W)) ∧
    (rc ≠ 0 → machV ns ds [] fu = ⟨0, rc, f'⟩) ∧ (rc = 0 → out' = (q' : Int) ∧ i + 1 + q' ≤ ds.length ∧ RunAt ds hs ns fu (i + 1 + q') st' (fu - f'))
theorem ops9 {o : Int} (h : 1 ≤ o ∧ o ≤ 10) (h9 : o ≠ 9) : o = 1 ∨ o = 2 ∨ o = 3 ∨ o = 4 ∨ o = 5 ∨ o = 6 ∨ o = 7 ∨ o = 8 ∨ o = 10 := by omega
theorem owns_none {w w' : World} {base n : Nat} {e : TypeId} {a : Option Addr} {m c : Nat} {l : List Value} (h : w.ownsRow base e 1 (.slice a m c) n l) (hb : Below w.heap.size w w') : w'.ownsRow base e 1 (.slice a m c) n l :=
  h.kept (row := none) (grown_any hb) (by cases a <;> simp [Value.ownBlock])
theorem stepOf {ds : List Pl} {hs : List Int} {ns : List (ByteArray × Int)} {fu : Int} {i : Nat} {st : List Int} {f : Int} (hway : WayV ds hs) (hin : InV hs) (hrun : RunAt ds hs ns fu i st (fu - f)) (hil : i < ds.length) {o nn : Int} {s : ByteArray} {ms : List (Int × Int)} (hd : ds[i] = ⟨o, nn, s, ms⟩) (hf : costP ⟨o, nn, s, ms⟩ ≤ f)
    {mb : Nat} {na : Option Addr} {nl nc : Nat} {a : Option Addr} {n c base : Nat} {ma : Option Addr} {mc : Nat} {w5 : World} (hM : Mach w5 mb na nl nc (f - costP ⟨o, nn, s, ms⟩) a n c 0) (hr : w5.ownsRow base 3 1 (.slice a n c) n (st.map (Value.int .i64))) (hb : mb < base) (hbw : base ≤ w5.heap.size)
    (hm : MarksN (fun b => b ≠ mb) w5 ma ms.length ms) (hp : PairsN (fun b => b ≠ mb) w5 na nl ns) (hl : nl ≤ 1048576) :
    StepOf ds hs ns fu i (f - costP ⟨o, nn, s, ms⟩) o nn s ms mb na nl nc base ma mc (Value.slice a n c).ownBlock w5 := by
  have hml : n = st.length := by have := hr.1; simpa using this.symm
  have h12 := run_size hway hin hrun
  have hc : fu - f + costP ds[i] ≤ fu := by rw [hd]; omega
  have eu : fu - f + costP ⟨o, nn, s, ms⟩ = fu - (f - costP ⟨o, nn, s, ms⟩) := by omega
  by_cases h11 : o = 11
  · have ho : ds[i].op = 11 := by rw [hd]; exact h11
    obtain ⟨q0, q1, RN⟩ := run_skip hway hrun hil hc ho
    simp only [hd] at q0 q1 RN
    subst h11
    obtain ⟨q, rfl⟩ : ∃ q : Nat, nn = (q : Int) := ⟨nn.toNat, by omega⟩
    rw [Int.toNat_natCast] at q1 RN
    rw [eu] at RN
    refine ⟨97, st, (q : Int), 0, q, ⟨fn_skip, by omega, by omega, rfl⟩, fun W hW => ?_, fun h => absurd rfl h, fun _ => ⟨rfl, q1, RN⟩⟩
    have hM1 := hM.kept hW
    refine (skipI 11 q s ma ms.length mc mb 0 W hM1.ev.1 hM1.out hM1.f3).mono ?_
    rintro e w' ⟨rfl, w1, hB, rfl⟩
    have hM2 := (hM1.kept hB).setOut (q : Int)
    refine ⟨rfl, Lib.hid hM2.ev, Lib.hid (fun _ => ⟨a, n, c, hM2, owns_mb (owns_none (owns_none hr hW) hB) hb⟩), Lib.hid ((Grow2.of_below hB).trans (Grow2.of_mb (grown_set _ _ _)))⟩
  by_cases h9 : o = 9
  · have ho : ds[i].op = 9 := by rw [hd]; exact h9
    obtain ⟨q0, ⟨q1, q2⟩, RL, RM⟩ := run_test hway hrun hil hc ho
    simp only [hd] at q1 q2 RL RM
    subst h9
    obtain ⟨q, rfl⟩ : ∃ q : Nat, nn = (q : Int) := ⟨nn.toNat, by omega⟩
    rw [Int.toNat_natCast] at q2 RM
    rw [eu] at RL RM
    obtain ⟨r, hr2⟩ : ∃ r, st.length - 2 = r := ⟨_, rfl⟩
    rw [hr2] at RL RM
    have hn : n = r + 2 := by omega
    refine ⟨96, st.take r, if (st.drop r).getD 0 0 < (st.drop r).getD 1 0 then 0 else (q : Int), 0, if (st.drop r).getD 0 0 < (st.drop r).getD 1 0 then 0 else q, ⟨fn_test, by omega, by omega, rfl⟩, fun W hW => ?_, fun h => absurd rfl h, fun _ => ?_⟩
    · have hM1 := hM.kept hW
      have hr1 := owns_none hr hW
      refine (testI 9 q s ma ms.length mc mb na nl nc _ a n c r base st W hM1 hr1 hb hn (by omega) _ _ (if (st.drop r).getD 0 0 < (st.drop r).getD 1 0 then 0 else (q : Int)) rfl rfl (fun h => if_pos h) (fun h => if_neg (by omega))).mono ?_
      rintro e w' ⟨rfl, hM2, hG⟩
      have hr3 := owns_cut' (r := r) (hr1.kept (row := some mb) hG (Or.inr (fun e => by have := (hr1.lt mb e).1; omega))) (by omega)
      rw [← List.map_take] at hr3
      exact ⟨rfl, Lib.hid hM2.ev, Lib.hid (fun _ => ⟨a, r, c, hM2, hr3⟩), Lib.hid (Grow2.of_mb hG)⟩
    · by_cases hl2 : (st.drop r).getD 0 0 < (st.drop r).getD 1 0
      · rw [if_pos hl2, if_pos hl2]; exact ⟨rfl, by omega, RL hl2⟩
      · rw [if_neg hl2, if_neg hl2]; exact ⟨rfl, q2, RM hl2⟩
  obtain ⟨hin10, k, hk, hkn, hkm, hH, hall, FB, FG⟩ := run_do hway hrun hil hc (by rw [hd]; exact h9) (by rw [hd]; exact h11)
  simp only [hd] at hin10 hk hkn hH FB FG
  rw [eu] at FB FG
  obtain ⟨r, hr2⟩ : ∃ r, st.length - k = r := ⟨_, rfl⟩
  rw [hr2] at hall FB FG
  have hn : n = r + k := by omega
  obtain ⟨rr, hrr⟩ : ∃ rr, doR ns o nn s ms (st.drop r) = rr := ⟨_, rfl⟩
  rw [hrr] at FB FG
  obtain ⟨rv, rc⟩ := rr
  dsimp only at FB FG
  refine ⟨95, st.take r ++ [rv], 0, rc, 0, ⟨fn_reckon, by omega, by omega, ?_⟩, fun W hW => ?_, fun h => by rw [FB h, Int.sub_sub_self], fun h => ⟨rfl, by omega, FG h⟩⟩
  · rcases ops9 hin10 h9 with rfl | rfl | rfl | rfl | rfl | rfl | rfl | rfl | rfl <;> rfl
  · exact reckonI o nn s ma mc ms mb na nl nc _ a n c r k base st ns 0 rv rc W (hM.kept hW) (owns_none hr hW) hb (Nat.le_trans hbw hW.size) hn (by omega) h9 hin10 hkn hH hall (hm.kept (same_of_below hW)) (hp.kept (same_of_below hW)) hl hrr
def RunP (ds : List Pl) (ns : List (ByteArray × Int)) (fu : Int) (mb : Nat) (na : Option Addr) (nl nc : Nat) (mv : Said) (w : World) (e : Ending) (w' : World) : Prop :=
  e = .returned (.tuple #[.int .i64 mv.v, .int .i64 mv.c]) ∧ Hid (Ev w' mb na nl nc mv.f) ∧ Hid (w.grownBy w' (some mb))
set_option maxRecDepth 20000 in
set_option maxHeartbeats 32000000 in
theorem implRun (a0 : Option Addr) (nn0 cap : Nat) (ds : List Pl) (ns : List (ByteArray × Int)) (na : Option Addr) (nl nc : Nat) (fu : Int) (mb : Nat) (w : World) (h : PlsN (fun b => b ≠ mb) w a0 nn0 ds) (hsm : ∀ d ∈ ds, SmallP d) (hok : OkV ds) (hp : PairsN (fun b => b ≠ mb) w na nl ns) (hnl : nl ≤ 1048576) (f0 : 0 ≤ fu) (f1 : fu ≤ 1000) (hM : Mach w mb na nl nc fu none 0 0 0) (mv : Said) (hmv : machV ns ds [] fu = mv) :
    Calls Tryz.prog 39 #[.pointer (some ⟨mb, 0, none⟩), .slice a0 nn0 cap] w (RunP ds ns fu mb na nl nc mv w) := by
  obtain ⟨hs, hhs, hway⟩ := okV_way hok
  have HIN := Lib.hid (heightsV_in hhs)
  have HWY := Lib.hid hway
  have H := Lib.hid h
  have HSM := Lib.hid hsm
  have HP := Lib.hid hp
  have HN : Hid (nn0 = ds.length) := h.1
  have HR0 := Lib.hid (run_first (ns := ns) (fu := fu) hway)
  have n80 : nn0 ≤ 80 := by have := hok.1; have := HN.out; omega
  have HM := Lib.hid hM
  have hmb := hM.ev.1
  have HMV := Lib.hid hmv
  clear h hsm hok hp hhs hway hM hmv
  obtain ⟨mvv, mvc, mvf⟩ := mv
  go_enter Tryz.func39, Tryz.ntmps39
  go_wp2_with fail
  refine (opsI mb w).mono ?_
  rintro e w0 ⟨rfl, d0⟩
  have hA : Below w.heap.size w ((w0.alloc (.cells #[.nilFunc, .nilFunc, .nilFunc, .nilFunc, .nilFunc, .nilFunc, .nilFunc, .nilFunc, .nilFunc, .nilFunc, .nilFunc, .nilFunc] 106)).setRow w0.heap.size (fnsA mb)) := by
    refine ((d0.trans (((Below.refl _ _).alloc (Nat.le_refl _) _).mono d0.size)).grown (grown_setRowT _ _ _) (by simp only [World.size_alloc]; have := d0.size; omega) (fun k e => by cases e; exact d0.size))
  have hX : ((w0.alloc (.cells #[.nilFunc, .nilFunc, .nilFunc, .nilFunc, .nilFunc, .nilFunc, .nilFunc, .nilFunc, .nilFunc, .nilFunc, .nilFunc, .nilFunc] 106)).setRow w0.heap.size (fnsA mb)).heap[w0.heap.size]? = some (.cells (fnsA mb) 106 (0, 0)) := setRow_heap _ _ _ _ _ _ (heap_alloc_new w0 _)
  have HA := Lib.hid hA
  have HOX := Lib.hid hX
  have hob : w.heap.size ≤ w0.heap.size := d0.size
  clear hA hX d0
  go_wp2_with (refine wpList_store_row rfl 106 _ _ rfl w0.heap.size (fnsA mb) rfl rfl 106 #[.nilFunc, .nilFunc, .nilFunc, .nilFunc, .nilFunc, .nilFunc, .nilFunc, .nilFunc, .nilFunc, .nilFunc, .nilFunc, .nilFunc] (heap_alloc_new w0 _) fnsSize rfl (fns_one mb) ?_)
  generalize ((w0.alloc (.cells #[.nilFunc, .nilFunc, .nilFunc, .nilFunc, .nilFunc, .nilFunc, .nilFunc, .nilFunc, .nilFunc, .nilFunc, .nilFunc, .nilFunc] 106)).setRow w0.heap.size (fnsA mb)) = w1 at *
  generalize w0.heap.size = ob at *
  have HOB1 : Hid (ob < w1.heap.size) := Lib.hid (Array.getElem?_eq_some_iff.1 HOX.out).1
  have HOBM : Hid (ob ≠ mb) := Lib.hid (by omega)
  have HMB : Hid (mb < w1.heap.size) := Lib.hid (Nat.lt_of_lt_of_le hmb HA.out.size)
  have HW1 : Hid (w.grownBy w1 (some mb)) := Lib.hid (grown_any HA.out)
  have HM1 := Lib.hid (HM.out.kept HA.out)
  have HR1 : Hid (w1.ownsRow w1.heap.size 3 1 (.slice none 0 0) 0 (([] : List Int).map (Value.int .i64))) := Lib.hid (World.ownsRow_nil _ _ _ _)
  have HR0' : Hid (RunAt ds hs ns fu 0 [] (fu - fu)) := Lib.hid (by rw [Int.sub_self]; exact HR0.out)
  clear HM hob
  go_loopw [7] (fun vi wr => ∃ (i : Nat) (a : Option Addr) (n c : Nat) (st : List Int) (f out : Int), i ≤ nn0 ∧ vi = .int .i64 i ∧ 0 ≤ f ∧ f ≤ fu ∧ Hid (Mach wr mb na nl nc f a n c out) ∧ Hid (wr.ownsRow w1.heap.size 3 1 (.slice a n c) n (st.map (Value.int .i64))) ∧ Hid (RunAt ds hs ns fu i st (fu - f)) ∧ Hid (w1.grownBy wr (some mb))) (fun vi _ => nn0 - (intOf vi).toNat)
  case atStart => exact ⟨0, none, 0, 0, [], fu, 0, Nat.zero_le _, rfl, f0, Int.le_refl _, HM1, HR1, HR0', Lib.hid (grown_any (Below.refl _ _))⟩
  case round =>
    obtain ⟨i, a, n, c, st, f, out, hin, rfl, hf0, hfu, HM, HR, HRUN, HG⟩ := hrel
    have HML : Hid (n = st.length) := Lib.hid (by have := HR.out.1; simpa using this.symm)
    have HGW : Hid (w.grownBy wr (some mb)) := Lib.hid (grown_trans HW1.out HG.out)
    rcases Nat.lt_or_ge i nn0 with hlt | hge
    · have hil : i < ds.length := by have := HN.out; omega
      have k1 : (i : Int) < nn0 := by omega
      have k0 : (0 : Int) ≤ i := by omega
      have HM2 := Lib.hid (HM.out.setOut 0)
      have HG2 : Hid (wr.grownBy (wr.setCell ⟨mb, 3, none⟩ (.int .i64 0)) (some mb)) := Lib.hid (grown_set _ _ _)
      have m3 := HM.out.out
      have f3 := HM.out.f3
      have hH2 := H.out.kept (same_ne (grown_trans HGW.out HG2.out))
      obtain ⟨b, off, rfl, hbm, hbl, hrow⟩ := hH2.cells (by omega)
      obtain ⟨fd, hcf, ht⟩ := hrow i hil
      obtain ⟨e1, e2, e3, hm, hc2⟩ := ht
      have hsmk := (HSM.out ds[i] (List.getElem_mem _)).2
      have hcin := costP_in ds[i]
      have FL : Hid (fu < fu - f + costP ds[i] → machV ns ds [] fu = ⟨0, 1, fu - (fu - f)⟩) := Lib.hid (run_lack HRUN.out hil)
      have STO0 : Hid (∀ o nn s ms, ds[i] = ⟨o, nn, s, ms⟩ → costP ⟨o, nn, s, ms⟩ ≤ f → ∀ ma mc w6, Mach w6 mb na nl nc (f - costP ⟨o, nn, s, ms⟩) a n c 0 → w6.ownsRow w1.heap.size 3 1 (.slice a n c) n (st.map (Value.int .i64)) → w1.heap.size ≤ w6.heap.size → MarksN (fun b => b ≠ mb) w6 ma ms.length ms → PairsN (fun b => b ≠ mb) w6 na nl ns → StepOf ds hs ns fu i (f - costP ⟨o, nn, s, ms⟩) o nn s ms mb na nl nc w1.heap.size ma mc (Value.slice a n c).ownBlock w6) :=
        Lib.hid (fun o nn s ms hd hf ma mc w6 hM hr hbw hm hp => stepOf HWY.out HIN.out HRUN.out hil hd hf hM hr HMB.out hbw hm hp hnl)
      obtain ⟨d, hd⟩ : ∃ d, ds[i] = d := ⟨_, rfl⟩
      have HD := Lib.hid hd
      rw [hd] at e1 e2 e3 hm hsmk hcin FL
      obtain ⟨o, nn, s, ms⟩ := d
      obtain ⟨fo, fn, fs, ma, ml, mc⟩ := fd
      dsimp only at e1 e2 e3 hm hc2 hsmk hcin
      have q1 := e1.symm
      have q2 := e2.symm
      have q3 := e3.symm
      clear e1 e2 e3
      subst q1 q2 q3
      obtain rfl := hm.1
      have STO := Lib.hid (STO0.out o nn s ms HD.out)
      have hC := Lib.hid (fun W => vmCostI o nn s ma mc ms W hsmk)
      generalize hcv : costP ⟨o, nn, s, ms⟩ = cv at *
      have HM0 := Lib.hid hm
      obtain ⟨y0, y1, y2, y3⟩ := hcf
      dsimp only at y0 y1 y2 y3
      clear hrow hm hc2 hd hcv hH2 STO0 hbm
      generalize hW2 : wr.setCell ⟨mb, 3, none⟩ (.int .i64 0) = w2 at *
      have HW2 := Lib.hid hW2
      clear hW2
      have hWA : Below w2.heap.size w2 (w2.alloc (.cells #[.int .i64 o, .int .i64 nn, .string s, .slice ma ms.length mc] 55)) := (Below.refl _ _).alloc (Nat.le_refl _) _
      have hX : (w2.alloc (.cells #[.int .i64 o, .int .i64 nn, .string s, .slice ma ms.length mc] 55)).heap[w2.heap.size]? = some (.cells #[.int .i64 o, .int .i64 nn, .string s, .slice ma ms.length mc] 55 (0, 0)) := heap_alloc_new w2 _
      have HX3 := Lib.hid hX
      have HWA := Lib.hid hWA
      clear hX hWA
      go_upto_region 6 with fail
      rw [HW2.out]
      go_upto_region 7 with fail
      clear y0 y1 y2 y3
      have HG23 : Hid (w2.grownBy (w2.alloc (.cells #[.int .i64 o, .int .i64 nn, .string s, .slice ma ms.length mc] 55)) (some mb)) := Lib.hid (grown_any HWA.out)
      have HM3 := Lib.hid (HM2.out.kept HWA.out)
      generalize (w2.alloc (.cells #[.int .i64 o, .int .i64 nn, .string s, .slice ma ms.length mc] 55)) = w3 at *
      have hbx3 : w2.heap.size < w3.heap.size := (Array.getElem?_eq_some_iff.1 HX3.out).1
      have hwr2 : wr.heap.size ≤ w2.heap.size := HG2.out.size
      have hw1r : w1.heap.size ≤ wr.heap.size := HG.out.size
      generalize w2.heap.size = bx at *
      have HG3 : Hid (wr.grownBy w3 (some mb)) := Lib.hid (grown_trans HG2.out HG23.out)
      have HBXM : Hid (bx ≠ mb) := Lib.hid (by have := HMB.out; omega)
      have NBX : Hid (some bx ≠ (Value.slice a n c).ownBlock) := Lib.hid (fun e => by have := (HR.out.lt bx e.symm).2; omega)
      have NOB : Hid (some ob ≠ (Value.slice a n c).ownBlock) := Lib.hid (fun e => by have := (HR.out.lt ob e.symm).1; have := HOB1.out; omega)
      have HROW : Hid (∀ b, (Value.slice a n c).ownBlock = some b → w1.heap.size ≤ b) := Lib.hid (fun b e => (HR.out.lt b e).1)
      have BXC : Hid (∀ W, w3.grownBy W (some mb) → W.cell? ⟨bx, 0, none⟩ = some (.int .i64 o) ∧ W.cell? ⟨bx, 1, none⟩ = some (.int .i64 nn) ∧ W.cell? ⟨bx, 2, none⟩ = some (.string s) ∧ W.cell? ⟨bx, 3, none⟩ = some (.slice ma ms.length mc)) := Lib.hid (fun W hW => by
        have e := (hW.block _ hbx3 (fun e => HBXM.out (Option.some.inj e))).trans HX3.out
        refine ⟨?_, ?_, ?_, ?_⟩ <;> (rw [Lib.cell_of_heap e]; rfl))
      clear HW2 HM2 HG2 m3 f3 HWA HM
      have hf1 : f ≤ 1000 := by omega
      have hcv0 : 0 ≤ cv := hcin.1
      rcases Int.lt_or_le f cv with hf | hf
      · refine wp_region_invK (by kernel_rfl) (fun _ L fL W => TM 5 (fun b W => w3.grownBy W (some mb) ∧ Mach W mb na nl nc f a n c 0) (fun i _ v => v = ([(Value.pointer (some ⟨mb, 0, none⟩)), (.pointer (some ⟨mb, 0, none⟩)), (.pointer (some ⟨mb, 0, none⟩)), (.agg #[.int .i64 o, .int .i64 nn, .string s, .slice ma ms.length mc]), (.int .i64 cv), (.bool false), (.bool true)] : List Value).getD i (.bool false)) L fL W) (by kernel_rfl) ⟨⟨grown_any (Below.drew (Below.refl _ _)), HM3.out.kept (Below.drew (Below.refl _ _))⟩, fun _ a => by cases a⟩ ?_
        apply Exists.intro
        apply And.intro
        · intro f
          simp only [over, List.set]
          exact rfl
        refine ⟨?hops, ?hend⟩
        case hops =>
          refine EachOp.cons ?_ (EachOp.cons ?_ (EachOp.cons ?_ (EachOp.cons ?_ (EachOp.cons ?_ (EachOp.cons ?_ (EachOp.cons ?_ (EachOp.nil)))))))
          · intro L ff kk ww hkk hJ hcl hLi hwt QQ' hQ
            try dsimp only
            go_big_wp2_with fail
            refine hQ _ (.pointer (some ⟨mb, 0, none⟩)) _ ?_ (hJ.op (by decide) (fun _ h => h) (fun _ _ h => h) rfl)
            first | rfl | (simp [upd]; done)
          · intro L ff kk ww hkk hJ hcl hLi hwt QQ' hQ
            try dsimp only
            have c0' : ff 0 = .pointer (some ⟨mb, 0, none⟩) := hJ.pre 0 (hwt 0 (by decide))
            go_big_wp2_with fail
            refine hQ _ (.pointer (some ⟨mb, 0, none⟩)) _ ?_ (hJ.op (by decide) (fun _ h => h) (fun _ _ h => h) rfl)
            first | rfl | (simp [upd, c0']; done)
          · intro L ff kk ww hkk hJ hcl hLi hwt QQ' hQ
            try dsimp only
            have c1' : ff 1 = .pointer (some ⟨mb, 0, none⟩) := hJ.pre 1 (hwt 1 (by decide))
            go_big_wp2_with fail
            refine hQ _ (.pointer (some ⟨mb, 0, none⟩)) _ ?_ (hJ.op (by decide) (fun _ h => h) (fun _ _ h => h) rfl)
            first | rfl | (simp [upd, c1']; done)
          · intro L ff kk ww hkk hJ hcl hLi hwt QQ' hQ
            try dsimp only
            obtain ⟨z0, z1, z2, z3⟩ := BXC.out _ hJ.mid.1
            go_big_wp2_with fail
            refine hQ _ (.agg #[.int .i64 o, .int .i64 nn, .string s, .slice ma ms.length mc]) _ ?_ (hJ.op (by decide) (fun _ h => h) (fun _ _ h => h) rfl)
            first | rfl | (simp [upd]; done)
          · intro L ff kk ww hkk hJ hcl hLi hwt QQ' hQ
            try dsimp only
            have c3' : ff 3 = .agg #[.int .i64 o, .int .i64 nn, .string s, .slice ma ms.length mc] := hJ.pre 3 (hwt 3 (by decide))
            go_big_wp2_with fail
            refine (hC.out ww).mono ?_
            rintro e wa ⟨rfl, d9⟩
            go_big_wp2_with fail
            refine hQ _ (.int .i64 cv) wa ?_ (hJ.op (by decide) (fun _ h => ⟨grown_trans h.1 (grown_any d9), h.2.kept d9⟩) (fun _ _ h => h) rfl)
            first | rfl | (simp [upd, c3']; done)
          · intro L ff kk ww hkk hJ hcl hLi hwt QQ' hQ
            try dsimp only
            have c2' : ff 2 = .pointer (some ⟨mb, 0, none⟩) := hJ.pre 2 (hwt 2 (by decide))
            have c4' : ff 4 = .int .i64 cv := hJ.pre 4 (hwt 4 (by decide))
            have hmid := hJ.mid
            go_big_wp2_with fail
            refine (takeNo cv f mb na nl nc ww hf hmid.2.ev).mono ?_
            rintro e wa ⟨rfl, hwa⟩
            subst wa
            go_big_wp2_with fail
            refine hQ _ (.bool false) ww ?_ (hJ.call hmid (fun _ _ h => h) rfl)
            first | rfl | (simp [upd, c2', c4']; done)
          · intro L ff kk ww hkk hJ hcl hLi hwt QQ' hQ
            try dsimp only
            have c5' : ff 5 = .bool false := hJ.pre 5 (hwt 5 (by decide))
            go_big_wp2_with fail
            refine hQ _ (.bool true) _ ?_ (hJ.op (by decide) (fun _ h => h) (fun _ _ h => h) rfl)
            first | rfl | (simp [upd, c5']; done)
        case hend =>
          intro L ff kk w6 hkb hL hJ
          try dsimp only
          have c6 : ff 6 = .bool true := hJ.pre 6 (hL 6 (by decide))
          rw [c6]
          have hmid := hJ.mid
          obtain ⟨hg6, hm6⟩ := hmid
          have HE := FL.out (by omega)
          rw [HMV.out] at HE
          simp only [Said.mk.injEq] at HE
          have HE := Lib.hid HE
          have HFIN : Hid (w.grownBy w6 (some mb)) := Lib.hid (grown_trans HGW.out (grown_trans HG3.out hg6))
          have HEV := Lib.hid hm6.ev
          clear hJ hL c6 hg6 hm6 BXC hC HM3
          go_wp2
          go_ret2
          obtain ⟨rfl, rfl, rfl⟩ := HE.out
          refine ⟨rfl, Lib.hid ?_, HFIN⟩
          rw [show fu - (fu - f) = f from by omega]
          exact HEV.out
      have STO := Lib.hid (STO.out hf)
      clear FL
      refine wp_region_invK (by kernel_rfl) (fun _ L fL W => TM 5 (fun b W => w3.grownBy W (some mb) ∧ Mach W mb na nl nc (if b then f - cv else f) a n c 0) (fun i _ v => v = ([(Value.pointer (some ⟨mb, 0, none⟩)), (.pointer (some ⟨mb, 0, none⟩)), (.pointer (some ⟨mb, 0, none⟩)), (.agg #[.int .i64 o, .int .i64 nn, .string s, .slice ma ms.length mc]), (.int .i64 cv), (.bool true), (.bool false)] : List Value).getD i (.bool false)) L fL W) (by kernel_rfl) ⟨⟨grown_any (Below.drew (Below.refl _ _)), HM3.out.kept (Below.drew (Below.refl _ _))⟩, fun _ a => by cases a⟩ ?_
      apply Exists.intro
      apply And.intro
      · intro f
        simp only [over, List.set]
        exact rfl
      refine ⟨?hops, ?hend⟩
      case hops =>
        refine EachOp.cons ?_ (EachOp.cons ?_ (EachOp.cons ?_ (EachOp.cons ?_ (EachOp.cons ?_ (EachOp.cons ?_ (EachOp.cons ?_ (EachOp.nil)))))))
        · intro L ff kk ww hkk hJ hcl hLi hwt QQ' hQ
          try dsimp only
          go_big_wp2_with fail
          refine hQ _ (.pointer (some ⟨mb, 0, none⟩)) _ ?_ (hJ.op (by decide) (fun _ h => h) (fun _ _ h => h) rfl)
          first | rfl | (simp [upd]; done)
        · intro L ff kk ww hkk hJ hcl hLi hwt QQ' hQ
          try dsimp only
          have c0' : ff 0 = .pointer (some ⟨mb, 0, none⟩) := hJ.pre 0 (hwt 0 (by decide))
          go_big_wp2_with fail
          refine hQ _ (.pointer (some ⟨mb, 0, none⟩)) _ ?_ (hJ.op (by decide) (fun _ h => h) (fun _ _ h => h) rfl)
          first | rfl | (simp [upd, c0']; done)
        · intro L ff kk ww hkk hJ hcl hLi hwt QQ' hQ
          try dsimp only
          have c1' : ff 1 = .pointer (some ⟨mb, 0, none⟩) := hJ.pre 1 (hwt 1 (by decide))
          go_big_wp2_with fail
          refine hQ _ (.pointer (some ⟨mb, 0, none⟩)) _ ?_ (hJ.op (by decide) (fun _ h => h) (fun _ _ h => h) rfl)
          first | rfl | (simp [upd, c1']; done)
        · intro L ff kk ww hkk hJ hcl hLi hwt QQ' hQ
          try dsimp only
          obtain ⟨z0, z1, z2, z3⟩ := BXC.out _ hJ.mid.1
          go_big_wp2_with fail
          refine hQ _ (.agg #[.int .i64 o, .int .i64 nn, .string s, .slice ma ms.length mc]) _ ?_ (hJ.op (by decide) (fun _ h => h) (fun _ _ h => h) rfl)
          first | rfl | (simp [upd]; done)
        · intro L ff kk ww hkk hJ hcl hLi hwt QQ' hQ
          try dsimp only
          have c3' : ff 3 = .agg #[.int .i64 o, .int .i64 nn, .string s, .slice ma ms.length mc] := hJ.pre 3 (hwt 3 (by decide))
          go_big_wp2_with fail
          refine (hC.out ww).mono ?_
          rintro e wa ⟨rfl, d9⟩
          go_big_wp2_with fail
          refine hQ _ (.int .i64 cv) wa ?_ (hJ.op (by decide) (fun _ h => ⟨grown_trans h.1 (grown_any d9), h.2.kept d9⟩) (fun _ _ h => h) rfl)
          first | rfl | (simp [upd, c3']; done)
        · intro L ff kk ww hkk hJ hcl hLi hwt QQ' hQ
          try dsimp only
          have c2' : ff 2 = .pointer (some ⟨mb, 0, none⟩) := hJ.pre 2 (hwt 2 (by decide))
          have c4' : ff 4 = .int .i64 cv := hJ.pre 4 (hwt 4 (by decide))
          have hmid := hJ.mid
          rw [hLi] at hmid
          obtain ⟨hg9, hm9⟩ := hmid
          go_big_wp2_with fail
          refine (fuelYes cv f mb na nl nc ww hf hcv0 hf1 hm9.ev).mono ?_
          rintro e wa ⟨rfl, hwa⟩
          have hgs : ww.grownBy wa (some mb) := by rw [hwa]; exact grown_set _ _ _
          have hma : Mach wa mb na nl nc (f - cv) a n c 0 := by rw [hwa]; exact hm9.setFuel _
          clear hwa
          go_big_wp2_with fail
          refine hQ _ (.bool true) wa ?_ (hJ.call ⟨grown_trans hg9 hgs, hma⟩ (fun _ _ h => h) rfl)
          first | rfl | (simp [upd, c2', c4']; done)
        · intro L ff kk ww hkk hJ hcl hLi hwt QQ' hQ
          try dsimp only
          have c5' : ff 5 = .bool true := hJ.pre 5 (hwt 5 (by decide))
          go_big_wp2_with fail
          refine hQ _ (.bool false) _ ?_ (hJ.op (by decide) (fun _ h => h) (fun _ _ h => h) rfl)
          first | rfl | (simp [upd, c5']; done)
      case hend =>
        intro L ff kk w6 hkb hL hJ
        try dsimp only
        have c6 : ff 6 = .bool false := hJ.pre 6 (hL 6 (by decide))
        rw [c6]
        have hmid := hJ.mid
        rw [hL 5 (by decide)] at hmid
        obtain ⟨hg6, hm6⟩ := hmid
        have HM6 : Hid (Mach w6 mb na nl nc (f - cv) a n c 0) := Lib.hid hm6
        have HG6 : Hid (wr.grownBy w6 (some mb)) := Lib.hid (grown_trans HG3.out hg6)
        have HX6 : Hid (w6.heap[bx]? = some (.cells #[.int .i64 o, .int .i64 nn, .string s, .slice ma ms.length mc] 55 (0, 0))) := Lib.hid ((hg6.block bx hbx3 (fun e => HBXM.out (Option.some.inj e))).trans HX3.out)
        have G6 : Hid (w1.grownBy w6 (some mb)) := Lib.hid (grown_trans HG.out HG6.out)
        have HO6 : Hid (w6.heap[ob]? = some (.cells (fnsA mb) 106 (0, 0))) := Lib.hid ((G6.out.block ob HOB1.out (fun e => HOBM.out (Option.some.inj e))).trans HOX.out)
        have HR6 : Hid (w6.ownsRow w1.heap.size 3 1 (.slice a n c) n (st.map (Value.int .i64))) := Lib.hid (HR.out.kept (row := some mb) HG6.out (Or.inr (fun e => by have := (HR.out.lt mb e).1; have := HMB.out; omega)))
        have GW6 : Hid (w.grownBy w6 (some mb)) := Lib.hid (grown_trans HW1.out G6.out)
        have hstp := STO.out ma mc w6 HM6.out HR6.out (G6.out.size) (HM0.out.kept (same_ne (grown_trans HG23.out hg6))) (HP.out.kept (same_ne GW6.out))
        clear hJ hL c6 hg6 hm6 BXC hC HM3 STO
        obtain ⟨FN, st', out', rc, q', ⟨hfc, ho0, ho12, hfa⟩, hstp2, hfb, hfg⟩ := hstp
        have STP := Lib.hid hstp2
        have FB := Lib.hid hfb
        have FG := Lib.hid hfg
        have HFA := Lib.hid hfa
        clear hstp2 hfb hfg hfa
        have on : (o.toNat : Int) = o := by omega
        go_wp2_with fail
        refine wp_region_invK (by kernel_rfl) (fun _ L fL W => TM 5 (fun b W => W.heap[bx]? = some (.cells #[.int .i64 o, .int .i64 nn, .string s, .slice ma ms.length mc] 55 (0, 0)) ∧ W.heap[ob]? = some (.cells (fnsA mb) 106 (0, 0)) ∧ (b = false → Below w6.heap.size w6 W) ∧ (b = true → Ev W mb na nl nc (f - cv) ∧ (rc = 0 → ∃ (a : Option Addr) (n c : Nat), Mach W mb na nl nc (f - cv) a n c out' ∧ W.ownsRow w1.heap.size 3 1 (.slice a n c) n (st'.map (Value.int .i64))) ∧ Grow2 w6 W mb (Value.slice a n c).ownBlock)) (fun i _ v => v = ([(Value.pointer (some ⟨bx, 0, none⟩)), (.int .i64 o), (.pointer (some ⟨ob, o.toNat, none⟩)), (.func (.func FN) #[.pointer (some ⟨mb, 0, none⟩)] #[]), (.agg #[.int .i64 o, .int .i64 nn, .string s, .slice ma ms.length mc]), (.int .i64 rc), (.int .i64 rc)] : List Value).getD i (.bool false)) L fL W) (by kernel_rfl) ⟨⟨HX6.out, HO6.out, fun _ => Below.drew (Below.refl _ _), fun e => (by cases e)⟩, fun _ a => by cases a⟩ ?_
        apply Exists.intro
        apply And.intro
        · intro f
          simp only [over, List.set]
          exact rfl
        refine ⟨?hops, ?hend⟩
        case hops =>
          refine EachOp.cons ?_ (EachOp.cons ?_ (EachOp.cons ?_ (EachOp.cons ?_ (EachOp.cons ?_ (EachOp.cons ?_ (EachOp.cons ?_ (EachOp.nil)))))))
          · intro L ff kk ww hkk hJ hcl hLi hwt QQ' hQ
            try dsimp only
            go_big_wp2_with fail
            refine hQ _ (.pointer (some ⟨bx, 0, none⟩)) _ ?_ (hJ.op (by decide) (fun _ h => h) (fun _ _ h => h) rfl)
            first | rfl | (simp [upd]; done)
          · intro L ff kk ww hkk hJ hcl hLi hwt QQ' hQ
            try dsimp only
            have c0' : ff 0 = .pointer (some ⟨bx, 0, none⟩) := hJ.pre 0 (hwt 0 (by decide))
            have z0 : ww.cell? ⟨bx, 0, none⟩ = some (.int .i64 o) := by rw [Lib.cell_of_heap hJ.mid.1]; rfl
            have z1 : ww.cell? ⟨bx, 1, none⟩ = some (.int .i64 nn) := by rw [Lib.cell_of_heap hJ.mid.1]; rfl
            have z2 : ww.cell? ⟨bx, 2, none⟩ = some (.string s) := by rw [Lib.cell_of_heap hJ.mid.1]; rfl
            have z3 : ww.cell? ⟨bx, 3, none⟩ = some (.slice ma ms.length mc) := by rw [Lib.cell_of_heap hJ.mid.1]; rfl
            go_big_wp2_with fail
            refine hQ _ (.int .i64 o) _ ?_ (hJ.op (by decide) (fun _ h => h) (fun _ _ h => h) rfl)
            first | rfl | (simp [upd, c0']; done)
          · intro L ff kk ww hkk hJ hcl hLi hwt QQ' hQ
            try dsimp only
            have c1' : ff 1 = .int .i64 o := hJ.pre 1 (hwt 1 (by decide))
            go_big_wp2_with fail
            refine hQ _ (.pointer (some ⟨ob, o.toNat, none⟩)) _ ?_ (hJ.op (by decide) (fun _ h => h) (fun _ _ h => h) rfl)
            first | rfl | (simp [upd, c1']; done)
          · intro L ff kk ww hkk hJ hcl hLi hwt QQ' hQ
            try dsimp only
            have c2' : ff 2 = .pointer (some ⟨ob, o.toNat, none⟩) := hJ.pre 2 (hwt 2 (by decide))
            have zf : ww.cell? ⟨ob, o.toNat, none⟩ = some (.func (.func FN) #[.pointer (some ⟨mb, 0, none⟩)] #[]) := by rw [Lib.cell_of_heap hJ.mid.2.1]; exact HFA.out
            go_big_wp2_with fail
            refine hQ _ (.func (.func FN) #[.pointer (some ⟨mb, 0, none⟩)] #[]) _ ?_ (hJ.op (by decide) (fun _ h => h) (fun _ _ h => h) rfl)
            first | rfl | (simp [upd, c2']; done)
          · intro L ff kk ww hkk hJ hcl hLi hwt QQ' hQ
            try dsimp only
            have z0 : ww.cell? ⟨bx, 0, none⟩ = some (.int .i64 o) := by rw [Lib.cell_of_heap hJ.mid.1]; rfl
            have z1 : ww.cell? ⟨bx, 1, none⟩ = some (.int .i64 nn) := by rw [Lib.cell_of_heap hJ.mid.1]; rfl
            have z2 : ww.cell? ⟨bx, 2, none⟩ = some (.string s) := by rw [Lib.cell_of_heap hJ.mid.1]; rfl
            have z3 : ww.cell? ⟨bx, 3, none⟩ = some (.slice ma ms.length mc) := by rw [Lib.cell_of_heap hJ.mid.1]; rfl
            go_big_wp2_with fail
            refine hQ _ (.agg #[.int .i64 o, .int .i64 nn, .string s, .slice ma ms.length mc]) _ ?_ (hJ.op (by decide) (fun _ h => h) (fun _ _ h => h) rfl)
            first | rfl | (simp [upd]; done)
          · intro L ff kk ww hkk hJ hcl hLi hwt QQ' hQ
            try dsimp only
            have c3' : ff 3 = .func (.func FN) #[.pointer (some ⟨mb, 0, none⟩)] #[] := hJ.pre 3 (hwt 3 (by decide))
            have c4' : ff 4 = .agg #[.int .i64 o, .int .i64 nn, .string s, .slice ma ms.length mc] := hJ.pre 4 (hwt 4 (by decide))
            have hmid := hJ.mid
            rw [hLi] at hmid
            obtain ⟨hm1, hm2, hm3, -⟩ := hmid
            have hbw := hm3 rfl
            have hbxw : bx < ww.heap.size := (Array.getElem?_eq_some_iff.1 hm1).1
            have hobw : ob < ww.heap.size := (Array.getElem?_eq_some_iff.1 hm2).1
            have hq := STP.out ww hbw
            go_big_wp2_with fail
            refine hq.mono ?_
            rintro e wa ⟨rfl, hev, hst, hgr⟩
            have hb1 : wa.heap[bx]? = ww.heap[bx]? := hgr.out.block bx hbxw HBXM.out (NBX.out)
            have hb2 : wa.heap[ob]? = ww.heap[ob]? := hgr.out.block ob hobw HOBM.out (NOB.out)
            have hfin : Grow2 w6 wa mb (Value.slice a n c).ownBlock := (Grow2.of_below hbw).trans hgr.out
            go_big_wp2_with fail
            refine hQ _ (.int .i64 rc) wa ?_ (hJ.call ⟨hb1.trans hm1, hb2.trans hm2, fun e => (by cases e), fun _ => ⟨hev.out, hst.out, hfin⟩⟩ (fun _ _ h => h) rfl)
            first | rfl | (simp [upd, c3', c4']; done)
          · intro L ff kk ww hkk hJ hcl hLi hwt QQ' hQ
            try dsimp only
            have c5' : ff 5 = .int .i64 rc := hJ.pre 5 (hwt 5 (by decide))
            go_big_wp2_with fail
            refine hQ _ (.int .i64 rc) _ ?_ (hJ.op (by decide) (fun _ h => h) (fun _ _ h => h) rfl)
            first | rfl | (simp [upd, c5']; done)
        case hend =>
          intro L ff kk w7 hkb hL hJ
          try dsimp only
          have c6' : ff 6 = .int .i64 rc := hJ.pre 6 (hL 6 (by decide))
          rw [c6']
          have hmid := hJ.mid
          rw [hL 5 (by decide)] at hmid
          obtain ⟨-, -, -, hpost⟩ := hmid
          obtain ⟨hev, hst, hgr⟩ := hpost rfl
          have HG9 : Hid (w1.grownBy w7 (some mb)) := Lib.hid (Grow2.to_grown G6.out hgr HROW.out)
          have HEV9 := Lib.hid hev
          have HST9 := Lib.hid hst
          clear hJ hL c6' hpost hev hst hgr STP
          by_cases hc0 : rc = 0
          rotate_left
          · have zz : (rc != 0) = true := by simpa using hc0
            have HE := FB.out hc0
            rw [HMV.out] at HE
            simp only [Said.mk.injEq] at HE
            have HE := Lib.hid HE
            clear hc0
            go_wp2
            go_ret2
            obtain ⟨rfl, rfl, rfl⟩ := HE.out
            exact ⟨rfl, HEV9, Lib.hid (grown_trans HW1.out HG9.out)⟩
          subst hc0
          obtain ⟨a7, n7, c7, hm7, hr7⟩ := HST9.out rfl
          obtain ⟨ho7, hq7, RN⟩ := FG.out rfl
          subst ho7
          have o7 := hm7.out
          have RN := Lib.hid RN
          have HM7 := Lib.hid hm7
          have HR7 := Lib.hid hr7
          clear hm7 hr7 HST9
          have ea : IntKind.i64.wrap (1 + (q' : Int)) = 1 + (q' : Int) := IntWalk.i64_in _ (by have := HN.out; omega)
          have eb : IntKind.i64.wrap ((i : Int) + (1 + (q' : Int))) = (i : Int) + (1 + (q' : Int)) := IntWalk.i64_in _ (by have := HN.out; omega)
          go_wp2_with fail
          go_roundw
          case rel => exact ⟨i + 1 + q', a7, n7, c7, st', f - cv, (q' : Int), by have := HN.out; omega, by go_num, by omega, by omega, HM7, HR7, RN, HG9⟩
          case measure => simp [intOf]; omega
    · obtain rfl : i = nn0 := by omega
      obtain ⟨hl1, HE⟩ := run_end HWY.out HRUN.out HN.out
      rw [HMV.out] at HE
      simp only [Said.mk.injEq] at HE
      have HE := Lib.hid HE
      have hn1 : n = 1 := by have := HML.out; omega
      subst hn1
      have hT := Lib.hid (stackTake mb 1 0 a 1 c w1.heap.size st wr HM.out.hand HM.out.f2 HR.out HMB.out rfl (by omega))
      clear hl1
      go_wp2_with fail
      refine hT.out.mono ?_
      rintro e w5 ⟨A, C, rfl, hI, hw5⟩
      have hg5 : wr.grownBy w5 (some mb) := by rw [hw5]; exact grown_set _ _ _
      have hm5 : Mach w5 mb na nl nc f a 0 c out := by rw [hw5]; exact HM.out.setHand a 0 c
      obtain ⟨b3, o3, rfl, hbl3, hcs⟩ := (hI.out.kept (same_ne hg5)).cells (by omega)
      have v0 := hcs 0 (by omega)
      rw [Nat.add_zero, List.drop_zero] at v0
      have HG5 : Hid (w.grownBy w5 (some mb)) := Lib.hid (grown_trans HGW.out hg5)
      have HEV := Lib.hid hm5.ev
      clear hw5 hcs hg5 hm5 hI hT
      generalize st.getD 0 0 = sv at *
      go_wp2
      go_ret2
      obtain ⟨rfl, rfl, rfl⟩ := HE.out
      refine ⟨rfl, Lib.hid ?_, HG5⟩
      rw [show fu - (fu - f) = f from by omega]
      exact HEV.out
end Go.Proofs.YtjphjnopdlfplaaGreatDoor
