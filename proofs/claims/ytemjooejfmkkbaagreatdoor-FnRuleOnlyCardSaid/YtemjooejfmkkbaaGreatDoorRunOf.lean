/-
  What the program says of a rule.
-/
import Derived.Test.YtemjooejfmkkbaaGreatDoorJ32
namespace Go.Proofs.YtemjooejfmkkbaaGreatDoor
open Go.RowKit
set_option linter.unusedVariables false
set_option linter.unusedSimpArgs false

set_option maxHeartbeats 4000000 in
theorem first9 (n : Int) (s : ByteArray) (b off kc : Nat) (ma : Option Addr) (m mc : Nat) (w : World) (hc : 4 ≤ kc) :
    Calls Tryz.prog 156 #[.agg #[.int .i64 9, .int .i64 n, .string s, .slice (some ⟨b, off, none⟩) 4 kc, .slice ma m mc]] w fun e w' => e = .returned (.slice (some ⟨b, off, none⟩) 2 kc) ∧ Below w.heap.size w w' := by
  have h2 : (2 : Int) ≤ (kc : Int) := by omega
  have h2n : 2 ≤ kc := by omega
  go_enter Tryz.func156, Tryz.ntmps156
  go_wp2
  go_ret
  exact ⟨rfl, (Below.refl _ _).alloc (Nat.le_refl _) _⟩
set_option maxHeartbeats 4000000 in
theorem firstN (o n : Int) (s : ByteArray) (ka : Option Addr) (k kc : Nat) (ma : Option Addr) (m mc : Nat) (w : World) (h9 : o ≠ 9) :
    Calls Tryz.prog 156 #[.agg #[.int .i64 o, .int .i64 n, .string s, .slice ka k kc, .slice ma m mc]] w fun e w' => e = .returned (.slice ka k kc) ∧ Below w.heap.size w w' := by
  have z9 : (o == 9) = false := by simpa using h9
  clear h9
  go_enter Tryz.func156, Tryz.ntmps156
  go_wp2
  go_ret
  exact ⟨rfl, (Below.refl _ _).alloc (Nat.le_refl _) _⟩

theorem first9' (n : Int) (s : ByteArray) (ka : Option Addr) (k kc : Nat) (ma : Option Addr) (m mc : Nat) (w : World) (h4 : k = 4) (hka : ∃ b off, ka = some ⟨b, off, none⟩) (hc : k ≤ kc) :
    Calls Tryz.prog 156 #[.agg #[.int .i64 9, .int .i64 n, .string s, .slice ka k kc, .slice ma m mc]] w fun e w' => e = .returned (.slice ka 2 kc) ∧ Below w.heap.size w w' := by
  subst h4
  obtain ⟨b, off, rfl⟩ := hka
  exact first9 n s b off kc ma m mc w hc
theorem IntsN.monoN {N : Nat → Prop} {w : World} {a : Option Addr} {len : Nat} {l : List Int} (h : IntsN N w a len l) : IntsN All w a len l := by
  obtain ⟨h1, h2 | ⟨b, off, k1, k2, k3, k4⟩⟩ := h
  · exact ⟨h1, Or.inl h2⟩
  · exact ⟨h1, Or.inr ⟨b, off, k1, trivial, k3, k4⟩⟩
set_option maxRecDepth 20000 in
set_option maxHeartbeats 16000000 in
theorem ofOpI (ns : List (ByteArray × Int)) (o n : Int) (s : ByteArray) (ks : List Tr) (ms : List (Int × Int)) (h9 : o ≠ 9) (ih : ∀ t ∈ ks, EvAt 101 ns t) : EvAt 101 ns (.node o n s ks ms) := by
  obtain ⟨it0, hi, hz0, hz1, hz2⟩ := info_parts infoIntE
  intro f eb fu na nl nc w h hok hev hp hnl f0 f1
  obtain ⟨e1, e2, e3, hm, hk, hc1, hc2⟩ := trF_iff.1 h
  obtain ⟨fo, fn, fs, ka, kl, kc, ma, ml, mc⟩ := f
  dsimp only at e1 e2 e3 hm hk hc1 hc2
  have q1 := e1.symm
  have q2 := e2.symm
  have q3 := e3.symm
  clear e1 e2 e3
  subst q1 q2 q3
  obtain rfl := hk.1
  obtain rfl := hm.1
  obtain ⟨hpl, hoks⟩ := okP_parts hok
  have hw29 : wL ks ≤ 29 := by have := okP_w hok; rw [wT] at this; omega
  have hkb : ks.length ≤ 29 := by have := len_wL ks; omega
  have hm5 := ms_len hpl
  have hin := op_in hpl
  have hA : Below w.heap.size w (w.alloc (.cells #[.int .i64 o, .int .i64 n, .string s, .slice ka ks.length kc, .slice ma ms.length mc] 38)) := (Below.refl _ _).alloc (Nat.le_refl _) _
  have hArg : (w.alloc (.cells #[.int .i64 o, .int .i64 n, .string s, .slice ka ks.length kc, .slice ma ms.length mc] 38)).heap[w.heap.size]? = some (.cells #[.int .i64 o, .int .i64 n, .string s, .slice ka ks.length kc, .slice ma ms.length mc] 38 (0, 0)) := heap_alloc_new w _
  have heb := hev.1
  have hF : Hid (∀ W, Calls Tryz.prog 156 #[.agg #[.int .i64 o, .int .i64 n, .string s, .slice ka ks.length kc, .slice ma ms.length mc]] W fun e w' => e = .returned (.slice ka ks.length kc) ∧ Below W.heap.size W w') := fun W => firstN o n s ka ks.length kc ma ms.length mc W h9
  have hqo := seqF_ok ((ks.map (evalT ns)).take ks.length) fu f0 (fun g hg fu hf => by
    obtain ⟨t, ht, rfl⟩ := List.mem_map.1 (List.mem_of_mem_take hg)
    exact eval_ok ns _ t (Nat.le_refl _) (hoks t ht) fu hf)
  have hql : ((ks.map (evalT ns)).take ks.length).length = ks.length := by rw [List.length_take, List.length_map]; omega
  rw [hql] at hqo
  have HQO := Lib.hid hqo
  have HE := Lib.hid (evalN (ns := ns) (o := o) (n := n) (s := s) (ks := ks) (ms := ms) (fu := fu) rfl)
  rw [if_neg h9] at HE
  have IH := Lib.hid ih
  have HM := Lib.hid hm
  have HR := Lib.hid hk
  have HPL := Lib.hid hpl
  have HOKS := Lib.hid hoks
  have HP := Lib.hid hp
  have HEV := Lib.hid hev
  have HA := Lib.hid hA
  have HArg := Lib.hid hArg
  have HIN := Lib.hid hin
  have HM5 := Lib.hid hm5
  have em : IntKind.i64.wrap (1 + (ms.length : Int)) = 1 + (ms.length : Int) := IntWalk.i64_in _ (by omega)
  have HGL : Hid ((ks.map (evalT ns)).length = ks.length) := by show _ = _; simp
  have HGI : Hid (∀ k, (h : k < ks.length) → (ks.map (evalT ns))[k]? = some (evalT ns ks[k])) := fun k h => by simp [h]
  clear h hm hk hc1 hc2 hpl hoks hok hA hArg hql hp hqo ih hev hin
  unfold EvP
  unfold Fld.val
  dsimp only
  have z9 : (o == 9) = false := by simpa using h9
  have H9 := Lib.hid h9
  clear h9
  generalize hgs : ks.map (evalT ns) = gs at *
  have HGS := Lib.hid hgs
  clear hgs
  generalize hsv0 : evalT ns (.node o n s ks ms) fu = sv at *
  clear hsv0
  go_enter Tryz.func101, Tryz.ntmps101
  go_wp2_with fail
  generalize hW0 : (w.alloc (.cells #[.int .i64 o, .int .i64 n, .string s, .slice ka ks.length kc, .slice ma ms.length mc] 38)) = W0 at *
  clear hW0
  have sz0 : w.heap.size < W0.heap.size := (Array.getElem?_eq_some_iff.1 HArg.out).1
  refine (hF.out W0).mono ?_
  rintro e wf ⟨rfl, df⟩
  have szf : w.heap.size < wf.heap.size := by have := df.size; omega
  have HArgf := Lib.hid ((df.block _ sz0).trans HArg.out)
  have HBf : Hid (Below w.heap.size w wf) := HA.out.trans (df.mono HA.out.size)
  have HEVf := Lib.hid (HEV.out.kept HBf.out)
  clear df
  go_wp2_with fail
  go_loopw [6, 14] (fun vl vi wr => ∃ (k c : Nat) (a : Option Addr) (vs : List Int) (fr : Int), k ≤ ks.length ∧ vi = .int .i64 k ∧ vl = .slice a k c ∧ wr.ownsRow wf.heap.size 3 1 (.slice a k c) k (vs.map (Value.int .i64)) ∧ Hid (seqF (gs.take k) fu = (vs, 0, fr)) ∧ 0 ≤ fr ∧ fr ≤ fu ∧ Hid (Ev wr eb na nl nc fr) ∧ wf.grownBy wr (some eb)) (fun _ vi _ => ks.length - (intOf vi).toNat)
  case atStart => exact ⟨0, 0, none, [], fu, Nat.zero_le _, rfl, rfl, World.ownsRow_nil _ _ _ _, by show _ = _; rw [List.take_zero, seqF], f0, Int.le_refl _, HEVf, grown_any (Below.refl _ _)⟩
  case round =>
    obtain ⟨k, c, a, vs, fr, hk, rfl, rfl, hown, hsq, r0, r1, hev, hg⟩ := hrel
    have HAr := Lib.hid ((hg.block w.heap.size szf (by intro e; simp only [Option.some.injEq] at e; omega)).trans HArgf.out)
    have HGW : Hid (w.grownBy wr (some eb)) := grown_trans (grown_any HBf.out) hg
    rcases Nat.lt_or_ge k ks.length with hlt | hge
    · have hlk : k < ks.length := by omega
      have k1 : (k : Int) < ks.length := by omega
      have k2 : (k : Int) < ks.length := by omega
      have k0 : (0 : Int) ≤ k := by omega
      obtain ⟨b, off, rfl, -, hbl, hrow⟩ := (HR.out.kept (same_ne HGW.out)).cells (by omega)
      obtain ⟨f, ⟨y0, y1, y2, y3, y4⟩, ht⟩ := hrow k hlk
      have hXB : Below wr.heap.size wr (wr.alloc (.cells #[.int .i64 f.op, .int .i64 f.num, .string f.name, .slice f.ka f.kl f.kc, .slice f.ma f.ml f.mc] 38)) := (Below.refl _ _).alloc (Nat.le_refl _) _
      have hcall := Lib.hid (IH.out ks[k] (List.getElem_mem _) f eb fr na nl nc _ (ht.kept (same_of_below hXB)) (HOKS.out _ (List.getElem_mem _)) (hev.out.kept hXB) ((HP.out.kept (same_ne HGW.out)).kept (same_of_below hXB)) hnl r0 (by omega))
      have HXB := Lib.hid hXB
      have hgl := HGL.out
      have hgk : gs[k]'(by omega) = evalT ns ks[k] := by
        have h1 := HGI.out k hlk
        rw [List.getElem?_eq_getElem (by omega)] at h1
        exact Option.some.inj h1
      have hT : gs.take (k + 1) = gs.take k ++ [evalT ns ks[k]] := by rw [List.take_succ_eq_append_getElem (by omega), hgk]
      have HAP := seqF_app (gs.take k) (evalT ns ks[k]) fu (by rw [hsq.out])
      rw [← hT, hsq.out] at HAP
      have hso := eval_ok ns _ ks[k] (Nat.le_refl _) (HOKS.out _ (List.getElem_mem (l := ks) (n := k) hlk)) fr r0
      have HFA : Hid ((evalT ns ks[k] fr).c ≠ 0 → (seqF (gs.take ks.length) fu).2.1 = (evalT ns ks[k] fr).c) := fun hne => by
        have h1 : (seqF (gs.take (k + 1)) fu).2.1 = (evalT ns ks[k] fr).c := by rw [HAP, if_neg hne]
        rw [take_at gs k ks.length (by omega), seqF_fail _ _ _ (by rw [h1]; exact hne), h1]
      have HOW := Lib.hid hown
      have HAP2 := Lib.hid HAP
      have HG := Lib.hid hg
      clear hrow hbl ht HAP hT hgk hgl hown hXB hg
      unfold EvP at hcall
      obtain ⟨⟨so1, so2⟩, so3, so4, so5⟩ : (Amt (evalT ns ks[k] fr).v) ∧ (0 ≤ (evalT ns ks[k] fr).c ∧ (evalT ns ks[k] fr).c ≤ 4) ∧ (0 ≤ (evalT ns ks[k] fr).f ∧ (evalT ns ks[k] fr).f ≤ fr) ∧ True := ⟨okB_yes hso.1, hso.2.1, hso.2.2.1, trivial⟩
      clear hso
      generalize hsv : evalT ns ks[k] fr = sk at *
      obtain ⟨v, cd, fn⟩ := sk
      dsimp only at *
      clear hsv
      go_wp2_with fail
      refine hcall.out.mono ?_
      rintro e w2 ⟨rfl, hev2, hg2⟩
      clear y0 y1 y2 y3 y4 hcall
      have hgx : wr.grownBy w2 (some eb) := grown_trans (grown_any HXB.out) hg2
      have hown2 : Hid (w2.ownsRow wf.heap.size 3 1 (.slice a k c) k (vs.map (Value.int .i64))) := HOW.out.kept (row := some eb) hgx (Or.inr (fun e => by have := (HOW.out.lt eb e).1; have := HBf.out.size; omega))
      have HG2 := Lib.hid (grown_trans HG.out hgx)
      have HGW2 := Lib.hid (grown_trans HGW.out hgx)
      have hz2' : wf.heap.size ≤ w2.heap.size := HG2.out.size
      clear hg2 hgx
      by_cases hc : cd = 0
      · subst hc
        have HE2 := Lib.hid (hev2.out rfl)
        have HSQ : Hid (seqF (gs.take (k + 1)) fu = (vs ++ [v], 0, fn)) := by show _ = _; rw [HAP2.out, if_pos rfl]
        go_wp2_with (at_builtin; refine wpList_append_lies ?pw ?p1 ?ps ?px 86 ?p2 wf.heap.size 3 it0 (.int .i64 0) 1 8 ?p3 ?p4 ?p5 ?p6 ?p7 ?p8 ?p9 (.slice a k c) k (vs.map (Value.int .i64)) ?p10 ?ph1 ⟨w2.heap.size, 0, none⟩ 1 1 [.int .i64 v] ?p11 ?p12 ?ph2 ?ph3 ?pc1 ?pc2 ?pc3 ?pc4 (w2.heap.size + 1) ?pc5 ?_; (case p1 => rfl); (case p2 => rfl); (case p10 => rfl); (case p11 => rfl); (case ph1 => exact hown2.out.alloc _); (case p3 => exact Tryz.underlying86); (case p4 => exact hi); (case p5 => exact hz0); (case p6 => exact hz1); (case p7 => exact hz2); (case p8 => rfl); (case p9 => decide); (case p12 => rfl); (case ph2 => exact World.news_of_block (heap_alloc_new w2 _)); (case ph3 => intro u hu; simp at hu; subst hu; rfl); (case pc1 => decide); (case pc2 => unfold maxLen; omega); (case pc3 => omega); (case pc4 => simp only [World.size_alloc]; omega); (case pc5 => simp only [World.size_alloc]); intro g2 cp2 wz hownZ hgrowZ hatZ hltZ)
        have hbx : Below w2.heap.size w2 (w2.alloc (.cells #[.int .i64 v] 3)) := (Below.refl _ _).alloc (Nat.le_refl _) _
        have hbw := HBf.out.size
        have hnb : ∀ i, i < wf.heap.size → some i ≠ (Value.slice a k c).ownBlock := fun i hi e => by have := (hown2.out.lt i e.symm).1; omega
        have hE3 : Hid (Ev wz eb na nl nc fn) := (HE2.out.kept hbx).blk (hgrowZ.block eb (by have := hbx.size; omega) (hnb eb (by omega))) hgrowZ.size
        have hgz : wf.grownBy wz (some eb) := ⟨hgrowZ.os.trans (hbx.os.trans HG2.out.os), hgrowZ.tape.trans (hbx.tape.trans HG2.out.tape), hgrowZ.output.trans (hbx.output.trans HG2.out.output), Nat.le_trans HG2.out.size (Nat.le_trans hbx.size hgrowZ.size), fun i hi hne => (hgrowZ.block i (by have := hbx.size; omega) (hnb i hi)).trans ((hbx.block i (by omega)).trans (HG2.out.block i hi hne))⟩
        have hownV : wz.ownsRow wf.heap.size 3 1 (.slice (some ⟨g2, 0, none⟩) (k + 1) cp2) (k + 1) ((vs ++ [v]).map (Value.int .i64)) := by rw [List.map_append]; exact hownZ
        go_wp2_with fail
        go_roundw
        case rel => exact ⟨k + 1, cp2, some ⟨g2, 0, none⟩, vs ++ [v], fn, by omega, by go_num, rfl, hownV, HSQ, so4.1, by omega, hE3, hgz⟩
        case measure => simp [intOf]; omega
      · have z : (cd != 0) = true := by simpa using hc
        have HFAc : Hid ((seqF (gs.take ks.length) fu).2.1 = cd) := HFA.out hc
        have HSV : Hid (sv = ⟨0, cd, (seqF (gs.take ks.length) fu).2.2⟩) := by show _ = _; rw [HE.out, if_pos (by rw [HFAc.out]; exact hc), HFAc.out]
        have HC := Lib.hid hc
        clear hc
        go_wp2
        go_ret2
        refine ⟨?_, fun h => ?_, HGW2.out⟩
        · show Ending.returned (.tuple #[.int .i64 0, .int .i64 cd]) = _
          rw [HSV.out]
        · rw [HSV.out] at h; exact absurd h HC.out
    · obtain rfl : k = ks.length := by omega
      have HQ := hsq
      have hqo := HQO.out
      rw [HQ.out] at hqo
      obtain ⟨-, -, hqv2, hql2⟩ := hqo
      dsimp only at hqv2 hql2
      have HVS := Lib.hid hqv2
      have HVL := Lib.hid (hql2 rfl)
      have HSE := Lib.hid HE.out
      rw [HQ.out] at HSE
      rw [if_neg (by simp)] at HSE
      dsimp only at HSE
      have HI := Lib.hid (ints_own (N := fun b => b ≠ eb) hown (fun b hb => by have := HBf.out.size; omega))
      have ca4 : wr.cell? ⟨w.heap.size, 4, none⟩ = some (Value.slice ma ms.length mc) := by rw [Lib.cell_of_heap HAr.out]; rfl
      clear hown hg hqv2 hql2 hge
      rcases Int.lt_or_le fr (1 + (ms.length : Int)) with hb | hb
      · have HSV : Hid (sv = ⟨0, 1, fr⟩) := by show _ = _; rw [HSE.out, if_pos hb]
        have HB := Lib.hid (takeNo (1 + (ms.length : Int)) fr eb na nl nc wr hb hev.out)
        go_wp2_with fail
        refine HB.out.mono ?_
        rintro e w2 ⟨rfl, rfl⟩
        go_wp2
        go_ret2
        refine ⟨?_, fun h => ?_, HGW.out⟩
        · show Ending.returned (.tuple #[.int .i64 0, .int .i64 1]) = _
          rw [HSV.out]
        · rw [HSV.out] at h; cases h
      have HB := Lib.hid (takeYes (1 + (ms.length : Int)) fr eb na nl nc wr hb (by omega) (by omega) hev.out)
      rw [if_neg (by omega)] at HSE
      go_wp2_with fail
      refine HB.out.mono ?_
      rintro e w2 ⟨rfl, hev2, hg2⟩
      have HEV2 := Lib.hid hev2
      have HG2 := Lib.hid (grown_trans HGW.out hg2)
      have HI2 := Lib.hid (HI.out.kept (same_ne hg2))
      have HA2 := Lib.hid ((hg2.block w.heap.size (Array.getElem?_eq_some_iff.1 HAr.out).1 (by intro e; simp only [Option.some.injEq] at e; omega)).trans HAr.out)
      have ca0 : w2.cell? ⟨w.heap.size, 0, none⟩ = some (Value.int .i64 o) := by rw [Lib.cell_of_heap HA2.out]; rfl
      have ca1 : w2.cell? ⟨w.heap.size, 1, none⟩ = some (Value.int .i64 n) := by rw [Lib.cell_of_heap HA2.out]; rfl
      have ca2 : w2.cell? ⟨w.heap.size, 2, none⟩ = some (Value.string s) := by rw [Lib.cell_of_heap HA2.out]; rfl
      have ca3 : w2.cell? ⟨w.heap.size, 3, none⟩ = some (Value.slice ka ks.length kc) := by rw [Lib.cell_of_heap HA2.out]; rfl
      have ca4' : w2.cell? ⟨w.heap.size, 4, none⟩ = some (Value.slice ma ms.length mc) := by rw [Lib.cell_of_heap HA2.out]; rfl
      clear ca4 hev2 hg2 HB hev
      rw [if_neg H9.out] at HSE
      have HLV : Hid ((vs.length : Int) = kidsN o) := by have h1 := HPL.out.1; have h2 := HVL.out; show _ = _; omega
      have hTS : Hid (∀ W, Below w2.heap.size w2 W → Calls Tryz.prog (saysF o) #[.agg #[], .pointer (some ⟨eb, 0, none⟩), .agg #[.int .i64 o, .int .i64 n, .string s, .slice ka ks.length kc, .slice ma ms.length mc], .slice a ks.length c] W (SaysP (doR ns o n s ms vs) W)) := fun W hW =>
        saysAll o n s ka ks.length kc ma mc ms ns eb _ na nl nc a ks.length c vs W H9.out HIN.out HPL.out.2 HLV.out HVS.out ((HI2.out.kept (same_of_below hW)).monoN) (((HM.out.kept (same_ne HG2.out)).kept (same_of_below hW)).mono (fun _ _ => trivial)) HM5.out (((HP.out.kept (same_ne HG2.out)).kept (same_of_below hW)).mono (fun _ _ => trivial)) hnl (HEV2.out.kept hW)
      unfold SaysP at hTS
      generalize doR ns o n s ms vs = r at *
      obtain ⟨r1, r2⟩ := r
      dsimp only at *
      have cS : ∀ dd os, Calls Tryz.prog (saysF o) #[.agg #[], .pointer (some ⟨eb, 0, none⟩), .agg #[.int .i64 o, .int .i64 n, .string s, .slice ka ks.length kc, .slice ma ms.length mc], .slice a ks.length c] (Go.Sort.grow (redrawn w2 dd) os) fun e w'' => e = .returned (.tuple #[.int .i64 r1, .int .i64 r2]) ∧ ∃ p : Regrown, w'' = Go.Sort.grow (redrawn w2 p.d) p.os := fun dd os => Calls.regrown_of (hTS.out _ (below_regrown w2 dd os))
      have cO : ∀ dd os, Calls Tryz.prog 137 #[.int .i64 o] (Go.Sort.grow (redrawn w2 dd) os) fun e w'' => e = .returned (.iface (opT o) (.agg #[])) ∧ ∃ p : Regrown, w'' = Go.Sort.grow (redrawn w2 p.d) p.os := fun dd os => Calls.regrown_of (opOf o _ HIN.out)
      have mk := fun W => meth_says o HIN.out W
      have nk := fun W => nil_says o HIN.out W
      have fk := fun a W => call_says o HIN.out a W
      have y0 := cell_regrown ca0
      have y1 := cell_regrown ca1
      have y2 := cell_regrown ca2
      have y3 := cell_regrown ca3
      have y4 := cell_regrown ca4'
      clear ca0 ca1 ca2 ca3 ca4'
      go_wp2_with fail
      refine wp_region_quiet_below (by kernel_rfl) (by kernel_rfl) ?_
      repeat (quiet_step (first | (go_at_call 137; exact cO _ _) | exact cS _ _))
      refine wpQuiet_nil ?_
      intro _ hw'
      obtain ⟨⟨dq, osq⟩, hw''⟩ := hw'
      subst hw''
      go_wp2
      go_ret2
      refine ⟨?_, fun _ => ?_, grown_trans HG2.out (grown_any (below_regrown w2 dq osq))⟩
      · show Ending.returned (.tuple #[.int .i64 r1, .int .i64 r2]) = _
        rw [HSE.out]
      · rw [HSE.out]; exact HEV2.out.kept (below_regrown w2 dq osq)
set_option maxRecDepth 20000 in
set_option maxHeartbeats 16000000 in
theorem ofIfI (ns : List (ByteArray × Int)) (n : Int) (s : ByteArray) (ks : List Tr) (ms : List (Int × Int)) (ih : ∀ t ∈ ks, EvAt 101 ns t) : EvAt 101 ns (.node 9 n s ks ms) := by
  obtain ⟨it0, hi, hz0, hz1, hz2⟩ := info_parts infoIntE
  intro f eb fu na nl nc w h hok hev hp hnl f0 f1
  obtain ⟨e1, e2, e3, hm, hk, hc1, hc2⟩ := trF_iff.1 h
  obtain ⟨fo, fn, fs, ka, kl, kc, ma, ml, mc⟩ := f
  dsimp only at e1 e2 e3 hm hk hc1 hc2
  have q1 := e1.symm
  have q2 := e2.symm
  have q3 := e3.symm
  clear e1 e2 e3
  subst q1 q2 q3
  obtain rfl := hk.1
  obtain rfl := hm.1
  obtain ⟨hpl, hoks⟩ := okP_parts hok
  have hw29 : wL ks ≤ 29 := by have := okP_w hok; rw [wT] at this; omega
  have hkb : ks.length ≤ 29 := by have := len_wL ks; omega
  have hm5 := ms_len hpl
  have hin := op_in hpl
  have hA : Below w.heap.size w (w.alloc (.cells #[.int .i64 9, .int .i64 n, .string s, .slice ka ks.length kc, .slice ma ms.length mc] 38)) := (Below.refl _ _).alloc (Nat.le_refl _) _
  have hArg : (w.alloc (.cells #[.int .i64 9, .int .i64 n, .string s, .slice ka ks.length kc, .slice ma ms.length mc] 38)).heap[w.heap.size]? = some (.cells #[.int .i64 9, .int .i64 n, .string s, .slice ka ks.length kc, .slice ma ms.length mc] 38 (0, 0)) := heap_alloc_new w _
  have heb := hev.1
  have hk4 := if_kids hpl
  have HK4 := Lib.hid hk4
  have hka : ∃ b off, ka = some ⟨b, off, none⟩ := by obtain ⟨b, off, rfl, -, -, -⟩ := hk.cells (by omega); exact ⟨b, off, rfl⟩
  have hF : Hid (∀ W, Calls Tryz.prog 156 #[.agg #[.int .i64 9, .int .i64 n, .string s, .slice ka ks.length kc, .slice ma ms.length mc]] W fun e w' => e = .returned (.slice ka 2 kc) ∧ Below W.heap.size W w') := fun W => first9' n s ka ks.length kc ma ms.length mc W hk4 hka hc1
  have hkk : 2 ≤ ks.length := by omega
  have hqo := seqF_ok ((ks.map (evalT ns)).take 2) fu f0 (fun g hg fu hf => by
    obtain ⟨t, ht, rfl⟩ := List.mem_map.1 (List.mem_of_mem_take hg)
    exact eval_ok ns _ t (Nat.le_refl _) (hoks t ht) fu hf)
  have hql : ((ks.map (evalT ns)).take 2).length = 2 := by rw [List.length_take, List.length_map]; omega
  rw [hql] at hqo
  have HQO := Lib.hid hqo
  have HE := Lib.hid (evalN (ns := ns) (o := 9) (n := n) (s := s) (ks := ks) (ms := ms) (fu := fu) rfl)
  rw [if_pos rfl] at HE
  have IH := Lib.hid ih
  have HM := Lib.hid hm
  have HR := Lib.hid hk
  have HPL := Lib.hid hpl
  have HOKS := Lib.hid hoks
  have HP := Lib.hid hp
  have HEV := Lib.hid hev
  have HA := Lib.hid hA
  have HArg := Lib.hid hArg
  have HIN := Lib.hid hin
  have HM5 := Lib.hid hm5
  have em : IntKind.i64.wrap (1 + (ms.length : Int)) = 1 + (ms.length : Int) := IntWalk.i64_in _ (by omega)
  have HGL : Hid ((ks.map (evalT ns)).length = ks.length) := by show _ = _; simp
  have HGI : Hid (∀ k, (h : k < ks.length) → (ks.map (evalT ns))[k]? = some (evalT ns ks[k])) := fun k h => by simp [h]
  clear h hm hk hc1 hc2 hpl hoks hok hA hArg hql hp hqo ih hev hin hk4 hka
  unfold EvP
  unfold Fld.val
  dsimp only
  generalize hgs : ks.map (evalT ns) = gs at *
  have HGS := Lib.hid hgs
  clear hgs
  generalize hsv0 : evalT ns (.node 9 n s ks ms) fu = sv at *
  clear hsv0
  go_enter Tryz.func101, Tryz.ntmps101
  go_wp2_with fail
  generalize hW0 : (w.alloc (.cells #[.int .i64 9, .int .i64 n, .string s, .slice ka ks.length kc, .slice ma ms.length mc] 38)) = W0 at *
  clear hW0
  have sz0 : w.heap.size < W0.heap.size := (Array.getElem?_eq_some_iff.1 HArg.out).1
  refine (hF.out W0).mono ?_
  rintro e wf ⟨rfl, df⟩
  have szf : w.heap.size < wf.heap.size := by have := df.size; omega
  have HArgf := Lib.hid ((df.block _ sz0).trans HArg.out)
  have HBf : Hid (Below w.heap.size w wf) := HA.out.trans (df.mono HA.out.size)
  have HEVf := Lib.hid (HEV.out.kept HBf.out)
  clear df
  go_wp2_with fail
  go_loopw [6, 14] (fun vl vi wr => ∃ (k c : Nat) (a : Option Addr) (vs : List Int) (fr : Int), k ≤ 2 ∧ vi = .int .i64 k ∧ vl = .slice a k c ∧ wr.ownsRow wf.heap.size 3 1 (.slice a k c) k (vs.map (Value.int .i64)) ∧ Hid (seqF (gs.take k) fu = (vs, 0, fr)) ∧ 0 ≤ fr ∧ fr ≤ fu ∧ Hid (Ev wr eb na nl nc fr) ∧ wf.grownBy wr (some eb)) (fun _ vi _ => 2 - (intOf vi).toNat)
  case atStart => exact ⟨0, 0, none, [], fu, Nat.zero_le _, rfl, rfl, World.ownsRow_nil _ _ _ _, by show _ = _; rw [List.take_zero, seqF], f0, Int.le_refl _, HEVf, grown_any (Below.refl _ _)⟩
  case round =>
    obtain ⟨k, c, a, vs, fr, hk, rfl, rfl, hown, hsq, r0, r1, hev, hg⟩ := hrel
    have HAr := Lib.hid ((hg.block w.heap.size szf (by intro e; simp only [Option.some.injEq] at e; omega)).trans HArgf.out)
    have HGW : Hid (w.grownBy wr (some eb)) := grown_trans (grown_any HBf.out) hg
    rcases Nat.lt_or_ge k 2 with hlt | hge
    · have hlk : k < ks.length := by omega
      have k1 : (k : Int) < 2 := by omega
      have k2 : (k : Int) < ks.length := by omega
      have k0 : (0 : Int) ≤ k := by omega
      obtain ⟨b, off, rfl, -, hbl, hrow⟩ := (HR.out.kept (same_ne HGW.out)).cells (by omega)
      obtain ⟨f, ⟨y0, y1, y2, y3, y4⟩, ht⟩ := hrow k hlk
      have hXB : Below wr.heap.size wr (wr.alloc (.cells #[.int .i64 f.op, .int .i64 f.num, .string f.name, .slice f.ka f.kl f.kc, .slice f.ma f.ml f.mc] 38)) := (Below.refl _ _).alloc (Nat.le_refl _) _
      have hcall := Lib.hid (IH.out ks[k] (List.getElem_mem _) f eb fr na nl nc _ (ht.kept (same_of_below hXB)) (HOKS.out _ (List.getElem_mem _)) (hev.out.kept hXB) ((HP.out.kept (same_ne HGW.out)).kept (same_of_below hXB)) hnl r0 (by omega))
      have HXB := Lib.hid hXB
      have hgl := HGL.out
      have hgk : gs[k]'(by omega) = evalT ns ks[k] := by
        have h1 := HGI.out k hlk
        rw [List.getElem?_eq_getElem (by omega)] at h1
        exact Option.some.inj h1
      have hT : gs.take (k + 1) = gs.take k ++ [evalT ns ks[k]] := by rw [List.take_succ_eq_append_getElem (by omega), hgk]
      have HAP := seqF_app (gs.take k) (evalT ns ks[k]) fu (by rw [hsq.out])
      rw [← hT, hsq.out] at HAP
      have hso := eval_ok ns _ ks[k] (Nat.le_refl _) (HOKS.out _ (List.getElem_mem (l := ks) (n := k) hlk)) fr r0
      have HFA : Hid ((evalT ns ks[k] fr).c ≠ 0 → (seqF (gs.take 2) fu).2.1 = (evalT ns ks[k] fr).c) := fun hne => by
        have h1 : (seqF (gs.take (k + 1)) fu).2.1 = (evalT ns ks[k] fr).c := by rw [HAP, if_neg hne]
        rw [take_at gs k 2 (by omega), seqF_fail _ _ _ (by rw [h1]; exact hne), h1]
      have HOW := Lib.hid hown
      have HAP2 := Lib.hid HAP
      have HG := Lib.hid hg
      clear hrow hbl ht HAP hT hgk hgl hown hXB hg
      unfold EvP at hcall
      obtain ⟨⟨so1, so2⟩, so3, so4, so5⟩ : (Amt (evalT ns ks[k] fr).v) ∧ (0 ≤ (evalT ns ks[k] fr).c ∧ (evalT ns ks[k] fr).c ≤ 4) ∧ (0 ≤ (evalT ns ks[k] fr).f ∧ (evalT ns ks[k] fr).f ≤ fr) ∧ True := ⟨okB_yes hso.1, hso.2.1, hso.2.2.1, trivial⟩
      clear hso
      generalize hsv : evalT ns ks[k] fr = sk at *
      obtain ⟨v, cd, fn⟩ := sk
      dsimp only at *
      clear hsv
      go_wp2_with fail
      refine hcall.out.mono ?_
      rintro e w2 ⟨rfl, hev2, hg2⟩
      clear y0 y1 y2 y3 y4 hcall
      have hgx : wr.grownBy w2 (some eb) := grown_trans (grown_any HXB.out) hg2
      have hown2 : Hid (w2.ownsRow wf.heap.size 3 1 (.slice a k c) k (vs.map (Value.int .i64))) := HOW.out.kept (row := some eb) hgx (Or.inr (fun e => by have := (HOW.out.lt eb e).1; have := HBf.out.size; omega))
      have HG2 := Lib.hid (grown_trans HG.out hgx)
      have HGW2 := Lib.hid (grown_trans HGW.out hgx)
      have hz2' : wf.heap.size ≤ w2.heap.size := HG2.out.size
      clear hg2 hgx
      by_cases hc : cd = 0
      · subst hc
        have HE2 := Lib.hid (hev2.out rfl)
        have HSQ : Hid (seqF (gs.take (k + 1)) fu = (vs ++ [v], 0, fn)) := by show _ = _; rw [HAP2.out, if_pos rfl]
        go_wp2_with (at_builtin; refine wpList_append_lies ?pw ?p1 ?ps ?px 86 ?p2 wf.heap.size 3 it0 (.int .i64 0) 1 8 ?p3 ?p4 ?p5 ?p6 ?p7 ?p8 ?p9 (.slice a k c) k (vs.map (Value.int .i64)) ?p10 ?ph1 ⟨w2.heap.size, 0, none⟩ 1 1 [.int .i64 v] ?p11 ?p12 ?ph2 ?ph3 ?pc1 ?pc2 ?pc3 ?pc4 (w2.heap.size + 1) ?pc5 ?_; (case p1 => rfl); (case p2 => rfl); (case p10 => rfl); (case p11 => rfl); (case ph1 => exact hown2.out.alloc _); (case p3 => exact Tryz.underlying86); (case p4 => exact hi); (case p5 => exact hz0); (case p6 => exact hz1); (case p7 => exact hz2); (case p8 => rfl); (case p9 => decide); (case p12 => rfl); (case ph2 => exact World.news_of_block (heap_alloc_new w2 _)); (case ph3 => intro u hu; simp at hu; subst hu; rfl); (case pc1 => decide); (case pc2 => unfold maxLen; omega); (case pc3 => omega); (case pc4 => simp only [World.size_alloc]; omega); (case pc5 => simp only [World.size_alloc]); intro g2 cp2 wz hownZ hgrowZ hatZ hltZ)
        have hbx : Below w2.heap.size w2 (w2.alloc (.cells #[.int .i64 v] 3)) := (Below.refl _ _).alloc (Nat.le_refl _) _
        have hbw := HBf.out.size
        have hnb : ∀ i, i < wf.heap.size → some i ≠ (Value.slice a k c).ownBlock := fun i hi e => by have := (hown2.out.lt i e.symm).1; omega
        have hE3 : Hid (Ev wz eb na nl nc fn) := (HE2.out.kept hbx).blk (hgrowZ.block eb (by have := hbx.size; omega) (hnb eb (by omega))) hgrowZ.size
        have hgz : wf.grownBy wz (some eb) := ⟨hgrowZ.os.trans (hbx.os.trans HG2.out.os), hgrowZ.tape.trans (hbx.tape.trans HG2.out.tape), hgrowZ.output.trans (hbx.output.trans HG2.out.output), Nat.le_trans HG2.out.size (Nat.le_trans hbx.size hgrowZ.size), fun i hi hne => (hgrowZ.block i (by have := hbx.size; omega) (hnb i hi)).trans ((hbx.block i (by omega)).trans (HG2.out.block i hi hne))⟩
        have hownV : wz.ownsRow wf.heap.size 3 1 (.slice (some ⟨g2, 0, none⟩) (k + 1) cp2) (k + 1) ((vs ++ [v]).map (Value.int .i64)) := by rw [List.map_append]; exact hownZ
        go_wp2_with fail
        go_roundw
        case rel => exact ⟨k + 1, cp2, some ⟨g2, 0, none⟩, vs ++ [v], fn, by omega, by go_num, rfl, hownV, HSQ, so4.1, by omega, hE3, hgz⟩
        case measure => simp [intOf]; omega
      · have z : (cd != 0) = true := by simpa using hc
        have HFAc : Hid ((seqF (gs.take 2) fu).2.1 = cd) := HFA.out hc
        have HSV : Hid (sv = ⟨0, cd, (seqF (gs.take 2) fu).2.2⟩) := by show _ = _; rw [HE.out, if_pos (by rw [HFAc.out]; exact hc), HFAc.out]
        have HC := Lib.hid hc
        clear hc
        go_wp2
        go_ret2
        refine ⟨?_, fun h => ?_, HGW2.out⟩
        · show Ending.returned (.tuple #[.int .i64 0, .int .i64 cd]) = _
          rw [HSV.out]
        · rw [HSV.out] at h; exact absurd h HC.out
    · obtain rfl : k = 2 := by omega
      have HQ := hsq
      have hqo := HQO.out
      rw [HQ.out] at hqo
      obtain ⟨-, -, hqv2, hql2⟩ := hqo
      dsimp only at hqv2 hql2
      have HVS := Lib.hid hqv2
      have HVL := Lib.hid (hql2 rfl)
      have HSE := Lib.hid HE.out
      rw [HQ.out] at HSE
      rw [if_neg (by simp)] at HSE
      dsimp only at HSE
      have HI := Lib.hid (ints_own (N := fun b => b ≠ eb) hown (fun b hb => by have := HBf.out.size; omega))
      have ca4 : wr.cell? ⟨w.heap.size, 4, none⟩ = some (Value.slice ma ms.length mc) := by rw [Lib.cell_of_heap HAr.out]; rfl
      clear hown hg hqv2 hql2 hge
      rcases Int.lt_or_le fr (1 + (ms.length : Int)) with hb | hb
      · have HSV : Hid (sv = ⟨0, 1, fr⟩) := by show _ = _; rw [HSE.out, if_pos hb]
        have HB := Lib.hid (takeNo (1 + (ms.length : Int)) fr eb na nl nc wr hb hev.out)
        go_wp2_with fail
        refine HB.out.mono ?_
        rintro e w2 ⟨rfl, rfl⟩
        go_wp2
        go_ret2
        refine ⟨?_, fun h => ?_, HGW.out⟩
        · show Ending.returned (.tuple #[.int .i64 0, .int .i64 1]) = _
          rw [HSV.out]
        · rw [HSV.out] at h; cases h
      have HB := Lib.hid (takeYes (1 + (ms.length : Int)) fr eb na nl nc wr hb (by omega) (by omega) hev.out)
      rw [if_neg (by omega)] at HSE
      go_wp2_with fail
      refine HB.out.mono ?_
      rintro e w2 ⟨rfl, hev2, hg2⟩
      have HEV2 := Lib.hid hev2
      have HG2 := Lib.hid (grown_trans HGW.out hg2)
      have HI2 := Lib.hid (HI.out.kept (same_ne hg2))
      have HA2 := Lib.hid ((hg2.block w.heap.size (Array.getElem?_eq_some_iff.1 HAr.out).1 (by intro e; simp only [Option.some.injEq] at e; omega)).trans HAr.out)
      have ca0 : w2.cell? ⟨w.heap.size, 0, none⟩ = some (Value.int .i64 9) := by rw [Lib.cell_of_heap HA2.out]; rfl
      have ca1 : w2.cell? ⟨w.heap.size, 1, none⟩ = some (Value.int .i64 n) := by rw [Lib.cell_of_heap HA2.out]; rfl
      have ca2 : w2.cell? ⟨w.heap.size, 2, none⟩ = some (Value.string s) := by rw [Lib.cell_of_heap HA2.out]; rfl
      have ca3 : w2.cell? ⟨w.heap.size, 3, none⟩ = some (Value.slice ka ks.length kc) := by rw [Lib.cell_of_heap HA2.out]; rfl
      have ca4' : w2.cell? ⟨w.heap.size, 4, none⟩ = some (Value.slice ma ms.length mc) := by rw [Lib.cell_of_heap HA2.out]; rfl
      clear ca4 hev2 hg2 HB hev
      rw [if_pos trivial] at HSE
      rw [← HGS.out] at HSE
      have FV : Hid (0 ≤ fr - (1 + (ms.length : Int)) ∧ fr - (1 + (ms.length : Int)) ≤ 1000) := ⟨by omega, by omega⟩
      have hTS : Hid (∀ W, Below w2.heap.size w2 W → Calls Tryz.prog (saysF 9) #[.agg #[], .pointer (some ⟨eb, 0, none⟩), .agg #[.int .i64 9, .int .i64 n, .string s, .slice ka ks.length kc, .slice ma ms.length mc], .slice a 2 c] W fun e w' => e = .returned (.tuple #[.int .i64 sv.v, .int .i64 sv.c]) ∧ Hid (sv.c = 0 → Ev w' eb na nl nc sv.f) ∧ W.grownBy w' (some eb)) := fun W hW =>
        saysIf ns n s ks ka kc ma ms.length mc vs a c eb _ na nl nc W IH.out HK4.out ((HR.out.kept (same_ne HG2.out)).kept (same_of_below hW)) HOKS.out (HI2.out.kept (same_of_below hW)) (HEV2.out.kept hW) ((HP.out.kept (same_ne HG2.out)).kept (same_of_below hW)) hnl FV.out.1 FV.out.2 sv HSE.out
      obtain ⟨sv1, sv2, sv3⟩ := sv
      dsimp only at *
      have mk := fun W => meth_says 9 HIN.out W
      have nk := fun W => nil_says 9 HIN.out W
      have fk := fun a W => call_says 9 HIN.out a W
      have sz2 : w.heap.size < w2.heap.size := (Array.getElem?_eq_some_iff.1 HA2.out).1
      go_wp2_with fail
      go_region_with (first
        | (go_at_call 137; refine (opOf 9 _ HIN.out).mono ?_; rintro e w3 ⟨rfl, d3⟩; have d3' : Below w2.heap.size w2 w3 := ⟨d3.os, d3.tape, d3.output, d3.size, d3.block⟩; have e0' := (d3'.cell (p := ⟨w.heap.size, 0, none⟩) sz2).trans ca0; have e1' := (d3'.cell (p := ⟨w.heap.size, 1, none⟩) sz2).trans ca1; have e2' := (d3'.cell (p := ⟨w.heap.size, 2, none⟩) sz2).trans ca2; have e3' := (d3'.cell (p := ⟨w.heap.size, 3, none⟩) sz2).trans ca3; have e4' := (d3'.cell (p := ⟨w.heap.size, 4, none⟩) sz2).trans ca4')
        | (refine (hTS.out _ d3').mono ?_; rintro e w4 ⟨rfl, hev4, hg4⟩))
      all_goals
        go_wp2
        go_ret2
        exact ⟨rfl, hev4, grown_trans HG2.out (grown_trans (grown_any d3') hg4)⟩
theorem ofCI (ns : List (ByteArray × Int)) : ∀ (k : Nat) (t : Tr), wT t ≤ k → EvAt 101 ns t
  | 0, .node o n s ks ms, hw => by rw [wT] at hw; omega
  | k + 1, .node o n s ks ms, hw => by
    rw [wT] at hw
    have ih : ∀ t ∈ ks, EvAt 101 ns t := fun t ht => ofCI ns k t (by have := wL_mem ht; omega)
    by_cases h9 : o = 9
    · subst h9; exact ofIfI ns n s ks ms ih
    · exact ofOpI ns o n s ks ms h9 ih
end Go.Proofs.YtemjooejfmkkbaaGreatDoor
