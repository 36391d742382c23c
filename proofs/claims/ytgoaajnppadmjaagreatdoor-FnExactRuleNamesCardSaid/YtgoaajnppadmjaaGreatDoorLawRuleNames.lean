/-
  The law FnExactRuleNames's own walk.
-/
import Derived.Test.YtgoaajnppadmjaaGreatDoorNamesB
import Derived.Test.YtgoaajnppadmjaaGreatDoorMarkStrU
import Derived.Test.YtgoaajnppadmjaaGreatDoorEqStrs
import Derived.Test.YtgoaajnppadmjaaGreatDoorRuleMark
import Derived.Test.YtgoaajnppadmjaaGreatDoorOpenRule
import Derived.Test.YtgoaajnppadmjaaGreatDoorRuleSz
namespace Go.Proofs.YtgoaajnppadmjaaGreatDoor
open Go.RowKit
set_option linter.unusedVariables false
set_option linter.unusedSimpArgs false

theorem KindS.to_below {N : Nat → Prop} {w w' : World} {B : Nat} (h : KindS N w w') (hN : ∀ b, N b → B ≤ b) (hB : B ≤ w.heap.size) : Below B w w' :=
  ⟨h.os, h.tape, h.output, h.size, fun b hb => h.far b (Nat.lt_of_lt_of_le hb hB) (fun k => by have := hN b k; omega)⟩
theorem RowU.same {B : Nat} {w w' : World} {v : Value} {n : Nat} {l : List (List UInt8)} (h : RowU B w v n l) (hs : ∀ b, B ≤ b → b < w.heap.size → w'.heap[b]? = w.heap[b]?) : RowU B w' v n l := by
  refine ⟨h.1, h.2.imp id ?_⟩
  rintro ⟨g, cap, cur, e1, e2, e3, e4⟩
  exact ⟨g, cap, cur, e1, e2, (hs g e2 (Array.getElem?_eq_some_iff.1 e3).1).trans e3, e4⟩
theorem RowU.strsW {B : Nat} {w : World} {a : Option Addr} {n c : Nat} {l : List (List UInt8)} (h : RowU B w (.slice a n c) n l) : StrsW B w a n := by
  refine strsW_own (ss := l.map bsU) (e := 9) (cap := c) ?_ (by simpa using h.1)
  rw [List.map_map]; exact h
theorem eqU (a a' : Option Addr) (n c c' : Nat) (ss : List ByteArray) (w : World) (h : Strs w a n ss) (h' : Strs w a' n ss) (hl : n ≤ 1048576) :
    Calls Tryz.prog 16 #[.slice a n c, .slice a' n c'] w fun e w' => e = .returned (.bool true) ∧ Below w.heap.size w w' := by
  refine (eqStrs a a' n c c' ss w h h' hl).mono ?_
  rintro e w' ⟨rfl, q, rfl⟩
  exact ⟨rfl, belowN (Below.refl _ _) q⟩
theorem markU {B : Nat} {a : Option Addr} {n c : Nat} {w : World} (h : StrsW B w a n) (hl : n ≤ 1048576) (hB : B ≤ w.heap.size) :
    Calls Tryz.prog 19 #[.slice a n c, .int .i64 1] w fun e w' => e = .returned (.int .i64 (1 + (n : Int))) ∧ Held w' a n ∧ Below B w w' := by
  refine (markStrs1 B a n c w h hl).mono ?_
  rintro e w' ⟨rfl, hq | ⟨h0, g, rfl, hg, hgs, hgr, hm⟩⟩
  · obtain ⟨hq1, hq2⟩ := hq
    subst hq2
    exact ⟨rfl, Or.inl hq1, Below.refl _ _⟩
  · exact ⟨rfl, Or.inr ⟨g, rfl, Nat.lt_of_lt_of_le hgs hgr.size, hm⟩, (Below.refl _ _).grown hgr hB (fun k e => by cases e; exact hg)⟩
theorem Held.below {a : Option Addr} {n : Nat} {w w' : World} (h : Held w a n) (hb : Below w.heap.size w w') : Held w' a n :=
  h.imp id fun ⟨g, e, hg, hm⟩ => ⟨g, e, Nat.lt_of_lt_of_le hg hb.size, hm.kept hg hb⟩
set_option maxRecDepth 20000 in
set_option maxHeartbeats 16000000 in
theorem exactRuleNames (t : Tr) (f : Fld) (w : World) (w0 : RuleRow w t f) (hL : Laid w) :
    Calls Tryz.prog 3 #[.agg (RuleA f)] w fun e w' => e = .returned (.bool true) ∧ Below w.heap.size w w' := by
  obtain ⟨h, hw⟩ := w0
  have hA : Below w.heap.size w (w.alloc (.cells #[.int .i64 f.op, .int .i64 f.num, .string f.name, .slice f.ka f.kl f.kc, .slice f.ma f.ml f.mc] 25)) := (Below.refl _ _).alloc (Nat.le_refl _) _
  have hArg : (w.alloc (.cells #[.int .i64 f.op, .int .i64 f.num, .string f.name, .slice f.ka f.kl f.kc, .slice f.ma f.ml f.mc] 25)).heap[w.heap.size]? = some (.cells #[.int .i64 f.op, .int .i64 f.num, .string f.name, .slice f.ka f.kl f.kc, .slice f.ma f.ml f.mc] 25 (0, 0)) := heap_alloc_new w _
  have hS := Lib.hid (szRule (h.kept (same_of_below hA)) hw (lf := 1048576) (by omega) (by omega))
  have H := Lib.hid h
  have HA := Lib.hid hA
  have HArg := Lib.hid hArg
  have HL := Lib.hid hL
  obtain ⟨L, hLd⟩ : ∃ L, L = namesR t := ⟨_, rfl⟩
  have hln : L.length ≤ 30 := by rw [hLd]; exact namesR_len t
  have HLd := Lib.hid hLd
  clear hLd
  clear h hw hA hArg hL
  unfold RuleA
  go_enter Tryz.func3, Tryz.ntmps3
  go_wp2_with fail
  refine hS.out.mono ?_
  rintro e w1 ⟨r, r0, r1, rfl, hr, d1⟩
  have B1 := Lib.hid (HA.out.trans (d1.mono HA.out.size))
  have A1 := Lib.hid ((d1.block _ (by simp)).trans HArg.out)
  have AR : Hid (∀ W, Below w1.heap.size w1 W → W.cell? ⟨w.heap.size, 0, none⟩ = some (.int .i64 f.op) ∧ W.cell? ⟨w.heap.size, 1, none⟩ = some (.int .i64 f.num) ∧ W.cell? ⟨w.heap.size, 2, none⟩ = some (.string f.name) ∧ W.cell? ⟨w.heap.size, 3, none⟩ = some (.slice f.ka f.kl f.kc) ∧ W.cell? ⟨w.heap.size, 4, none⟩ = some (.slice f.ma f.ml f.mc)) := fun W hW => by
    have e := (hW.block _ (Array.getElem?_eq_some_iff.1 A1.out).1).trans A1.out
    refine ⟨?_, ?_, ?_, ?_, ?_⟩ <;> (rw [Lib.cell_of_heap e]; rfl)
  clear d1
  rcases Int.lt_or_le r 0 with c | c
  · have g0 : decide (r < 0) = true := decide_eq_true c
    go_wp2
    go_ret
    exact ⟨rfl, B1.out⟩
  have g0 : decide (r < 0) = false := decide_eq_false (by omega)
  have HS : Hid (szT t ≤ 1048576) := Lib.hid (by have := hr.out c; omega)
  clear hr
  obtain ⟨y0, y1, y2, y3, y4⟩ := AR.out w1 (Below.refl _ _)
  go_wp2_with fail
  refine (toRule (H.out.kept (same_of_below B1.out)) HS.out).mono ?_
  rintro e w2 ⟨f2, rfl, h2, d2⟩
  clear y0 y1 y2 y3 y4
  have D2 : Hid (Below w1.heap.size w1 w2) := d2
  have B2 := Lib.hid (B1.out.trans (d2.mono B1.out.size))
  have hq2 := Lib.hid (specRuleNames (h2.mono (N' := All) (fun _ _ => trivial)) HS.out)
  rw [← HLd.out] at hq2
  clear h2 d2
  unfold Fld.val SNamesP at hq2
  unfold Fld.val
  go_wp2_with fail
  refine hq2.out.mono ?_
  rintro e w3 ⟨a3, n3, c3, rfl, rfl, hC3, d3⟩
  have D3 := Lib.hid (D2.out.trans (d3.mono D2.out.size))
  have B3 := Lib.hid (B2.out.trans (d3.mono B2.out.size))
  have G3 := Lib.hid hC3
  clear d3 hC3 hq2
  have BX : Hid (∀ W, Below w3.heap.size w3 W → Below w.heap.size w W) := fun W hW => B3.out.trans (hW.mono B3.out.size)
  have DX : Hid (∀ W, Below w3.heap.size w3 W → Below w1.heap.size w1 W) := fun W hW => D3.out.trans (hW.mono D3.out.size)
  have GX : Hid (∀ W, Below w3.heap.size w3 W → Strs W a3 L.length (L.map bsU)) := fun W hW => G3.out.kept hW
  obtain ⟨y0, y1, y2, y3, y4⟩ := AR.out w3 D3.out
  go_wp2_with fail
  refine (toRuleU (H.out.kept (same_of_below B3.out)) HS.out).mono ?_
  rintro e w4 ⟨f4, rfl, h4, d4⟩
  clear y0 y1 y2 y3 y4
  have C4 := Lib.hid d4
  have K4 := Lib.hid (shK_of t f4 h4)
  have T4 := Lib.hid (TrF.mono (N' := All) (fun _ _ => trivial) t f4 h4)
  clear h4 d4
  unfold Fld.val
  have hbx : Below w4.heap.size w4 (w4.alloc (.cells #[.int .i64 f4.op, .int .i64 f4.num, .string f4.name, .slice f4.ka f4.kl f4.kc, .slice f4.ma f4.ml f4.mc] 32)) := (Below.refl _ _).alloc (Nat.le_refl _) _
  have hX : (w4.alloc (.cells #[.int .i64 f4.op, .int .i64 f4.num, .string f4.name, .slice f4.ka f4.kl f4.kc, .slice f4.ma f4.ml f4.mc] 32)).heap[w4.heap.size]? = some (.cells #[.int .i64 f4.op, .int .i64 f4.num, .string f4.name, .slice f4.ka f4.kl f4.kc, .slice f4.ma f4.ml f4.mc] 32 (0, 0)) := heap_alloc_new w4 _
  have hsx : w4.heap.size < (w4.alloc (.cells #[.int .i64 f4.op, .int .i64 f4.num, .string f4.name, .slice f4.ka f4.kl f4.kc, .slice f4.ma f4.ml f4.mc] 32)).heap.size := by simp only [World.size_alloc]; omega
  have CX := Lib.hid (C4.out.trans (hbx.mono C4.out.size))
  have TX := Lib.hid (T4.out.kept (same_of_below hbx))
  have hI := Lib.hid (implRuleNames TX.out HS.out (laid_stays HL.out (BX.out _ CX.out)))
  rw [← HLd.out] at hI
  have HBX := Lib.hid hbx
  have HX := Lib.hid hX
  have HSX := Lib.hid hsx
  clear hbx hX hsx
  unfold Fld.val NamesP at hI
  go_wp2_with fail
  generalize hWX : (w4.alloc (.cells #[.int .i64 f4.op, .int .i64 f4.num, .string f4.name, .slice f4.ka f4.kl f4.kc, .slice f4.ma f4.ml f4.mc] 32)) = WX at *
  clear hWX
  refine hI.out.mono ?_
  rintro e w6 ⟨a6, n6, c6, rfl, rfl, hC6, d6⟩
  have C6 := Lib.hid (CX.out.trans (d6.mono CX.out.size))
  have D6 := Lib.hid (HBX.out.trans (d6.mono HBX.out.size))
  have X6 := Lib.hid ((d6.block _ (Array.getElem?_eq_some_iff.1 HX.out).1).trans HX.out)
  have O6 := Lib.hid hC6
  have Z6 : Hid (WX.heap.size ≤ w6.heap.size) := d6.size
  clear hC6 d6 hI
  have hE6 := Lib.hid (eqU a6 a3 L.length c6 c3 (L.map bsU) w6 (row_lies O6.out) (GX.out w6 C6.out) (by omega))
  go_wp2_with fail
  refine hE6.out.mono ?_
  rintro e w7 ⟨rfl, d7⟩
  have C7 := Lib.hid (C6.out.trans (d7.mono C6.out.size))
  have D7 := Lib.hid (D6.out.trans (d7.mono D6.out.size))
  have X7 := Lib.hid ((d7.block _ (Array.getElem?_eq_some_iff.1 X6.out).1).trans X6.out)
  have O7 := Lib.hid (O6.out.below d7)
  have Z7 := Lib.hid (Nat.le_trans Z6.out d7.size)
  clear d7 hE6
  obtain ⟨y0, y1, y2, y3, y4⟩ := AR.out w7 (DX.out _ C7.out)
  have x0 : w7.cell? ⟨w4.heap.size, 0, none⟩ = some (.int .i64 f4.op) := by rw [Lib.cell_of_heap X7.out]; rfl
  have x1 : w7.cell? ⟨w4.heap.size, 1, none⟩ = some (.int .i64 f4.num) := by rw [Lib.cell_of_heap X7.out]; rfl
  have x2 : w7.cell? ⟨w4.heap.size, 2, none⟩ = some (.string f4.name) := by rw [Lib.cell_of_heap X7.out]; rfl
  have x3 : w7.cell? ⟨w4.heap.size, 3, none⟩ = some (.slice f4.ka f4.kl f4.kc) := by rw [Lib.cell_of_heap X7.out]; rfl
  have x4 : w7.cell? ⟨w4.heap.size, 4, none⟩ = some (.slice f4.ma f4.ml f4.mc) := by rw [Lib.cell_of_heap X7.out]; rfl
  have sX : w4.heap.size < w7.heap.size := (Array.getElem?_eq_some_iff.1 X7.out).1
  have HC : Hid (∀ W, Below w7.heap.size w7 W → TrF All W t f) := fun W hW => H.out.kept (same_of_below (BX.out _ (C7.out.trans (hW.mono C7.out.size))))
  have xx4 : Hid (∀ W, Below w4.heap.size w4 W → TrF All W t f4) := fun W hW => T4.out.kept (same_of_below hW)
  go_upto_region 10 with fail
  go_cut [31] from 27 to 31 (fun v wx => v = .bool false ∧ Hid (Below w7.heap.size w7 wx))
  case first =>
    go_region_with (first
      | (go_at_call 14; refine (toRule (HC.out _ (belowN (Below.refl _ w7) 1)) HS.out).mono ?_; rintro e w8 ⟨f6, rfl, h6, dd6⟩; unfold Fld.val; have d6 : Below w7.heap.size w7 w8 := (Below.refl _ w7).drew.trans dd6; have h7 := h6.mono (N' := All) (fun _ _ => trivial); have z0 := (d6.cell (p := ⟨w4.heap.size, 0, none⟩) sX).trans x0; have z1 := (d6.cell (p := ⟨w4.heap.size, 1, none⟩) sX).trans x1; have z2 := (d6.cell (p := ⟨w4.heap.size, 2, none⟩) sX).trans x2; have z3 := (d6.cell (p := ⟨w4.heap.size, 3, none⟩) sX).trans x3; have z4 := (d6.cell (p := ⟨w4.heap.size, 4, none⟩) sX).trans x4)
      | (go_at_call 17; refine (eqRule (xx4.out _ (D7.out.trans (d6.mono D7.out.size))) h7 HS.out).mono ?_; rintro e w9 ⟨rfl, dd7⟩))
    all_goals
      have hfin : Below w7.heap.size w7 w9 := d6.trans (dd7.mono d6.size)
      go_wp2_with fail
      go_meet
      case rel => exact ⟨rfl, hfin⟩
  case rest =>
    obtain ⟨rfl, hb9⟩ := hcut
    generalize wc = w9 at *
    have C9 := Lib.hid (C7.out.trans (hb9.out.mono C7.out.size))
    have D9 := Lib.hid (D7.out.trans (hb9.out.mono D7.out.size))
    have X9 := Lib.hid ((hb9.out.block _ (Array.getElem?_eq_some_iff.1 X7.out).1).trans X7.out)
    have O9 := Lib.hid (O7.out.below hb9.out)
    have Z9 := Lib.hid (Nat.le_trans Z7.out hb9.out.size)
    clear x0 x1 x2 x3 x4
    clear y0 y1 y2 y3 y4
    clear hb9 sX
    have x0 : w9.cell? ⟨w4.heap.size, 0, none⟩ = some (.int .i64 f4.op) := by rw [Lib.cell_of_heap X9.out]; rfl
    have x1 : w9.cell? ⟨w4.heap.size, 1, none⟩ = some (.int .i64 f4.num) := by rw [Lib.cell_of_heap X9.out]; rfl
    have x2 : w9.cell? ⟨w4.heap.size, 2, none⟩ = some (.string f4.name) := by rw [Lib.cell_of_heap X9.out]; rfl
    have x3 : w9.cell? ⟨w4.heap.size, 3, none⟩ = some (.slice f4.ka f4.kl f4.kc) := by rw [Lib.cell_of_heap X9.out]; rfl
    have x4 : w9.cell? ⟨w4.heap.size, 4, none⟩ = some (.slice f4.ma f4.ml f4.mc) := by rw [Lib.cell_of_heap X9.out]; rfl
    have hM := Lib.hid (markRuleK (fun b => w3.heap.size ≤ b ∧ b < w4.heap.size) t f4 w9 ((ShK.kept (KindS.below D9.out) t f4) (by have := K4.out; exact this)) HS.out)
    unfold Fld.val at hM
    go_wp2_with fail
    refine hM.out.mono ?_
    rintro e wA ⟨k, rfl, kA⟩
    have CA := Lib.hid (C9.out.trans (kA.to_below (B := w3.heap.size) (fun b hb => hb.1) C9.out.size))
    have OA := Lib.hid (O9.out.same (w' := wA) (fun b hb hl => kA.far b hl (fun hn => by have h1 := hn.2; have h2 := HSX.out; omega)))
    have ZA := Lib.hid (Nat.le_trans Z9.out kA.size)
    clear kA hM
    clear x0 x1 x2 x3 x4
    have kk : decide ((k : Int) < 0) = false := decide_eq_false (by omega)
    have hEA := Lib.hid (eqU a6 a3 L.length c6 c3 (L.map bsU) wA (row_lies OA.out) (GX.out wA CA.out) (by omega))
    go_wp2_with fail
    refine hEA.out.mono ?_
    rintro e wB ⟨rfl, dB⟩
    have CB := Lib.hid (CA.out.trans (dB.mono CA.out.size))
    have OB := Lib.hid (OA.out.below dB)
    have ZB := Lib.hid (Nat.le_trans ZA.out dB.size)
    clear dB hEA kk
    have hMI := Lib.hid (markU (c := c6) OB.out.strsW (by omega) ZB.out)
    go_wp2_with fail
    refine hMI.out.mono ?_
    rintro e wC ⟨rfl, oC, dC⟩
    have CC := Lib.hid (CB.out.trans (dC.mono CX.out.size))
    have OC := Lib.hid oC
    clear oC dC hMI
    have hPL : Hid (∀ W, Below wC.heap.size wC W → Calls Tryz.prog 20 #[.slice a6 L.length c6, .int .i64 1] W fun e w' => e = .returned (.int .i64 (1 + (L.length : Int))) ∧ Below W.heap.size W w') := fun W hW => heldStrs1 a6 L.length c6 W (OC.out.below hW) (by omega)
    have hq0 : decide (1 + (L.length : Int) < 0) = false := decide_eq_false (by omega)
    generalize hQ : 1 + (L.length : Int) = Q at *
    clear hQ
    go_wp2_with fail
    refine (hPL.out wC (Below.refl _ _)).mono ?_
    rintro e wD ⟨rfl, dD⟩
    have CD := Lib.hid (CC.out.trans (dD.mono CC.out.size))
    have ED := Lib.hid dD
    clear dD
    obtain ⟨y0, y1, y2, y3, y4⟩ := AR.out wD (DX.out _ CD.out)
    go_wp2_with fail
    refine (toRule (H.out.kept (same_of_below (BX.out _ CD.out))) HS.out).mono ?_
    rintro e wE ⟨f5, rfl, h5, d5⟩
    clear y0 y1 y2 y3 y4
    have CE := Lib.hid (CD.out.trans (d5.mono CD.out.size))
    have EE := Lib.hid (ED.out.trans (d5.mono ED.out.size))
    have hI2 := Lib.hid (implRuleNames (h5.mono (N' := All) (fun _ _ => trivial)) HS.out (laid_stays HL.out (BX.out _ CE.out)))
    rw [← HLd.out] at hI2
    clear h5 d5
    unfold Fld.val NamesP at hI2
    unfold Fld.val
    go_wp2_with fail
    refine hI2.out.mono ?_
    rintro e wF ⟨aF, nF, cF, rfl, rfl, hCF, dF⟩
    have CF := Lib.hid (CE.out.trans (dF.mono CE.out.size))
    have EF := Lib.hid (EE.out.trans (dF.mono EE.out.size))
    have OF := Lib.hid hCF
    clear hCF dF hI2
    have hEF := Lib.hid (eqU aF a3 L.length cF c3 (L.map bsU) wF (row_lies OF.out) (GX.out wF CF.out) (by omega))
    go_wp2_with fail
    refine hEF.out.mono ?_
    rintro e wG ⟨rfl, dG⟩
    have CG := Lib.hid (CF.out.trans (dG.mono CF.out.size))
    have EG := Lib.hid (EF.out.trans (dG.mono EF.out.size))
    clear dG hEF
    go_wp2_with fail
    refine (hPL.out wG EG.out).mono ?_
    rintro e wH ⟨rfl, dH⟩
    have BH := BX.out _ (CG.out.trans (dH.mono CG.out.size))
    clear dH
    go_wp2
    go_ret
    exact ⟨rfl, BH⟩
end Go.Proofs.YtgoaajnppadmjaaGreatDoor
