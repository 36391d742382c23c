/-
  Whether a rule fits: the program's answer, by a count in memory.
-/
import Derived.Test.YtemjooejfmkkbaaGreatDoorJ18
import Derived.Test.YtemjooejfmkkbaaGreatDoorJ15
import Derived.Lib.QuietBelow
import Derived.Deep.Cut
namespace Go.Proofs.YtemjooejfmkkbaaGreatDoor
open Go.RowKit
set_option linter.unusedVariables false
set_option linter.unusedSimpArgs false

mutual
theorem TrF.lt {N : Nat → Prop} {w : World} : ∀ (t : Tr) (f : Fld), TrF N w t f → TrF (fun b => N b ∧ b < w.heap.size) w t f
  | .node o n nm ks ms, f, h => by
    rw [TrF] at h ⊢
    obtain ⟨h1, h2, h3, h4, h7, h5, h6⟩ := h
    refine ⟨h1, h2, h3, h4, h7, ?_, ?_⟩
    · obtain ⟨g1, g2⟩ := h5
      refine ⟨g1, ?_⟩
      rcases g2 with g | ⟨b, off, k1, k2, k3, k4⟩
      · exact Or.inl g
      · exact Or.inr ⟨b, off, k1, ⟨k2, k3⟩, k3, k4⟩
    rcases h6 with h | ⟨b, off, k1, k2, k3, k4⟩
    · exact Or.inl h
    · exact Or.inr ⟨b, off, k1, ⟨k2, k3⟩, k3, RowF.lt b off ks 0 k4⟩
theorem RowF.lt {N : Nat → Prop} {w : World} (b off : Nat) : ∀ (ks : List Tr) (i : Nat), RowF N w b off ks i → RowF (fun b => N b ∧ b < w.heap.size) w b off ks i
  | [], i, h => by rw [RowF]; trivial
  | t :: r, i, h => by
    rw [RowF] at h ⊢
    obtain ⟨⟨f, h1, h2⟩, h3⟩ := h
    exact ⟨⟨f, h1, TrF.lt t f h2⟩, RowF.lt b off r (i + 1) h3⟩
end
theorem grown_any {w w' : World} {row : Option Nat} (h : Below w.heap.size w w') : w.grownBy w' row := ⟨h.os, h.tape, h.output, h.size, fun i hi _ => h.block i hi⟩
theorem same_ne {cb : Nat} {w w' : World} (h : w.grownBy w' (some cb)) : Same (fun b => b ≠ cb) w w' := same_grown h (fun b hb e => hb e)
/-- A count in memory. -/
def Cnt (w : World) (cb : Nat) (p : Int) : Prop := cb < w.heap.size ∧ w.cell? ⟨cb, 0, none⟩ = some (.int .i64 p) ∧ w.frozen? ⟨cb, 0, none⟩ = false
theorem Cnt.kept {w w' : World} {cb : Nat} {p : Int} (h : Cnt w cb p) (hb : Below w.heap.size w w') : Cnt w' cb p := by
  have e := hb.block cb h.1
  exact ⟨Nat.lt_of_lt_of_le h.1 hb.size, (World.cell?_of_block (a := ⟨cb, 0, none⟩) e).trans h.2.1, (World.frozen?_of_block (a := ⟨cb, 0, none⟩) e).trans h.2.2⟩
theorem Cnt.set {w : World} {cb : Nat} {p q : Int} (h : Cnt w cb p) : Cnt (w.setCell ⟨cb, 0, none⟩ (.int .i64 q)) cb q := by
  obtain ⟨h1, h2, h3⟩ := h
  refine ⟨by simpa [World.setCell] using h1, ?_, ?_⟩
  · exact World.cell?_setCell_same (h := h2) ..
  · rw [World.frozen?_setCell]; exact h3
def FitsAt (t : Tr) : Prop := ∀ (f : Fld) (d : Nat) (cb : Nat) (p : Int) (w : World), TrF (fun b => b ≠ cb) w t f → Cnt w cb p → 0 ≤ p → p ≤ 30 → d ≤ 100 → Calls Tryz.prog 97 #[.pointer (some ⟨cb, 0, none⟩), f.val, .int .i64 (d : Int)] w fun e w' => ∃ b : Bool, e = .returned (.bool b) ∧ Hid (b = decide (0 ≤ partsT t d (30 - p)) ∧ (b = true → Cnt w' cb (30 - partsT t d (30 - p)))) ∧ w.grownBy w' (some cb)
set_option maxRecDepth 20000 in
set_option maxHeartbeats 8000000 in
theorem fitsN (o n : Int) (s : ByteArray) (ks : List Tr) (ms : List (Int × Int)) (ih : ∀ t ∈ ks, FitsAt t) (hs : szT (.node o n s ks ms) ≤ 1048576) : FitsAt (.node o n s ks ms) := by
  intro f d cb p w h hc p0 p1 hd
  obtain ⟨e1, e2, e3, hm, hk, hc1, hc2⟩ := trF_iff.1 h
  obtain ⟨fo, fn, fs, ka, kl, kc, ma, ml, mc⟩ := f
  dsimp only at e1 e2 e3 hm hk hc1 hc2
  have q1 := e1.symm
  have q2 := e2.symm
  have q3 := e3.symm
  clear e1 e2 e3
  subst q1 q2 q3
  obtain rfl := hk.1
  obtain rfl := hm.1
  rw [szT] at hs
  have hz1 : s.size ≤ maxLen := by unfold maxLen; omega
  have hz2 : ks.length ≤ 1048576 := by omega
  have hz3 : ms.length ≤ 1048576 := by omega
  have HK := Lib.hid hk
  have HM := Lib.hid hm
  have IH := Lib.hid ih
  have HZ1 := Lib.hid hz1
  have HCN := Lib.hid hc
  clear h hk hm ih hs hz1 hc1 hc2
  unfold Fld.val
  dsimp only
  have hP : partsT (.node o n s ks ms) d (30 - p) = if 30 - p - 1 < 0 ∨ 6 < d ∨ ¬ PlainN o n s ks.length ms then -1 else partsL ks (d + 1) (30 - p - 1) := by rw [partsT]
  have HP := Lib.hid hP
  clear hP
  have e0 : IntKind.i64.wrap (p + 1) = p + 1 := IntWalk.i64_in _ (by omega)
  have e9 : IntKind.i64.wrap ((d : Int) + 1) = (d : Int) + 1 := IntWalk.i64_in _ (by omega)
  have hcA := HCN.out.kept ((Below.refl w.heap.size w).alloc (Nat.le_refl _) (.cells #[.int .i64 o, .int .i64 n, .string s, .slice ka ks.length kc, .slice ma ms.length mc] 38))
  have c0 := hcA.2.1
  have c1 := hcA.2.2
  have cne : w.heap.size ≠ cb := Nat.ne_of_gt HCN.out.1
  go_enter Tryz.func97, Tryz.ntmps97
  go_wp2_with fail
  have HcA := Lib.hid hcA
  clear hcA
  have hArg : (w.alloc (.cells #[.int .i64 o, .int .i64 n, .string s, .slice ka ks.length kc, .slice ma ms.length mc] 38)).heap[w.heap.size]? = some (.cells #[.int .i64 o, .int .i64 n, .string s, .slice ka ks.length kc, .slice ma ms.length mc] 38 (0, 0)) := heap_alloc_new w _
  have gA : w.grownBy (w.alloc (.cells #[.int .i64 o, .int .i64 n, .string s, .slice ka ks.length kc, .slice ma ms.length mc] 38)) (some cb) := grown_any ((Below.refl _ _).alloc (Nat.le_refl _) _)
  have gS := grown_set (w.alloc (.cells #[.int .i64 o, .int .i64 n, .string s, .slice ka ks.length kc, .slice ma ms.length mc] 38)) ⟨cb, 0, none⟩ (.int .i64 (p + 1))
  have hG := Lib.hid (grown_trans gA gS)
  have hC1 := Lib.hid (HcA.out.set (q := p + 1))
  have hA1 := Lib.hid ((gS.block w.heap.size (by simp) (by intro e; simp only [Option.some.injEq] at e; exact cne e)).trans hArg)
  clear hArg gA gS c0 c1
  generalize (w.alloc (.cells #[.int .i64 o, .int .i64 n, .string s, .slice ka ks.length kc, .slice ma ms.length mc] 38)).setCell ⟨cb, 0, none⟩ (.int .i64 (p + 1)) = W1 at *
  have sz1 : w.heap.size < W1.heap.size := (Array.getElem?_eq_some_iff.1 hA1.out).1
  by_cases hop : 1 ≤ o ∧ o ≤ 10
  · have Hop := Lib.hid hop
    clear hop
    refine (opOf o W1 Hop.out).mono ?_
    rintro e w2 ⟨rfl, d2⟩
    have hG2 := Lib.hid (grown_trans hG.out (grown_any d2))
    have hC2 := Lib.hid (hC1.out.kept d2)
    have hA2 := Lib.hid ((d2.block _ sz1).trans hA1.out)
    have hT2 := Lib.hid d2.size
    clear d2
    have c0 := hC2.out.2.1
    rcases Nat.lt_or_ge 6 d with c1 | c1
    · have z1 : decide ((6 : Int) < (d : Int)) = true := decide_eq_true (by omega)
      have z1' : decide (6 < d) = true := decide_eq_true c1
      go_wp2
      go_ret
      exact ⟨false, rfl, ⟨by rw [HP.out, if_pos (Or.inr (Or.inl c1))]; rfl, fun h => by cases h⟩, hG2.out⟩
    have z1 : decide ((6 : Int) < (d : Int)) = false := decide_eq_false (by omega)
    have z1' : decide (6 < d) = false := decide_eq_false (by omega)
    rcases Int.lt_or_le 30 (p + 1) with c2 | c2
    · have z2 : decide (30 < p + 1) = true := decide_eq_true c2
      go_wp2
      go_ret
      exact ⟨false, rfl, ⟨by rw [HP.out, if_pos (Or.inl (by omega))]; rfl, fun h => by cases h⟩, hG2.out⟩
    have z2 : decide (30 < p + 1) = false := decide_eq_false (by omega)
    have qn : ∀ w : World, (binOp .eql 164 (.iface (opT o) (.agg #[])) .nilIface).run Tryz.prog w = .ok (.bool false) w := fun w => rfl
    go_wp2_with fail
    have mk := fun W => meth_kids o Hop.out W
    have nk := fun W => nil_kids o Hop.out W
    have mh := fun W => meth_holds o Hop.out W
    have nh := fun W => nil_holds o Hop.out W
    have fk := fun a W => call_kids o Hop.out a W
    have fh := fun a W => call_holds o Hop.out a W
    have hTr := hT2.out
    have cK : ∀ dd os, Calls Tryz.prog (kidsF o) #[.agg #[]] (Go.Sort.grow (redrawn w2 dd) os) fun e w'' => e = .returned (.int .i64 (kidsN o)) ∧ ∃ p : Regrown, w'' = Go.Sort.grow (redrawn w2 p.d) p.os := fun dd os => Calls.regrown_of (kidsI o Hop.out _)
    have HM2 : Hid (∀ W, Below w2.heap.size w2 W → MarksN All W ma ms.length ms) := fun W hW => (HM.out.kept ((same_ne hG2.out).trans (same_of_below hW))).mono (fun _ _ => trivial)
    have cH : ∀ dd os, Calls Tryz.prog (holdsF o) #[.agg #[], .agg #[.int .i64 o, .int .i64 n, .string s, .slice ka ks.length kc, .slice ma ms.length mc]] (Go.Sort.grow (redrawn w2 dd) os) fun e w'' => e = .returned (.bool (decide (HoldsN o n s ms))) ∧ ∃ p : Regrown, w'' = Go.Sort.grow (redrawn w2 p.d) p.os := fun dd os => Calls.regrown_of ((holdsI o n s ka ma ks.length kc mc ms _ Hop.out HZ1.out (HM2.out _ (below_regrown w2 dd os)) hz3).mono fun e w' ⟨b, h1, h2, h3⟩ => ⟨by rw [h1, show b = decide (HoldsN o n s ms) from by have := h2.out; cases b <;> simp_all], h3⟩)
    have z0 : w2.cell? ⟨w.heap.size, 0, none⟩ = some (Value.int .i64 o) := by rw [Lib.cell_of_heap hA2.out]; rfl
    have z1' : w2.cell? ⟨w.heap.size, 1, none⟩ = some (Value.int .i64 n) := by rw [Lib.cell_of_heap hA2.out]; rfl
    have z2' : w2.cell? ⟨w.heap.size, 2, none⟩ = some (Value.string s) := by rw [Lib.cell_of_heap hA2.out]; rfl
    have z3' : w2.cell? ⟨w.heap.size, 3, none⟩ = some (Value.slice ka ks.length kc) := by rw [Lib.cell_of_heap hA2.out]; rfl
    have z4' : w2.cell? ⟨w.heap.size, 4, none⟩ = some (Value.slice ma ms.length mc) := by rw [Lib.cell_of_heap hA2.out]; rfl
    have y0 := cell_regrown z0
    have y1 := cell_regrown z1'
    have y2 := cell_regrown z2'
    have y3 := cell_regrown z3'
    have y4 := cell_regrown z4'
    generalize hkn : kidsN o = kn at *
    have Hkn := Lib.hid hkn
    generalize hhd : decide (HoldsN o n s ms) = hd2 at *
    have Hhd := Lib.hid hhd
    clear hkn hhd z0 z1' z2' z3' z4' c0
    cases hk1 : ((ks.length : Int) != kn) with
    | true =>
      have hno : Hid (¬ PlainN o n s ks.length ms) := fun h => by have := h.1; rw [Hkn.out] at this; simp [this] at hk1
      refine wp_region_quiet_below (by kernel_rfl) (by kernel_rfl) ?_
      repeat (quiet_step (first | exact cK _ _ | exact cH _ _))
      refine wpQuiet_nil ?_
      intro _ hw'
      obtain ⟨⟨dq, osq⟩, hw''⟩ := hw'
      subst hw''
      go_wp2
      go_ret
      exact ⟨false, rfl, ⟨by rw [HP.out, if_pos (Or.inr (Or.inr hno.out))]; rfl, fun h => by cases h⟩, grown_trans hG2.out (grown_any (below_regrown w2 dq osq))⟩
    | false =>
      have hk2 : Hid ((ks.length : Int) = kidsN o) := by show _ = _; rw [Hkn.out]; simpa using hk1
      cases hd2 with
      | false =>
        have hno : Hid (¬ PlainN o n s ks.length ms) := fun h => by have h2 := Hhd.out; have := h.2; simp [this] at h2
        refine wp_region_quiet_below (by kernel_rfl) (by kernel_rfl) ?_
        repeat (quiet_step (first | exact cK _ _ | exact cH _ _))
        refine wpQuiet_nil ?_
        intro _ hw'
        obtain ⟨⟨dq, osq⟩, hw''⟩ := hw'
        subst hw''
        go_wp2
        go_ret
        exact ⟨false, rfl, ⟨by rw [HP.out, if_pos (Or.inr (Or.inr hno.out))]; rfl, fun h => by cases h⟩, grown_trans hG2.out (grown_any (below_regrown w2 dq osq))⟩
      | true =>
        have hyes : Hid (PlainN o n s ks.length ms) := ⟨hk2.out, by have h2 := Hhd.out; simpa using h2⟩
        refine wp_region_quiet_below (by kernel_rfl) (by kernel_rfl) ?_
        repeat (quiet_step (first | exact cK _ _ | exact cH _ _))
        refine wpQuiet_nil ?_
        intro _ hw'
        obtain ⟨⟨dq, osq⟩, hw''⟩ := hw'
        have hb3 : Below w2.heap.size w2 _ := below_regrown w2 dq osq
        have hG3 := Lib.hid (grown_trans hG2.out (grown_any hb3))
        have hC3 := Lib.hid (hC2.out.kept hb3)
        have hA3 := Lib.hid ((hb3.block _ (Nat.lt_of_lt_of_le sz1 hTr)).trans hA2.out)
        subst hw''
        generalize hW3 : Go.Sort.grow (redrawn w2 dq) osq = W3 at *
        clear hb3 hW3 y0 y1 y2 y3 y4 cK cH mk nk mh nh fk fh
        have ca : W3.cell? ⟨w.heap.size, 3, none⟩ = some (Value.slice ka ks.length kc) := by rw [Lib.cell_of_heap hA3.out]; rfl
        go_wp2_with fail
        go_loopw [48] (fun vi wr => ∃ (k : Nat) (m : Int), k ≤ ks.length ∧ vi = .int .i64 k ∧ 0 ≤ m ∧ m ≤ 30 ∧ Hid (partsL (ks.drop k) (d + 1) m = partsL ks (d + 1) (30 - p - 1)) ∧ Hid (Cnt wr cb (30 - m)) ∧ W3.grownBy wr (some cb)) (fun vi _ => ks.length - (intOf vi).toNat)
        case atStart => exact ⟨0, 30 - p - 1, Nat.zero_le _, rfl, by omega, by omega, by show _ = _; rw [List.drop_zero], by have := hC3.out; rw [show (30 : Int) - (30 - p - 1) = p + 1 from by omega]; exact this, grown_any (Below.refl _ _)⟩
        case round =>
          obtain ⟨k, m, hk, rfl, m0, m1, hp, hcn, hb⟩ := hrel
          rcases Nat.lt_or_ge k ks.length with hlt | hge
          · have k1 : (k : Int) < ks.length := by omega
            have k0 : (0 : Int) ≤ k := by omega
            obtain ⟨b, off, rfl, -, hbl, hrow⟩ := (HK.out.kept ((same_ne hG3.out).trans (same_ne hb))).cells (by omega)
            obtain ⟨f, ⟨y0, y1, y2, y3, y4⟩, ht⟩ := hrow k hlt
            have HT := Lib.hid ht
            have HD := Lib.hid (partsL_drop ks (d + 1) m k hlt m0)
            have IHk := Lib.hid (IH.out ks[k] (List.getElem_mem _))
            have hlow := partsT_low ks[k] (d + 1) m m0
            have hup : partsT ks[k] (d + 1) m ≤ 30 := by
              rcases Int.lt_or_le (partsT ks[k] (d + 1) m) 0 with q | q
              · omega
              · have := partsT_le _ _ _ q; omega
            clear hrow
            go_wp2_with fail
            have hWA : Below wr.heap.size wr (wr.alloc (.cells #[.int .i64 f.op, .int .i64 f.num, .string f.name, .slice f.ka f.kl f.kc, .slice f.ma f.ml f.mc] 38)) := (Below.refl _ _).alloc (Nat.le_refl _) _
            have e30 : (30 : Int) - (30 - m) = m := by omega
            have hcall := IHk.out f (d + 1) cb (30 - m) _ (HT.out.kept (same_of_below hWA)) (hcn.out.kept hWA) (by omega) (by omega) (by omega)
            rw [e30] at hcall
            refine hcall.mono ?_
            clear hcall y0 y1 y2 y3 y4
            rintro e w4 ⟨bb, rfl, hbb, hg4⟩
            have hG4 : Hid (W3.grownBy w4 (some cb)) := grown_trans (grown_trans hb (grown_any hWA)) hg4
            clear hWA hg4 hb
            generalize hv : partsT ks[k] (d + 1) m = v at *
            have Hv := Lib.hid hv
            clear hv
            cases bb with
            | false =>
              have hneg : v < 0 := by have := hbb.out.1; simp at this; omega
              go_wp2
              go_ret
              refine ⟨false, rfl, ⟨?_, fun h => by cases h⟩, grown_trans hG3.out hG4.out⟩
              have h1 := hp.out
              rw [HD.out, partsL_neg hneg] at h1
              rw [HP.out, if_neg (by rintro (h | h | h); omega; omega; exact h hyes.out), ← h1]
              exact (decide_eq_false (by omega)).symm
            | true =>
              have hpos : 0 ≤ v := by have := hbb.out.1; simp at this; omega
              have hC4 := Lib.hid (hbb.out.2 rfl)
              go_wp2
              go_roundw
              case rel => exact ⟨k + 1, v, by omega, by go_num, hpos, hup, by show _ = _; rw [← hp.out, HD.out], hC4, hG4.out⟩
              case measure => simp [intOf]; omega
          · obtain rfl : k = ks.length := by omega
            go_wp2
            go_ret
            have h1 := hp.out
            rw [List.drop_length, partsL] at h1
            have h2 : partsT (.node o n s ks ms) d (30 - p) = m := by rw [HP.out, if_neg (by rintro (h | h | h); omega; omega; exact h hyes.out), ← h1]
            exact ⟨true, rfl, ⟨by rw [h2]; exact (decide_eq_true m0).symm, fun _ => by rw [h2]; exact hcn.out⟩, grown_trans hG3.out hb⟩
  · refine (opNone o W1 hop).mono ?_
    rintro e w2 ⟨rfl, d2⟩
    have hno : Hid (¬ PlainN o n s ks.length ms) := fun h => by have := h.1; rw [kidsN_low hop] at this; omega
    have hG2 := Lib.hid (grown_trans hG.out (grown_any d2))
    have hC2 := Lib.hid (hC1.out.kept d2)
    clear d2
    have c0 := hC2.out.2.1
    rcases Nat.lt_or_ge 6 d with c1 | c1
    · have z1 : decide ((6 : Int) < (d : Int)) = true := decide_eq_true (by omega)
      have z1' : decide (6 < d) = true := decide_eq_true c1
      go_wp2
      go_ret
      exact ⟨false, rfl, ⟨by rw [HP.out, if_pos (Or.inr (Or.inl c1))]; rfl, fun h => by cases h⟩, hG2.out⟩
    have z1 : decide ((6 : Int) < (d : Int)) = false := decide_eq_false (by omega)
    have z1' : decide (6 < d) = false := decide_eq_false (by omega)
    have qn : ∀ w : World, (binOp .eql 164 .nilIface .nilIface).run Tryz.prog w = .ok (.bool true) w := fun w => rfl
    rcases Int.lt_or_le 30 (p + 1) with c2 | c2
    · have z2 : decide (30 < p + 1) = true := decide_eq_true c2
      go_wp2
      go_ret
      exact ⟨false, rfl, ⟨by rw [HP.out, if_pos (Or.inl (by omega))]; rfl, fun h => by cases h⟩, hG2.out⟩
    have z2 : decide (30 < p + 1) = false := decide_eq_false (by omega)
    go_wp2
    go_ret
    exact ⟨false, rfl, ⟨by rw [HP.out, if_pos (Or.inr (Or.inr hno.out))]; rfl, fun h => by cases h⟩, hG2.out⟩
theorem fitsC : ∀ (k : Nat) (t : Tr), wT t ≤ k → szT t ≤ 1048576 → FitsAt t
  | 0, .node o n s ks ms, hw, _ => by rw [wT] at hw; omega
  | k + 1, .node o n s ks ms, hw, hs => by
    rw [wT] at hw
    exact fitsN o n s ks ms (fun t ht => fitsC k t (by have := wL_mem ht; omega) (by rw [szT] at hs; have := szL_mem ht; omega)) hs
end Go.Proofs.YtemjooejfmkkbaaGreatDoor
