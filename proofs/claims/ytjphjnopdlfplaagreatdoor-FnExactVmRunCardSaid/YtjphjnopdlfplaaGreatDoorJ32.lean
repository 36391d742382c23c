/-
  What a program has at hand: the program's walk.
  The kids of a rule in a row of one's own; no law is proved here.
-/
import Derived.Test.YtjphjnopdlfplaaGreatDoorJ17
import Derived.Test.YtjphjnopdlfplaaGreatDoorJ16
import Derived.Test.YtjphjnopdlfplaaGreatDoorJ31
import Derived.WalkLawsBesides
import Derived.OwnWalk
import Derived.Deep.AppendLies
namespace Go.Proofs.YtjphjnopdlfplaaGreatDoor
open Go.RowKit
set_option linter.unusedVariables false
set_option linter.unusedSimpArgs false

set_option maxHeartbeats 8000000 in
theorem vmTakesI (o : Int) (w : World) (h : 1 ≤ o ∧ o ≤ 11) : Calls Tryz.prog 109 #[.int .i64 o] w fun e w' => e = .returned (.tuple #[.int .i64 (takesV o).1, .int .i64 (takesV o).2]) ∧ Below w.heap.size w w' := by
  by_cases h9 : o = 9
  · subst h9
    clear h
    go_enter Tryz.func109, Tryz.ntmps109
    go_wp2
    go_ret2
    exact ⟨rfl, Below.refl _ _⟩
  by_cases h11 : o = 11
  · subst h11
    clear h h9
    go_enter Tryz.func109, Tryz.ntmps109
    go_wp2
    go_ret2
    exact ⟨rfl, Below.refl _ _⟩
  have b9 : (o == 9) = false := by simpa using h9
  have b11 : (o == 11) = false := by simpa using h11
  have Hop : Hid (1 ≤ o ∧ o ≤ 10) := by refine Lib.hid ?_; omega
  have HT : Hid (takesV o = (kidsN o, 1)) := by
    refine Lib.hid ?_
    have : o = 1 ∨ o = 2 ∨ o = 3 ∨ o = 4 ∨ o = 5 ∨ o = 6 ∨ o = 7 ∨ o = 8 ∨ o = 10 := by omega
    rcases this with rfl | rfl | rfl | rfl | rfl | rfl | rfl | rfl | rfl <;> rfl
  rw [HT.out]
  dsimp only
  have mk := fun W => meth_kids o Hop.out W
  have nk := fun W => nil_kids o Hop.out W
  have fk := fun a W => call_kids o Hop.out a W
  have cK := Lib.hid (fun W => kidsI o Hop.out W)
  clear h h9 h11
  generalize kidsN o = kn at *
  go_enter Tryz.func109, Tryz.ntmps109
  go_wp2_with fail
  refine (opOf o _ Hop.out).mono ?_
  rintro e w2 ⟨rfl, d2⟩
  have HB := Lib.hid d2
  clear d2
  go_wp2_with fail
  refine (cK.out _).mono ?_
  rintro e w3 ⟨rfl, d3⟩
  go_wp2
  go_ret2
  exact ⟨rfl, HB.out.trans (d3.mono HB.out.size)⟩
def NextP (ts : List Nat) (w : World) (e : Ending) (w' : World) : Prop := ∃ gt : Nat, w.heap.size ≤ gt ∧ e = .returned (.slice (some ⟨gt, 0, none⟩) ts.length ts.length) ∧ Hid (∀ j, (hj : j < ts.length) → w'.cell? ⟨gt, j, none⟩ = some (.int .i64 (ts[j] : Int))) ∧ gt < w'.heap.size ∧ Below w.heap.size w w'
set_option maxHeartbeats 8000000 in
theorem vmNextI (o n : Int) (s : ByteArray) (ma : Option Addr) (mc : Nat) (ms : List (Int × Int)) (i : Nat) (w : World) (hi : i ≤ 1000) (hn : o = 9 ∨ o = 11 → 0 ≤ n ∧ n ≤ 1000) :
    Calls Tryz.prog 110 #[.agg #[.int .i64 o, .int .i64 n, .string s, .slice ma ms.length mc], .int .i64 (i : Int)] w (NextP (nextsV i ⟨o, n, s, ms⟩) w) := by
  have w1 : IntKind.i64.wrap ((i : Int) + 1) = (i : Int) + 1 := IntWalk.i64_in _ (by omega)
  have i0 : (0 : Int) ≤ i := by omega
  have hA : Hid (Below w.heap.size w (w.alloc (.cells #[.int .i64 o, .int .i64 n, .string s, .slice ma ms.length mc] 55))) := (Below.refl w.heap.size w).alloc (Nat.le_refl _) _
  by_cases h9 : o = 9
  · have b9 : (o == 9) = true := by simpa using h9
    have hn' := hn (Or.inl h9)
    have HN : Hid (nextsV i ⟨o, n, s, ms⟩ = [i + 1, i + 1 + n.toNat]) := by refine Lib.hid ?_; unfold nextsV; rw [if_pos (show o = 9 from h9)]
    rw [HN.out]
    clear hn h9
    go_enter Tryz.func110, Tryz.ntmps110
    go_wp2
    go_ret
    refine ⟨w.heap.size + 1, by omega, rfl, ?_, by simp only [World.size_alloc]; omega, hA.out.alloc (by simp only [World.size_alloc]; omega) _⟩
    refine Lib.hid ?_
    intro j hj
    have hz : (w.alloc (.cells #[.int .i64 o, .int .i64 n, .string s, .slice ma ms.length mc] 55)).heap.size = w.heap.size + 1 := World.size_alloc _ _
    rw [← hz, Lib.cell_of_heap (heap_alloc_new _ _)]
    have : j = 0 ∨ j = 1 := by simp at hj; omega
    rcases this with rfl | rfl
    · rfl
    · show some (Value.int .i64 ((i : Int) + 1 + n)) = some (Value.int .i64 ((i + 1 + n.toNat : Nat) : Int))
      rw [show (((i + 1 + n.toNat : Nat)) : Int) = (i : Int) + 1 + n from by omega]
  have b9 : (o == 9) = false := by simpa using h9
  by_cases h11 : o = 11
  · have b11 : (o == 11) = true := by simpa using h11
    have hn' := hn (Or.inr h11)
    have HN : Hid (nextsV i ⟨o, n, s, ms⟩ = [i + 1 + n.toNat]) := by refine Lib.hid ?_; unfold nextsV; rw [if_neg (show ¬ o = 9 from h9), if_pos (show o = 11 from h11)]
    rw [HN.out]
    clear hn h9 h11
    go_enter Tryz.func110, Tryz.ntmps110
    go_wp2
    go_ret
    refine ⟨w.heap.size + 1, by omega, rfl, ?_, by simp only [World.size_alloc]; omega, hA.out.alloc (by simp only [World.size_alloc]; omega) _⟩
    refine Lib.hid ?_
    intro j hj
    have hz : (w.alloc (.cells #[.int .i64 o, .int .i64 n, .string s, .slice ma ms.length mc] 55)).heap.size = w.heap.size + 1 := World.size_alloc _ _
    rw [← hz, Lib.cell_of_heap (heap_alloc_new _ _)]
    have : j = 0 := by simp at hj; omega
    subst this
    show some (Value.int .i64 ((i : Int) + 1 + n)) = some (Value.int .i64 ((i + 1 + n.toNat : Nat) : Int))
    rw [show (((i + 1 + n.toNat : Nat)) : Int) = (i : Int) + 1 + n from by omega]
  have b11 : (o == 11) = false := by simpa using h11
  have HN : Hid (nextsV i ⟨o, n, s, ms⟩ = [i + 1]) := by refine Lib.hid ?_; unfold nextsV; rw [if_neg (show ¬ o = 9 from h9), if_neg (show ¬ o = 11 from h11)]
  rw [HN.out]
  clear hn h9 h11
  go_enter Tryz.func110, Tryz.ntmps110
  go_wp2
  go_ret
  refine ⟨w.heap.size + 1, by omega, rfl, ?_, by simp only [World.size_alloc]; omega, hA.out.alloc (by simp only [World.size_alloc]; omega) _⟩
  refine Lib.hid ?_
  intro j hj
  have hz : (w.alloc (.cells #[.int .i64 o, .int .i64 n, .string s, .slice ma ms.length mc] 55)).heap.size = w.heap.size + 1 := World.size_alloc _ _
  rw [← hz, Lib.cell_of_heap (heap_alloc_new _ _)]
  have : j = 0 := by simp at hj; omega
  subst this
  rfl
def WaysP (ds : List Pl) (w : World) (e : Ending) (w' : World) : Prop := ∃ (b : Bool) (x : Int), e = .returned (.tuple #[.int .i64 x, .bool b]) ∧ Hid (b = (heightsV ds).isSome) ∧ Hid (∀ hs, heightsV ds = some hs → x = mxV hs) ∧ Below w.heap.size w w'
theorem WaysP.fail {ds : List Pl} {w w' : World} {x : Int} (hn : heightsV ds = none) (hB : Below w.heap.size w w') : WaysP ds w (.returned (.tuple #[.int .i64 x, .bool false])) w' :=
  ⟨false, x, rfl, Lib.hid (by rw [hn]; rfl), Lib.hid (fun hs h => by rw [hn] at h; cases h), hB⟩
set_option maxRecDepth 100000 in
set_option maxHeartbeats 32000000 in
theorem vmWaysI (a0 : Option Addr) (n cap : Nat) (ds : List Pl) (w : World) (h : PlsN All w a0 n ds) (hsm : ∀ d ∈ ds, SmallP d) (hall : AllV n 0 ds) (h0 : 1 ≤ n) (h80 : n ≤ 80) :
    Calls Tryz.prog 84 #[.slice a0 n cap] w (WaysP ds w) := by
  obtain ⟨it0, hi, hz0, hz1, hz2⟩ := info_parts infoIntV
  have H := Lib.hid h.lt
  have HSM := Lib.hid hsm
  have HALL := Lib.hid hall
  have HN : Hid (n = ds.length) := h.1
  have ew : IntKind.i64.wrap ((n : Int) + 1) = ((n + 1 : Nat) : Int) := by rw [IntWalk.i64_in _ (by omega)]; omega
  clear h hsm hall
  go_enter Tryz.func84, Tryz.ntmps84
  go_wp2_with (at_make; refine wpList_make_full _ rfl _ _ 71 rfl w.heap.size 3 it0 (.int .i64 0) 1 Tryz.underlying71 hi hz0 hz1 .i64 .i64 ((n : Int) + 1) ((n : Int) + 1) (n + 1) rfl rfl rfl rfl ?_ ?_ ?_ ?_; rw [hz2]; omega; unfold maxLen; omega; exact Nat.le_refl _; intro w1 hown1 hgrow1)
  have HB1 : Hid (Below w.heap.size w w1) := (Below.refl _ _).grown hgrow1 (Nat.le_refl _) (fun k e => by cases e)
  have hR1 : Hid (∀ g, w.heap.size = g → HighR w1 w.heap.size g (n + 1) (n + 1) (fillV n 0)) := by
    refine Lib.hid ?_
    rintro g rfl
    refine ⟨(fillV_len (Nat.zero_le _)).symm, ?_⟩
    have e : (madeCells (Value.int IntKind.i64 0).cells ((n + 1) * 1)).toList = (fillV n 0).map (Value.int .i64) := by
      rw [fillV_zero, Nat.mul_one, List.map_replicate]
      exact toList_madeCells_one _ _
    rw [← e]; exact hown1
  clear hown1 hgrow1
  generalize hgg : w.heap.size = g
  have hg0 : w.heap.size ≤ g := by omega
  have hR0 := Lib.hid (hR1.out g hgg)
  clear hR1 hgg
  go_wp2_with fail
  go_loopw [20] (fun vi wr => ∃ k : Nat, k ≤ n ∧ vi = .int .i64 k ∧ HighR wr w.heap.size g (n + 1) (n + 1) (fillV n k) ∧ Below w.heap.size w wr) (fun vi _ => n - (intOf vi).toNat)
  case atStart => exact ⟨0, Nat.zero_le _, rfl, hR0.out, HB1.out⟩
  case round =>
    obtain ⟨k, hk, rfl, hR, hb⟩ := hrel
    rcases Nat.lt_or_ge k n with hlt | hge
    · have k1 : (k : Int) < n := by omega
      have k0 : (0 : Int) ≤ k := by omega
      have ew1 : IntKind.i64.wrap ((k : Int) + 1) = ((k + 1 : Nat) : Int) := by rw [IntWalk.i64_in _ (by omega)]; omega
      have ew2 : (k : Int) + 1 < (n : Int) + 1 := by omega
      have c0 := hR.at (i := k + 1) (by omega)
      have fz := hR.2.frozenAt (k + 1)
      have HSET := hR.set (k + 1) (-1)
      rw [fillV_set hlt] at HSET
      have HS := Lib.hid HSET
      have hb2 : Below w.heap.size w (wr.setCell ⟨g, k + 1, none⟩ (.int .i64 (-1))) := hb.setCell hg0 _
      have HB2 := Lib.hid hb2
      clear HSET hR hb hb2
      generalize hvv : (fillV n k).getD (k + 1) 0 = vv at c0
      go_wp2_with fail
      go_roundw
      case rel => exact ⟨k + 1, by omega, by go_num, HS.out, HB2.out⟩
      case measure => simp [intOf]; omega
    · obtain rfl : k = n := by omega
      rw [fillV_all] at hR
      have HR0 := Lib.hid hR
      have HB0 := Lib.hid hb
      clear hR hb hR0 HB1
      generalize wr = wo at *
      go_wp2_with fail
      go_loopw [6, 30] (fun vd vi wr => ∃ (j : Nat) (hs : List Int), j ≤ k ∧ vi = .int .i64 j ∧ vd = .int .i64 (mxV hs) ∧ HighR wr w.heap.size g (k + 1) (k + 1) hs ∧ Hid (runV k j (ds.drop j) hs = runV k 0 ds (firstV k)) ∧ Hid (InV hs) ∧ Below w.heap.size w wr) (fun _ vi _ => k - (intOf vi).toNat)
      case atStart => exact ⟨0, firstV k, Nat.zero_le _, rfl, by rw [mxV_first], HR0.out, by show _ = _; rw [List.drop_zero], inV_first k, HB0.out⟩
      case round =>
        obtain ⟨j, hs, hj, rfl, rfl, hR, hrun, hin, hb⟩ := hrel
        have HR := Lib.hid hR
        have HB := Lib.hid hb
        have hszr := hb.size
        have HDP : Hid (mxV hs = mxV hs ∧ 0 ≤ mxV hs ∧ mxV hs ≤ 12) := ⟨rfl, mxV_nn _, mxV_le hin.out⟩
        clear hR hb
        obtain ⟨dp, hdp⟩ : ∃ dp, mxV hs = dp := ⟨_, rfl⟩
        have HDE := Lib.hid hdp
        have hdb : 0 ≤ dp ∧ dp ≤ 12 := by have := HDP.out; omega
        rw [hdp]
        clear hdp HDP
        rcases Nat.lt_or_ge j k with hlt | hge
        · have hkl : j < ds.length := by have := HN.out; omega
          have k1 : (j : Int) < k := by omega
          have k0 : (0 : Int) ≤ j := by omega
          have k2 : (j : Int) < (k : Int) + 1 := by omega
          have hsmk := HSM.out ds[j] (List.getElem_mem _)
          have HRD := Lib.hid (runV_drop (q := k) hkl hs)
          have hal := allV_get HALL.out j hkl
          rw [Nat.zero_add] at hal
          obtain ⟨b, off, rfl, hbn, hbl, hrow⟩ := H.out.cells (by omega)
          obtain ⟨f, hcf, ht⟩ := hrow j hkl
          obtain ⟨e1, e2, e3, hm, hc2⟩ := ht
          generalize hd : ds[j] = d at *
          obtain ⟨o, nn, s, ms⟩ := d
          obtain ⟨fo, fn, fs, ma, ml, mc⟩ := f
          dsimp only at e1 e2 e3 hm hc2 hal
          have q1 := e1.symm
          have q2 := e2.symm
          have q3 := e3.symm
          clear e1 e2 e3
          subst q1 q2 q3
          obtain rfl := hm.1
          have HC : Hid (∀ W, Below w.heap.size w W → CellsI W b (off + j * 4) ⟨o, nn, s, ma, ms.length, mc⟩) := fun W hW => hcf.kept (hW.block b hbn)
          have HO := Lib.hid hal.1
          have HH := Lib.hid hal.2
          have HNO : Hid (stepV k j ⟨o, nn, s, ms⟩ hs = none → heightsV ds = none) := fun hst => by
            unfold heightsV
            rw [← HN.out, ← hrun.out, HRD.out, hst]; rfl
          have HGO : Hid (∀ hs', stepV k j ⟨o, nn, s, ms⟩ hs = some hs' → runV k (j + 1) (ds.drop (j + 1)) hs' = runV k 0 ds (firstV k)) := fun hs' hst => by
            rw [← hrun.out, HRD.out, hst]; rfl
          have hvin := inV_getD hin.out j
          have HTB := Lib.hid (takes_bd o)
          have hT := Lib.hid (fun W => vmTakesI o W HO.out)
          have HS0 : Hid (stepV k j ⟨o, nn, s, ms⟩ hs = if hs.getD j 0 < 0 then some hs else if hs.getD j 0 < (takesV o).1 ∨ 12 < hs.getD j 0 - (takesV o).1 + (takesV o).2 then none else marksL (nextsV j ⟨o, nn, s, ms⟩) (hs.getD j 0 - (takesV o).1 + (takesV o).2) hs) := by
            refine Lib.hid ?_
            unfold stepV
            rw [if_neg (fun hh => by rcases hh with hh | hh; exact takes_nn.2 HO.out hh; exact hh HH.out), ← marksL_eq]
            rfl
          have HNX := Lib.hid (fun W => vmNextI o nn s ma mc ms j W (by omega) (fun h => by have hh := HH.out; unfold HoldsV at hh; rw [if_pos h] at hh; have := hh.1; omega))
          have HTL := Lib.hid (nexts_len j ⟨o, nn, s, ms⟩)
          have HTS := Lib.hid (nexts_le (d := ⟨o, nn, s, ms⟩) (q := k) (i := j) HH.out hlt)
          generalize nextsV j ⟨o, nn, s, ms⟩ = ts at *
          generalize takesV o = tk at *
          obtain ⟨t1, t2⟩ := tk
          have htb := HTB.out
          dsimp only at htb hT HS0
          have c0 := HR.out.at (i := j) (by omega)
          generalize hv : hs.getD j 0 = v at *
          clear hrow hcf hm hc2 hd hal hbl hsmk
          obtain ⟨y0, y1, y2, y3⟩ := HC.out wr HB.out
          dsimp only at y0 y1 y2 y3
          go_upto_region 11 with fail
          have hWA : Below wr.heap.size wr (wr.alloc (.cells #[.int .i64 o, .int .i64 nn, .string s, .slice ma ms.length mc] 55)) := (Below.refl _ _).alloc (Nat.le_refl _) _
          have HX : Hid ((wr.alloc (.cells #[.int .i64 o, .int .i64 nn, .string s, .slice ma ms.length mc] 55)).heap[wr.heap.size]? = some (.cells #[.int .i64 o, .int .i64 nn, .string s, .slice ma ms.length mc] 55 (0, 0))) := heap_alloc_new wr _
          have HB1 := Lib.hid (HB.out.trans (hWA.mono hszr))
          have HR1 : Hid (HighR (wr.alloc (.cells #[.int .i64 o, .int .i64 nn, .string s, .slice ma ms.length mc] 55)) w.heap.size g (k + 1) (k + 1) hs) := ⟨HR.out.1, HR.out.2.kept (row := none) (below_grownM hWA) (Or.inr (by simp [Value.ownBlock]))⟩
          have HBW : Hid (wr.heap.size < (wr.alloc (.cells #[.int .i64 o, .int .i64 nn, .string s, .slice ma ms.length mc] 55)).heap.size) := by refine Lib.hid ?_; simp only [World.size_alloc]; omega
          have HBG : Hid (wr.heap.size ≠ g) := by refine Lib.hid ?_; have := (HR.out.2.lt g rfl).2; omega
          clear c0 y0 y1 y2 y3 hWA HR HB
          generalize (wr.alloc (.cells #[.int .i64 o, .int .i64 nn, .string s, .slice ma ms.length mc] 55)) = W1 at *
          generalize wr.heap.size = bx at *
          have c0 := HR1.out.at (i := j) (by omega)
          rw [hv] at c0
          have HV := Lib.hid hv
          clear hv
          by_cases c2 : v = -1
          · have z3 : (v == -1) = true := by simpa using c2
            have HST : Hid (stepV k j ⟨o, nn, s, ms⟩ hs = some hs) := by show _ = _; rw [HS0.out, if_pos (by omega)]
            clear c2
            go_wp2_with fail
            go_roundw
            case rel => exact ⟨j + 1, hs, by omega, by go_num, by rw [HDE.out], HR1.out, HGO.out _ HST.out, hin, HB1.out⟩
            case measure => simp [intOf]; omega
          have z3 : (v == -1) = false := by simpa using c2
          have HS1 : Hid (stepV k j ⟨o, nn, s, ms⟩ hs = if v < t1 ∨ 12 < v - t1 + t2 then none else marksL ts (v - t1 + t2) hs) := by refine Lib.hid ?_; rw [HS0.out, if_neg (by omega)]
          have hv0 : 0 ≤ v := by omega
          have en1 : IntKind.i64.wrap (v - t1) = v - t1 := IntWalk.i64_in _ (by omega)
          have en2 : IntKind.i64.wrap (v - t1 + t2) = v - t1 + t2 := IntWalk.i64_in _ (by omega)
          have y0 : W1.cell? ⟨bx, 0, none⟩ = some (.int .i64 o) := by rw [Lib.cell_of_heap HX.out]; rfl
          clear c2
          go_wp2_with fail
          refine (hT.out W1).mono ?_
          rintro e W2 ⟨rfl, d2⟩
          have HB2 := Lib.hid (HB1.out.trans (d2.mono HB1.out.size))
          have HX2 := Lib.hid ((d2.block _ HBW.out).trans HX.out)
          have HR2 : Hid (HighR W2 w.heap.size g (k + 1) (k + 1) hs) := ⟨HR1.out.1, HR1.out.2.kept (row := none) (below_grownM d2) (Or.inr (by simp [Value.ownBlock]))⟩
          have HBW2 : Hid (bx < W2.heap.size) := Nat.lt_of_lt_of_le HBW.out d2.size
          clear d2 y0 c0
          have c0 := HR2.out.at (i := j) (by omega)
          rw [HV.out] at c0
          by_cases c3 : v < t1 ∨ 12 < v - t1 + t2
          · have HST : Hid (stepV k j ⟨o, nn, s, ms⟩ hs = none) := by show _ = _; rw [HS1.out, if_pos c3]
            by_cases c4 : v < t1
            · have z4 : decide (v < t1) = true := decide_eq_true c4
              go_wp2
              go_ret2
              exact WaysP.fail (HNO.out HST.out) HB2.out
            · have z4 : decide (v < t1) = false := decide_eq_false c4
              have z5 : decide (12 < v - t1 + t2) = true := decide_eq_true (by omega)
              go_wp2
              go_ret2
              exact WaysP.fail (HNO.out HST.out) HB2.out
          have z4 : decide (v < t1) = false := decide_eq_false (fun x => c3 (Or.inl x))
          have z5 : decide (12 < v - t1 + t2) = false := decide_eq_false (fun x => c3 (Or.inr x))
          have HS2 : Hid (stepV k j ⟨o, nn, s, ms⟩ hs = marksL ts (v - t1 + t2) hs) := by refine Lib.hid ?_; rw [HS1.out, if_neg c3]
          have hl0 : 0 ≤ v - t1 + t2 ∧ v - t1 + t2 ≤ 12 := by omega
          have x0 : W2.cell? ⟨bx, 0, none⟩ = some (.int .i64 o) := by rw [Lib.cell_of_heap HX2.out]; rfl
          have x1 : W2.cell? ⟨bx, 1, none⟩ = some (.int .i64 nn) := by rw [Lib.cell_of_heap HX2.out]; rfl
          have x2 : W2.cell? ⟨bx, 2, none⟩ = some (.string s) := by rw [Lib.cell_of_heap HX2.out]; rfl
          have x3 : W2.cell? ⟨bx, 3, none⟩ = some (.slice ma ms.length mc) := by rw [Lib.cell_of_heap HX2.out]; rfl
          clear c3
          go_wp2_with fail
          refine (HNX.out W2).mono ?_
          rintro e W3 ⟨gt, hgt, rfl, hct, hgt3, d3⟩
          have HB3 := Lib.hid (HB2.out.trans (d3.mono HB2.out.size))
          have HR3 : Hid (HighR W3 w.heap.size g (k + 1) (k + 1) hs) := ⟨HR2.out.1, HR2.out.2.kept (row := none) (below_grownM d3) (Or.inr (by simp [Value.ownBlock]))⟩
          have HNE : Hid (gt ≠ g) := by refine Lib.hid ?_; have := (HR2.out.2.lt g rfl).2; omega
          have HGT := Lib.hid hgt3
          clear c0 x0 x1 x2 x3 d3 hgt3 hgt z3 z4 z5 en1 en2
          generalize hL : v - t1 + t2 = L at *
          have hL0 := hl0
          clear hl0 hL
          go_wp2_with fail
          go_loopw [71] (fun vq wr => ∃ (q : Nat) (hs2 : List Int), q ≤ ts.length ∧ vq = .int .i64 q ∧ HighR wr w.heap.size g (k + 1) (k + 1) hs2 ∧ Hid (marksL (ts.drop q) L hs2 = marksL ts L hs) ∧ Hid (InV hs2) ∧ Hid (mxV hs2 = if q = 0 then dp else max dp L) ∧ W3.grownBy wr (some g)) (fun vq _ => ts.length - (intOf vq).toNat)
          case atStart => exact ⟨0, hs, Nat.zero_le _, rfl, HR3.out, by show _ = _; rw [List.drop_zero], hin, by show _ = _; rw [if_pos rfl]; exact HDE.out, grown_any (Below.refl _ _)⟩
          case round =>
            obtain ⟨q, hs2, hq, rfl, hR, hml, hin2, hmx, hgr⟩ := hrel
            have HRq := Lib.hid hR
            have HGq := Lib.hid hgr
            have hlen2 : hs2.length = k + 1 := hR.1.symm
            have hts2 : ts.length ≤ 2 := HTL.out.2
            clear hR hgr
            rcases Nat.lt_or_ge q ts.length with hqlt | hqge
            · have q1 : (q : Int) < ts.length := by omega
              have q0 : (0 : Int) ≤ q := by omega
              have ct := (World.cell?_of_block (a := ⟨gt, q, none⟩) (HGq.out.block gt HGT.out (by intro e; simp only [Option.some.injEq] at e; exact HNE.out e))).trans (hct.out q hqlt)
              have htk : ts[q] ≤ k := HTS.out _ (List.getElem_mem _)
              have HMD := Lib.hid (marksL_drop hqlt L hs2)
              generalize ts[q] = t at *
              have t0 : (0 : Int) ≤ (t : Int) := by omega
              have t1' : (t : Int) < (k : Int) + 1 := by omega
              have ch := HRq.out.at (i := t) (by omega)
              have fz := HRq.out.2.frozenAt t
              have HSET := Lib.hid (HRq.out.set t L)
              have HGS := Lib.hid (grown_trans HGq.out (grown_set wr ⟨g, t, none⟩ (.int .i64 L)))
              by_cases hbad : hs2.getD t 0 ≠ -1 ∧ hs2.getD t 0 ≠ L
              · have HST : Hid (stepV k j ⟨o, nn, s, ms⟩ hs = none) := by
                  refine Lib.hid ?_
                  rw [HS2.out, ← hml.out, HMD.out, if_neg (by rw [markV_no hin2.out hbad]; decide)]
                generalize hs2.getD t 0 = u at *
                have z6 : (u != -1) = true := by simpa using hbad.1
                have z7 : (u != L) = true := by simpa using hbad.2
                have HBX : Hid (Below w.heap.size w wr) := HB3.out.grown HGq.out HB3.out.size (fun i e => by cases e; exact hg0)
                clear hbad
                go_wp2
                go_ret2
                exact WaysP.fail (HNO.out HST.out) HBX.out
              have hmk := markV_ok hin2.out (i := t) (by omega) (n := L) hL0.1 hbad
              have hmk1 := Lib.hid hmk.1
              have hmk2 := Lib.hid hmk.2
              have HIN3 : Hid (InV (hs2.set t L)) := by
                have := inV_mark hin2.out t (n := L) (by omega) hL0.2
                rw [hmk1.out] at this
                exact this
              have HML3 : Hid (marksL (ts.drop (q + 1)) L (hs2.set t L) = marksL ts L hs) := by
                refine Lib.hid ?_
                rw [← hml.out, HMD.out, hmk1.out]
                rfl
              have HMX3 : Hid (mxV (hs2.set t L) = if q + 1 = 0 then dp else max dp L) := by
                refine Lib.hid ?_
                rw [hmk2.out, hmx.out, if_neg (show ¬ (q + 1 = 0) by omega)]
                split <;> omega
              clear hmk
              generalize hs2.getD t 0 = u at *
              by_cases hu : u = -1
              · have z6 : (u != -1) = false := by simpa using hu
                clear hu hbad
                go_wp2_with fail
                go_roundw
                case rel => exact ⟨q + 1, _, by omega, by go_num, HSET.out, HML3, HIN3, HMX3, HGS.out⟩
                case measure => simp [intOf]; omega
              · have z6 : (u != -1) = true := by simpa using hu
                have z7 : (u != L) = false := by
                  have : u = L := Classical.byContradiction fun x => hbad ⟨hu, x⟩
                  simpa using this
                clear hu hbad
                go_wp2_with fail
                go_roundw
                case rel => exact ⟨q + 1, _, by omega, by go_num, HSET.out, HML3, HIN3, HMX3, HGS.out⟩
                case measure => simp [intOf]; omega
            · obtain rfl : q = ts.length := by omega
              have HST : Hid (stepV k j ⟨o, nn, s, ms⟩ hs = some hs2) := by
                refine Lib.hid ?_
                rw [HS2.out, ← hml.out, List.drop_length, marksL]
              have HMF : Hid (max dp L = mxV hs2) := by
                refine Lib.hid ?_
                rw [hmx.out, if_neg (by have := HTL.out; omega)]
              have HBX : Hid (Below w.heap.size w wr) := HB3.out.grown HGq.out HB3.out.size (fun i e => by cases e; exact hg0)
              go_wp2_with fail
              go_roundw
              case rel => exact ⟨j + 1, hs2, by omega, by go_num, by rw [HMF.out], HRq.out, HGO.out _ HST.out, hin2, HBX.out⟩
              case measure => simp [intOf]; omega
        · obtain rfl : j = k := by omega
          have c0 := HR.out.at (i := j) (by omega)
          have hrn : runV j j (ds.drop j) hs = some hs := by rw [List.drop_of_length_le (by have := HN.out; omega), runV]
          have HH : Hid (heightsV ds = if hs.getD j 0 = 1 then some hs else none) := by
            show _ = _
            unfold heightsV
            rw [← HN.out, ← hrun.out, hrn]; rfl
          have k1 : (j : Int) < (j : Int) + 1 := by omega
          have k0 : (0 : Int) ≤ j := by omega
          clear hrn hrun
          generalize hs.getD j 0 = v at *
          cases hv : (v == 1) with
          | true =>
            have HST : Hid (heightsV ds = some hs) := by show _ = _; rw [HH.out, if_pos (by simpa using hv)]
            go_wp2_with fail
            go_region
            all_goals
              go_wp2
              go_ret2
              refine ⟨true, _, rfl, Lib.hid (by rw [HST.out]; rfl), Lib.hid (fun hs' h' => ?_), ⟨HB.out.os, HB.out.tape, HB.out.output, HB.out.size, HB.out.block⟩⟩
              rw [HST.out] at h'
              cases h'
              exact HDE.out.symm
          | false =>
            have HST : Hid (heightsV ds = none) := by show _ = _; rw [HH.out, if_neg (by simpa using hv)]
            go_wp2_with fail
            go_region
            all_goals
              go_wp2
              go_ret2
              exact WaysP.fail HST.out ⟨HB.out.os, HB.out.tape, HB.out.output, HB.out.size, HB.out.block⟩
end Go.Proofs.YtjphjnopdlfplaaGreatDoor

namespace Go.Proofs.YtjphjnopdlfplaaGreatDoor
open Go.RowKit
set_option linter.unusedVariables false
set_option linter.unusedSimpArgs false

def rowR (f : Fld) : List Value := [.int .i64 f.op, .int .i64 f.num, .string f.name, .slice f.ka f.kl f.kc, .slice f.ma f.ml f.mc]
def rowsR (fs : List Fld) : List Value := fs.flatMap rowR
theorem rowsR_len (fs : List Fld) : (rowsR fs).length = fs.length * 5 := by
  unfold rowsR
  induction fs with
  | nil => rfl
  | cons f r ih => rw [List.flatMap_cons, List.length_append, ih]; simp [rowR]; omega
theorem rowsR_get (fs : List Fld) (i m : Nat) (h : i < fs.length) (hm : m < 5) : (rowsR fs)[i * 5 + m]? = (rowR fs[i])[m]? := by
  induction fs generalizing i with
  | nil => simp at h
  | cons f r ih =>
    unfold rowsR at ih ⊢
    rw [List.flatMap_cons]
    cases i with
    | zero =>
      have : m < (rowR f).length := by simp [rowR]; omega
      rw [Nat.zero_mul, Nat.zero_add, List.getElem?_append_left this]; rfl
    | succ i =>
      have e : (i + 1) * 5 + m = (rowR f).length + (i * 5 + m) := by simp [rowR]; omega
      rw [e, List.getElem?_append_right (by omega), Nat.add_sub_cancel_left, ih i (by simpa using h)]
      rfl
theorem rowsR_snoc (fs : List Fld) (f : Fld) : rowsR fs ++ rowR f = rowsR (fs ++ [f]) := by simp [rowsR]
theorem infoRuleK : (Tryz.prog.info? 39).map (fun i => (i.zero, i.size, i.bytes)) = some (some (.agg #[.int .i64 0, .int .i64 0, .string ⟨#[]⟩, .slice none 0 0, .slice none 0 0]), 5, 80) := by kernel_rfl
/-- Kids in a row of one's own, what is in them in memory from B on that is not the row's. -/
def KidsO (B : Nat) (w : World) (v : Value) (ts : List Tr) : Prop :=
  ∃ fs : List Fld, fs.length = ts.length ∧ w.ownsRow B 39 5 v ts.length (rowsR fs) ∧ ∀ j, (h : j < ts.length) → ∃ f, fs[j]? = some f ∧ TrF (fun x => B ≤ x ∧ v.ownBlock ≠ some x) w ts[j] f
theorem kidsO_nil (B : Nat) (w : World) : KidsO B w (.slice none 0 0) [] := ⟨[], rfl, World.ownsRow_nil _ _ _ _, fun j h => by simp at h⟩
theorem own_rowKept {w w' : World} {B : Nat} {e : TypeId} {z : Nat} {v : Value} {n : Nat} {xs : List Value} {row : Option Nat} (h : w.ownsRow B e z v n xs) (hg : w.grownBy w' row) (hr : ∀ b, row = some b → v.ownBlock ≠ some b) : w'.ownsRow B e z v n xs := by
  refine h.kept hg ?_
  cases hb : v.ownBlock with
  | none => exact Or.inl rfl
  | some b => exact Or.inr fun e => hr b e.symm hb
theorem KidsO.kept {B : Nat} {w w' : World} {v : Value} {ts : List Tr} {row : Option Nat} (h : KidsO B w v ts) (hg : w.grownBy w' row) (hr : ∀ b, row = some b → b < B) : KidsO B w' v ts := by
  obtain ⟨fs, h1, h2, h3⟩ := h
  refine ⟨fs, h1, own_rowKept h2 hg (fun b hb e => by have := (h2.lt b e).1; have := hr b hb; omega), fun j hj => ?_⟩
  obtain ⟨f, e, ht⟩ := h3 j hj
  exact ⟨f, e, ht.kept ⟨hg.size, fun b hb hl => hg.block b hl (fun e => by have := hr b e.symm; have := hb.1; omega)⟩⟩
theorem KidsO.below {B : Nat} {w w' : World} {v : Value} {ts : List Tr} (h : KidsO B w v ts) (hb : Below w.heap.size w w') : KidsO B w' v ts := h.kept (row := none) (grown_any hb) (fun b e => by cases e)
theorem KidsO.mono {B B' : Nat} {w : World} {v : Value} {ts : List Tr} (h : KidsO B w v ts) (hB : B' ≤ B) : KidsO B' w v ts := by
  obtain ⟨fs, h1, h2, h3⟩ := h
  refine ⟨fs, h1, ⟨h2.1, h2.2.imp id fun ⟨g, cap, cur, q1, q2, q3⟩ => ⟨g, cap, cur, q1, Nat.le_trans hB q2, q3⟩⟩, fun j hj => ?_⟩
  obtain ⟨f, e, ht⟩ := h3 j hj
  exact ⟨f, e, TrF.mono (fun b hb => ⟨Nat.le_trans hB hb.1, hb.2⟩) _ _ ht⟩
theorem KidsO.form {B : Nat} {w : World} {v : Value} {ts : List Tr} (h : KidsO B w v ts) : ∃ a c, v = .slice a ts.length c := by
  obtain ⟨fs, h1, h2, h3⟩ := h
  rcases h2.2 with ⟨h, h0⟩ | ⟨g, cap, cur, h, -⟩
  · exact ⟨none, 0, by rw [h, h0]⟩
  · exact ⟨_, _, h⟩
theorem own_cap {w : World} {B : Nat} {e : TypeId} {z n m c : Nat} {a : Option Addr} {xs : List Value} (h : w.ownsRow B e z (.slice a m c) n xs) : m ≤ c := by
  rcases h.2 with ⟨h, h0⟩ | ⟨g, cap, cur, h, -, -, hl, -⟩
  · injection h with h1 h2 h3; omega
  · injection h with h1 h2 h3; omega
/-- .. read as a row of kids. -/
theorem KidsO.rows {B : Nat} {w : World} {a : Option Addr} {n c : Nat} {ts : List Tr} (h : KidsO B w (.slice a n c) ts) : n = ts.length ∧ n ≤ c ∧ RowsT (fun x => B ≤ x) w a ts.length ts := by
  obtain ⟨fs, h1, h2, h3⟩ := h
  have hc := own_cap h2
  rcases h2.2 with ⟨e, e0⟩ | ⟨g, cap, cur, e, hg, hh, -⟩
  · injection e with e1 e2 e3
    subst e1 e2
    exact ⟨e0.symm, hc, rfl, Or.inl e0⟩
  · injection e with e1 e2 e3
    subst e1 e2 e3
    have hgl := (h2.lt g rfl).2
    refine ⟨rfl, hc, rowsT_of hg hgl fun j hj => ?_⟩
    obtain ⟨f, hf, ht⟩ := h3 j hj
    have hjf := (List.getElem?_eq_some_iff.1 hf).1
    have ef : fs[j] = f := (List.getElem?_eq_some_iff.1 hf).2
    have key : ∀ m, m < 5 → w.cell? ⟨g, j * 5 + m, none⟩ = (rowR f)[m]? := fun m hm => by
      rw [h2.cellAt (j * 5 + m) (by omega), rowsR_get fs j m hjf hm, ef]
    refine ⟨f, ⟨?_, ?_, ?_, ?_, ?_⟩, TrF.mono (fun b hb => hb.1) _ _ ht⟩
    · rw [Nat.zero_add]; exact key 0 (by omega)
    · rw [Nat.zero_add]; exact key 1 (by omega)
    · rw [Nat.zero_add]; exact key 2 (by omega)
    · rw [Nat.zero_add]; exact key 3 (by omega)
    · rw [Nat.zero_add]; exact key 4 (by omega)
/-- One more kid behind the others. -/
theorem KidsO.snoc {B : Nat} {w w' : World} {v : Value} {ts : List Tr} {fs : List Fld} {t : Tr} {f : Fld} {g cap : Nat} (h1 : fs.length = ts.length) (h2 : w.ownsRow B 39 5 v ts.length (rowsR fs))
    (h3 : ∀ j, (h : j < ts.length) → ∃ f, fs[j]? = some f ∧ TrF (fun x => B ≤ x ∧ v.ownBlock ≠ some x) w ts[j] f) (ht : TrF (fun x => B ≤ x ∧ v.ownBlock ≠ some x) w t f)
    (hown : w'.ownsRow B 39 5 (.slice (some ⟨g, 0, none⟩) (ts.length + 1) cap) (ts.length + 1) (rowsR fs ++ rowR f)) (hg : w.grownBy w' v.ownBlock) (hat : v.ownBlock = some g ∨ g = w.heap.size) :
    KidsO B w' (.slice (some ⟨g, 0, none⟩) (ts ++ [t]).length cap) (ts ++ [t]) := by
  have hsame : Same (fun x => (B ≤ x ∧ v.ownBlock ≠ some x) ∧ x < w.heap.size) w w' := ⟨hg.size, fun b hb hl => hg.block b hl (fun e => hb.1.2 e.symm)⟩
  have up : ∀ t f, TrF (fun x => B ≤ x ∧ v.ownBlock ≠ some x) w t f → TrF (fun x => B ≤ x ∧ (Value.slice (some ⟨g, 0, none⟩) (ts ++ [t]).length cap).ownBlock ≠ some x) w' t f := fun t f k => by
    refine TrF.mono (fun b hb => ⟨hb.1.1, fun e => ?_⟩) _ _ ((TrF.lt t f k).kept hsame)
    simp [Value.ownBlock] at e
    subst e
    rcases hat with h | h
    · exact hb.1.2 h
    · have := hb.2; omega
  rw [show (ts ++ [t]).length = ts.length + 1 by simp] at *
  refine ⟨fs ++ [f], by simp [h1], by rw [← rowsR_snoc]; simpa using hown, fun j hj => ?_⟩
  by_cases e : j < ts.length
  · obtain ⟨f', e1, e2⟩ := h3 j e
    refine ⟨f', by rw [List.getElem?_append_left (by omega)]; exact e1, ?_⟩
    rw [List.getElem_append_left e]
    exact up _ _ e2
  · have : j = ts.length := by simp at hj; omega
    subst this
    refine ⟨f, by rw [← h1]; simp, ?_⟩
    simp only [List.getElem_append_right (Nat.le_refl _), Nat.sub_self, List.getElem_cons_zero]
    exact up _ _ ht
/-- A kid laid by itself, to be put behind others. -/
theorem one_kid {w : World} (f : Fld) {gx : Nat} (hx : w.heap[gx]? = some (.cells (rowR f).toArray 39 (0, 0))) : ∀ j u, (rowR f)[j]? = some u → w.cell? ((⟨gx, 0, none⟩ : Addr).add j) = some u := by
  intro j u hj
  have e : (⟨gx, 0, none⟩ : Addr).add j = ⟨gx, j, none⟩ := by by_cases h0 : j = 0 <;> simp [Addr.add, h0]
  rw [e]
  unfold World.cell?
  rw [hx]
  simpa using hj
theorem rowR_one (f : Fld) : ∀ u ∈ rowR f, u.oneCell' = true := by
  intro u hu
  simp only [rowR, List.mem_cons, List.not_mem_nil, or_false] at hu
  rcases hu with rfl | rfl | rfl | rfl | rfl <;> rfl
end Go.Proofs.YtjphjnopdlfplaaGreatDoor
