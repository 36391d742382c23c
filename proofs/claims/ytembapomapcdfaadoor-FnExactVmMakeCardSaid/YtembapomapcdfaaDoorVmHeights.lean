/-
  What a program has at hand: the model's walk.
-/
import Derived.Test.YtembapomapcdfaaDoorVmMath
import Derived.Deep.AppendLies
import Derived.Deep.Cut
namespace Go.Proofs.YtembapomapcdfaaDoor
open Go.RowKit
set_option linter.unusedVariables false
set_option linter.unusedSimpArgs false

theorem infoIntV : (Tryd.prog.info? 3).map (fun i => (i.zero, i.size, i.bytes)) = some (some (.int .i64 0), 1, 8) := by kernel_rfl
theorem PlsN.lt {w : World} {a : Option Addr} {n : Nat} {ds : List Pl} (h : PlsN All w a n ds) : PlsN (fun b => b < w.heap.size) w a n ds := by
  obtain ⟨h1, h2⟩ := h
  refine ⟨h1, ?_⟩
  rcases h2 with h | ⟨b, off, k1, k2, k3, k4⟩
  · exact Or.inl h
  · refine Or.inr ⟨b, off, k1, k3, k3, fun j hj => ?_⟩
    obtain ⟨f, c, t⟩ := k4 j hj
    refine ⟨f, c, t.1, t.2.1, t.2.2.1, ?_, t.2.2.2.2⟩
    obtain ⟨m1, m2⟩ := t.2.2.2.1
    refine ⟨m1, ?_⟩
    rcases m2 with m | ⟨b', off', l1, l2, l3, l4⟩
    · exact Or.inl m
    · exact Or.inr ⟨b', off', l1, l3, l3, l4⟩
theorem same_lt {B : Nat} {w w' : World} (h : Below B w w') (hB : B ≤ w.heap.size) : Same (fun b => b < B) w w' := ⟨h.size, fun b hb _ => h.block b hb⟩
def HeightsP (ds : List Pl) (w : World) (e : Ending) (w' : World) : Prop := ∃ (b : Bool) (v : Value), e = .returned (.tuple #[v, .bool b]) ∧ Hid (b = (heightsV ds).isSome) ∧ Hid (∀ hs, heightsV ds = some hs → ∃ g c, w.heap.size ≤ g ∧ v = .slice (some ⟨g, 0, none⟩) (ds.length + 1) c ∧ HighR w' w.heap.size g (ds.length + 1) c hs) ∧ Below w.heap.size w w'
theorem HeightsP.fail {ds : List Pl} {w w' : World} {v : Value} (hn : heightsV ds = none) (hB : Below w.heap.size w w') : HeightsP ds w (.returned (.tuple #[v, .bool false])) w' :=
  ⟨false, v, rfl, Lib.hid (by rw [hn]; rfl), Lib.hid (fun hs h => by rw [hn] at h; cases h), hB⟩
theorem HeightsP.good {ds : List Pl} {w w' : World} {g c : Nat} {hs : List Int} (hn : heightsV ds = some hs) (hg : w.heap.size ≤ g) (hR : HighR w' w.heap.size g (ds.length + 1) c hs) (hB : Below w.heap.size w w') : HeightsP ds w (.returned (.tuple #[.slice (some ⟨g, 0, none⟩) (ds.length + 1) c, .bool true])) w' :=
  ⟨true, _, rfl, Lib.hid (by rw [hn]; rfl), Lib.hid (fun hs' h => by rw [hn] at h; cases h; exact ⟨g, c, hg, rfl, hR⟩), hB⟩
set_option maxRecDepth 100000 in
set_option maxHeartbeats 32000000 in
theorem specHeights (a0 : Option Addr) (n cap : Nat) (ds : List Pl) (w : World) (h : PlsN All w a0 n ds) (hsm : ∀ d ∈ ds, SmallP d) (h0 : 1 ≤ n) (h80 : n ≤ 80) :
    Calls Tryd.prog 54 #[.slice a0 n cap] w (HeightsP ds w) := by
  obtain ⟨it0, hi, hz0, hz1, hz2⟩ := info_parts infoIntV
  have H := Lib.hid h.lt
  have HSM := Lib.hid hsm
  have HN : Hid (n = ds.length) := h.1
  have hownM : (w.alloc (.cells #[] 3)).ownsRow w.heap.size 3 1 (.slice (some ⟨w.heap.size, 0, none⟩) 0 0) 0 [] := World.ownsRow_made w #[] 0 (Nat.le_refl _) (by unfold maxLen; omega) rfl
  have hB1 : Below w.heap.size w (w.alloc (.cells #[] 3)) := (Below.refl _ _).alloc (Nat.le_refl _) _
  clear h hsm
  go_enter Tryd.func54, Tryd.ntmps54
  go_wp2_with fail
  go_loopw [4, 5] (fun vl vi wr => ∃ (k c : Nat) (a : Option Addr), k ≤ n + 1 ∧ vi = .int .i64 k ∧ vl = .slice a k c ∧ wr.ownsRow w.heap.size 3 1 (.slice a k c) k ((List.replicate k (-1 : Int)).map (Value.int .i64)) ∧ Below w.heap.size w wr) (fun _ vi _ => n + 1 - (intOf vi).toNat)
  case atStart => exact ⟨0, 0, _, Nat.zero_le _, rfl, rfl, hownM, hB1⟩
  case round =>
    clear hownM hB1
    obtain ⟨k, c, a, hk, rfl, rfl, hown, hb⟩ := hrel
    rcases Nat.lt_or_ge k (n + 1) with hlt | hge
    · have k1 : (k : Int) ≤ n := by omega
      have k0 : (0 : Int) ≤ k := by omega
      have hzr := hb.size
      go_wp2_with (at_builtin; refine wpList_append_lies ?pw ?p1 ?ps ?px 69 ?p2 w.heap.size 3 it0 (.int .i64 0) 1 8 ?p3 ?p4 ?p5 ?p6 ?p7 ?p8 ?p9 (.slice a k c) k ((List.replicate k (-1 : Int)).map (Value.int .i64)) ?p10 ?ph1 ⟨wr.heap.size, 0, none⟩ 1 1 [.int .i64 (-1)] ?p11 ?p12 ?ph2 ?ph3 ?pc1 ?pc2 ?pc3 ?pc4 (wr.heap.size + 1) ?pc5 ?_; (case p1 => rfl); (case p2 => rfl); (case p10 => rfl); (case p11 => rfl); (case ph1 => exact hown.alloc _); (case p3 => exact Tryd.underlying69); (case p4 => exact hi); (case p5 => exact hz0); (case p6 => exact hz1); (case p7 => exact hz2); (case p8 => rfl); (case p9 => decide); (case p12 => rfl); (case ph2 => exact World.news_of_block (heap_alloc_new wr _)); (case ph3 => intro u hu; simp at hu; subst hu; rfl); (case pc1 => decide); (case pc2 => unfold maxLen; omega); (case pc3 => omega); (case pc4 => simp only [World.size_alloc]; omega); (case pc5 => simp only [World.size_alloc]); intro g2 cp2 wz hownZ hgrowZ hatZ hltZ)
      have hbx : Below wr.heap.size wr (wr.alloc (.cells #[.int .i64 (-1)] 3)) := (Below.refl _ _).alloc (Nat.le_refl _) _
      have hbz : Below w.heap.size w wz := (hb.trans (hbx.mono hzr)).grown hgrowZ (by have := hbx.size; omega) (fun i e => (hown.lt i e).1)
      have hownV : wz.ownsRow w.heap.size 3 1 (.slice (some ⟨g2, 0, none⟩) (k + 1) cp2) (k + 1) ((List.replicate (k + 1) (-1 : Int)).map (Value.int .i64)) := by rw [List.replicate_succ', List.map_append]; exact hownZ
      go_wp2_with fail
      go_roundw
      case rel => exact ⟨k + 1, cp2, some ⟨g2, 0, none⟩, by omega, by go_num, rfl, hownV, hbz⟩
      case measure => simp [intOf]; omega
    · obtain rfl : k = n + 1 := by omega
      obtain ⟨g, rfl⟩ : ∃ g, a = some ⟨g, 0, none⟩ := by
        rcases hown.2 with ⟨h1, h2⟩ | ⟨g, cp, cur, h1, -⟩
        · omega
        · simp at h1; exact ⟨g, h1.1⟩
      have hg0 : w.heap.size ≤ g := (hown.lt g rfl).1
      have hR0 : HighR wr w.heap.size g (n + 1) c (List.replicate (n + 1) (-1)) := ⟨by simp, hown⟩
      have c0 := hR0.at (i := 0) (by omega)
      have fz := hR0.2.frozenAt 0
      have hR1 := Lib.hid (hR0.set 0 0)
      have hb1 : Hid (Below w.heap.size w (wr.setCell ⟨g, 0, none⟩ (.int .i64 0))) := hb.setCell hg0 _
      have HF : Hid ((List.replicate (n + 1) (-1 : Int)).set 0 0 = firstV ds.length) := by show _ = _; rw [← HN.out]; rfl
      rw [HF.out] at hR1
      have n1 : ¬ ((n : Int) + 1 ≤ n) := by omega
      have z1 : decide ((n : Int) + 1 ≤ n) = false := decide_eq_false n1
      clear hown hR0 hb n1
      go_wp2_with fail
      clear c0 fz
      generalize hWr : wr.setCell ⟨g, 0, none⟩ (.int .i64 0) = W0 at *
      clear hWr
      rw [← HN.out] at hR1
      simp only [show (((n + 1 : Nat)) : Int) = (n : Int) + 1 from by omega]
      go_loopw [6] (fun vi wr => ∃ (k : Nat) (hs : List Int), k ≤ n ∧ vi = .int .i64 k ∧ HighR wr w.heap.size g (n + 1) c hs ∧ Hid (runV n k (ds.drop k) hs = runV n 0 ds (firstV n)) ∧ Hid (InV hs) ∧ Below w.heap.size w wr) (fun vi _ => n - (intOf vi).toNat)
      case atStart => exact ⟨0, firstV n, Nat.zero_le _, rfl, hR1.out, by show _ = _; rw [List.drop_zero], inV_first n, hb1.out⟩
      case round =>
        obtain ⟨k, hs, hk, rfl, hR, hrun, hin, hb⟩ := hrel
        have HR := Lib.hid hR
        have HB := Lib.hid hb
        have hszr := hb.size
        clear hR hb
        rcases Nat.lt_or_ge k n with hlt | hge
        · have hkl : k < ds.length := by have := HN.out; omega
          have k1 : (k : Int) < n := by omega
          have k0 : (0 : Int) ≤ k := by omega
          have k2 : (k : Int) < (n : Int) + 1 := by omega
          have em1 : IntKind.i64.wrap ((k : Int) + 1) = (k : Int) + 1 := IntWalk.i64_in _ (by omega)
          have hsmk := HSM.out ds[k] (List.getElem_mem _)
          have HRD := Lib.hid (runV_drop (q := n) hkl hs)
          obtain ⟨b, off, rfl, hbn, hbl, hrow⟩ := H.out.cells (by omega)
          obtain ⟨f, hcf, ht⟩ := hrow k hkl
          obtain ⟨e1, e2, e3, hm, hc2⟩ := ht
          generalize hd : ds[k] = d at *
          obtain ⟨o, nn, s, ms⟩ := d
          obtain ⟨fo, fn, fs, ma, ml, mc⟩ := f
          dsimp only at e1 e2 e3 hm hc2
          have q1 := e1.symm
          have q2 := e2.symm
          have q3 := e3.symm
          clear e1 e2 e3
          subst q1 q2 q3
          obtain rfl := hm.1
          have HC : Hid (∀ W, Below w.heap.size w W → CellsI W b (off + k * 4) ⟨o, nn, s, ma, ms.length, mc⟩) := fun W hW => hcf.kept (hW.block b hbn)
          have HM : Hid (∀ W, Below w.heap.size w W → MarksN All W ma ms.length ms) := fun W hW => (hm.kept (same_lt hW (Nat.le_refl _))).mono (fun _ _ => trivial)
          have hs1 : s.size ≤ maxLen := by have hx : s.size ≤ 1048576 := hsmk.1; unfold maxLen; omega
          have hs2 : ms.length ≤ 1048576 := hsmk.2
          have HS1 := Lib.hid hs1
          have HNO : Hid (stepV n k ⟨o, nn, s, ms⟩ hs = none → heightsV ds = none) := fun hst => by
            unfold heightsV
            rw [← HN.out, ← hrun.out, HRD.out, hst]; rfl
          have HGO : Hid (∀ hs', stepV n k ⟨o, nn, s, ms⟩ hs = some hs' → runV n (k + 1) (ds.drop (k + 1)) hs' = runV n 0 ds (firstV n)) := fun hs' hst => by
            rw [← hrun.out, HRD.out, hst]; rfl
          have hvin := inV_getD hin.out k
          have HTB := Lib.hid (takes_bd o)
          have hT := Lib.hid (specTakes o)
          generalize htk : takesV o = tk at *
          have HTK := Lib.hid htk
          obtain ⟨t1, t2⟩ := tk
          have htb := HTB.out
          dsimp only at htb hT
          clear hrow hcf hm hc2 hsmk htk hd hs1
          obtain ⟨y0, y1, y2, y3⟩ := HC.out wr HB.out
          dsimp only at y0 y1 y2 y3
          go_wp2_with fail
          refine (hT.out wr).mono ?_
          rintro e wq ⟨rfl, hq⟩
          have hq' := hq.symm
          subst hq'
          clear hq
          rcases Int.lt_or_le t1 0 with c1 | c1
          · have z2 : decide (t1 < 0) = true := decide_eq_true c1
            have hst : stepV n k ⟨o, nn, s, ms⟩ hs = none := by unfold stepV; rw [if_pos (Or.inl (by show (takesV o).1 < 0; rw [HTK.out]; exact c1))]
            have HST := Lib.hid hst
            clear hst
            go_wp2
            go_ret2
            exact HeightsP.fail (HNO.out HST.out) HB.out
          have z2 : decide (t1 < 0) = false := decide_eq_false (by omega)
          have hP := Lib.hid (specVPlain o nn s ma ms.length mc ms k n wr HS1.out (HM.out wr HB.out) hs2 (by omega) (by omega) (by omega))
          go_wp2_with fail
          refine hP.out.mono ?_
          rintro e w1 ⟨bb, rfl, hbb, d1⟩
          have HB1 : Hid (Below w.heap.size w w1) := HB.out.trans (d1.mono hszr)
          have HR1 : Hid (HighR w1 w.heap.size g (n + 1) c hs) := ⟨HR.out.1, HR.out.2.kept (row := none) (below_grownM d1) (Or.inr (by simp [Value.ownBlock]))⟩
          clear y0 y1 y2 y3 d1 hP
          cases bb with
          | false =>
            have HST : Hid (stepV n k ⟨o, nn, s, ms⟩ hs = none) := by
              show _ = _
              unfold stepV
              rw [if_pos (Or.inr (fun hh => by have := hbb.out.2 hh; cases this))]
            go_wp2
            go_ret2
            exact HeightsP.fail (HNO.out HST.out) HB1.out
          | true =>
            have hHV := hbb.out.1 (by first | rfl | trivial)
            have HV := Lib.hid hHV
            have c0 := HR1.out.at (i := k) (by omega)
            have HS0 : Hid (stepV n k ⟨o, nn, s, ms⟩ hs = if hs.getD k 0 < 0 then some hs else if hs.getD k 0 < t1 ∨ 12 < hs.getD k 0 - t1 + t2 then none else if (marksV k ⟨o, nn, s, ms⟩ (hs.getD k 0 - t1 + t2) hs).2 then some (marksV k ⟨o, nn, s, ms⟩ (hs.getD k 0 - t1 + t2) hs).1 else none) := by
              show _ = _
              unfold stepV leftV
              dsimp only
              rw [HTK.out]
              dsimp only
              rw [if_neg (fun hh => by rcases hh with hh | hh; omega; exact hh HV.out)]
            clear hHV
            generalize hv : hs.getD k 0 = v at *
            rcases Int.lt_or_le v 0 with c2 | c2
            · have z3 : decide (v < 0) = true := decide_eq_true c2
              have HST : Hid (stepV n k ⟨o, nn, s, ms⟩ hs = some hs) := by show _ = _; rw [HS0.out, if_pos c2]
              go_wp2_with fail
              go_roundw
              case rel => exact ⟨k + 1, hs, by omega, by go_num, HR1.out, HGO.out _ HST.out, hin, HB1.out⟩
              case measure => simp [intOf]; omega
            have z3 : decide (v < 0) = false := decide_eq_false (by omega)
            have en1 : IntKind.i64.wrap (v - t1) = v - t1 := IntWalk.i64_in _ (by omega)
            have en2 : IntKind.i64.wrap (v - t1 + t2) = v - t1 + t2 := IntWalk.i64_in _ (by omega)
            obtain ⟨y0, y1, y2, y3⟩ := HC.out w1 HB1.out
            dsimp only at y0 y1 y2 y3
            by_cases c3 : v < t1 ∨ 12 < v - t1 + t2
            · have HST : Hid (stepV n k ⟨o, nn, s, ms⟩ hs = none) := by show _ = _; rw [HS0.out, if_neg (by omega), if_pos c3]
              by_cases c4 : v < t1
              · have z4 : decide (v < t1) = true := decide_eq_true c4
                go_wp2
                go_ret2
                exact HeightsP.fail (HNO.out HST.out) HB1.out
              · have z4 : decide (v < t1) = false := decide_eq_false c4
                have z5 : decide (12 < v - t1 + t2) = true := decide_eq_true (by omega)
                go_wp2
                go_ret2
                exact HeightsP.fail (HNO.out HST.out) HB1.out
            have z4 : decide (v < t1) = false := decide_eq_false (fun x => c3 (Or.inl x))
            have z5 : decide (12 < v - t1 + t2) = false := decide_eq_false (fun x => c3 (Or.inr x))
            have HS1' : Hid (stepV n k ⟨o, nn, s, ms⟩ hs = if (marksV k ⟨o, nn, s, ms⟩ (v - t1 + t2) hs).2 then some (marksV k ⟨o, nn, s, ms⟩ (v - t1 + t2) hs).1 else none) := by show _ = _; rw [HS0.out, if_neg (by omega), if_neg c3]
            have hn0 : -1 ≤ v - t1 + t2 ∧ v - t1 + t2 ≤ 12 := by omega
            have HIN2 := Lib.hid (inV_marks hin.out k ⟨o, nn, s, ms⟩ hn0.1 hn0.2)
            clear c3
            by_cases h11 : o = 11
            · subst h11
              have hh := HV.out
              unfold HoldsV at hh
              rw [if_pos (by decide)] at hh
              have hh1 : 0 ≤ nn ∧ nn ≤ (n : Int) - k - 1 := hh.1
              have em2 : IntKind.i64.wrap ((k : Int) + 1 + nn) = (k : Int) + 1 + nn := IntWalk.i64_in _ (by omega)
              clear hh
              have HMV : Hid (marksV k ⟨11, nn, s, ms⟩ (v - t1 + t2) hs = markV hs (k + 1 + nn.toNat) (v - t1 + t2)) := by show _ = _; unfold marksV; rw [if_neg (show ¬ (11 : Int) = 9 by decide), if_pos rfl]
              have hM := specMark hs (k + 1 + nn.toNat) (v - t1 + t2) w.heap.size g (n + 1) c w1 HR1.out (by omega)
              rw [show (((k + 1 + nn.toNat : Nat)) : Int) = (k : Int) + 1 + nn from by omega] at hM
              rw [HMV.out] at HS1' HIN2
              unfold MarkP at hM
              have HMK := Lib.hid hM
              clear hM
              generalize markV hs (k + 1 + nn.toNat) (v - t1 + t2) = mk at *
              obtain ⟨hs9, mb⟩ := mk
              dsimp only at *
              go_wp2_with fail
              refine HMK.out.mono ?_
              rintro e w2 ⟨rfl, hr2, g2⟩
              have HB2 : Hid (Below w.heap.size w w2) := HB1.out.grown g2 HB1.out.size (fun i e => by cases e; exact hg0)
              have HR2 := Lib.hid hr2
              clear y0 y1 y2 y3 hr2 g2
              cases mb with
              | false =>
                have HST : Hid (stepV n k ⟨11, nn, s, ms⟩ hs = none) := HS1'.out
                go_wp2
                go_ret2
                exact HeightsP.fail (HNO.out HST.out) HB2.out
              | true =>
                have HST : Hid (stepV n k ⟨11, nn, s, ms⟩ hs = some hs9) := HS1'.out
                go_wp2_with fail
                go_roundw
                case rel => exact ⟨k + 1, hs9, by omega, by go_num, HR2.out, HGO.out _ HST.out, HIN2, HB2.out⟩
                case measure => simp [intOf]; omega
            by_cases h9 : o = 9
            · subst h9
              clear h11
              have hh := HV.out
              unfold HoldsV at hh
              rw [if_pos (by decide)] at hh
              have hh1 : 0 ≤ nn ∧ nn ≤ (n : Int) - k - 1 := hh.1
              have em2 : IntKind.i64.wrap ((k : Int) + 1 + nn) = (k : Int) + 1 + nn := IntWalk.i64_in _ (by omega)
              clear hh
              have hM1 := specMark hs (k + 1) (v - t1 + t2) w.heap.size g (n + 1) c w1 HR1.out (by omega)
              rw [show (((k + 1 : Nat)) : Int) = (k : Int) + 1 from by omega] at hM1
              have HMV : Hid (marksV k ⟨9, nn, s, ms⟩ (v - t1 + t2) hs = if (markV hs (k + 1) (v - t1 + t2)).2 then markV (markV hs (k + 1) (v - t1 + t2)).1 (k + 1 + nn.toNat) (v - t1 + t2) else markV hs (k + 1) (v - t1 + t2)) := by show _ = _; unfold marksV; rw [if_pos rfl]
              rw [HMV.out] at HS1' HIN2
              unfold MarkP at hM1
              have HMK1 := Lib.hid hM1
              clear hM1
              generalize markV hs (k + 1) (v - t1 + t2) = mk1 at *
              obtain ⟨hs1, mb1⟩ := mk1
              dsimp only at *
              go_wp2_with fail
              refine HMK1.out.mono ?_
              rintro e w3 ⟨rfl, hr3, g3⟩
              have HB3 : Hid (Below w.heap.size w w3) := HB1.out.grown g3 HB1.out.size (fun i e => by cases e; exact hg0)
              have HR3 := Lib.hid hr3
              clear y0 y1 y2 y3 hr3 g3
              obtain ⟨y0, y1, y2, y3⟩ := HC.out w3 HB3.out
              dsimp only at y0 y1 y2 y3
              cases mb1 with
              | false =>
                have HST : Hid (stepV n k ⟨9, nn, s, ms⟩ hs = none) := HS1'.out
                go_wp2
                go_ret2
                exact HeightsP.fail (HNO.out HST.out) HB3.out
              | true =>
                have hM := specMark hs1 (k + 1 + nn.toNat) (v - t1 + t2) w.heap.size g (n + 1) c w3 HR3.out (by omega)
                rw [show (((k + 1 + nn.toNat : Nat)) : Int) = (k : Int) + 1 + nn from by omega] at hM
                unfold MarkP at hM
                have HMK := Lib.hid hM
                have HS1'' : Hid (stepV n k ⟨9, nn, s, ms⟩ hs = if (markV hs1 (k + 1 + nn.toNat) (v - t1 + t2)).2 then some (markV hs1 (k + 1 + nn.toNat) (v - t1 + t2)).1 else none) := HS1'.out
                have HIN3 : Hid (InV (markV hs1 (k + 1 + nn.toNat) (v - t1 + t2)).1) := HIN2.out
                clear hM HS1' HIN2
                generalize markV hs1 (k + 1 + nn.toNat) (v - t1 + t2) = mk at *
                obtain ⟨hs9, mb⟩ := mk
                dsimp only at *
                go_wp2_with fail
                refine HMK.out.mono ?_
                rintro e w4 ⟨rfl, hr2, g2⟩
                have HB2 : Hid (Below w.heap.size w w4) := HB3.out.grown g2 HB3.out.size (fun i e => by cases e; exact hg0)
                have HR2 := Lib.hid hr2
                clear y0 y1 y2 y3 hr2 g2
                cases mb with
                | false =>
                  have HST : Hid (stepV n k ⟨9, nn, s, ms⟩ hs = none) := HS1''.out
                  go_wp2
                  go_ret2
                  exact HeightsP.fail (HNO.out HST.out) HB2.out
                | true =>
                  have HST : Hid (stepV n k ⟨9, nn, s, ms⟩ hs = some hs9) := HS1''.out
                  go_wp2_with fail
                  go_roundw
                  case rel => exact ⟨k + 1, hs9, by omega, by go_num, HR2.out, HGO.out _ HST.out, HIN3, HB2.out⟩
                  case measure => simp [intOf]; omega
            have b11 : (o != 11) = true := by simpa using h11
            have b11' : (o == 11) = false := by simpa using h11
            have b9 : (o == 9) = false := by simpa using h9
            have HMV : Hid (marksV k ⟨o, nn, s, ms⟩ (v - t1 + t2) hs = markV hs (k + 1) (v - t1 + t2)) := by show _ = _; unfold marksV; rw [if_neg h9, if_neg h11]
            have hM := specMark hs (k + 1) (v - t1 + t2) w.heap.size g (n + 1) c w1 HR1.out (by omega)
            rw [show (((k + 1 : Nat)) : Int) = (k : Int) + 1 from by omega] at hM
            rw [HMV.out] at HS1' HIN2
            unfold MarkP at hM
            have HMK := Lib.hid hM
            clear hM h11 h9
            generalize markV hs (k + 1) (v - t1 + t2) = mk at *
            obtain ⟨hs2, mb⟩ := mk
            dsimp only at *
            go_wp2_with fail
            refine HMK.out.mono ?_
            rintro e w2 ⟨rfl, hr2, g2⟩
            have HB2 : Hid (Below w.heap.size w w2) := HB1.out.grown g2 HB1.out.size (fun i e => by cases e; exact hg0)
            have HR2 := Lib.hid hr2
            clear y0 y1 y2 y3 hr2 g2
            obtain ⟨y0, y1, y2, y3⟩ := HC.out w2 HB2.out
            dsimp only at y0 y1 y2 y3
            cases mb with
            | false =>
              have HST : Hid (stepV n k ⟨o, nn, s, ms⟩ hs = none) := HS1'.out
              go_wp2
              go_ret2
              exact HeightsP.fail (HNO.out HST.out) HB2.out
            | true =>
              have HST : Hid (stepV n k ⟨o, nn, s, ms⟩ hs = some hs2) := HS1'.out
              go_wp2_with fail
              go_roundw
              case rel => exact ⟨k + 1, hs2, by omega, by go_num, HR2.out, HGO.out _ HST.out, HIN2, HB2.out⟩
              case measure => simp [intOf]; omega
        · obtain rfl : k = n := by omega
          have c0 := HR.out.at (i := k) (by omega)
          have hrn : runV k k (ds.drop k) hs = some hs := by rw [List.drop_of_length_le (by have := HN.out; omega), runV]
          have HH : Hid (heightsV ds = if hs.getD k 0 = 1 then some hs else none) := by
            show _ = _
            unfold heightsV
            rw [← HN.out, ← hrun.out, hrn]; rfl
          have k1 : (k : Int) < (k : Int) + 1 := by omega
          have k0 : (0 : Int) ≤ k := by omega
          have HRX := Lib.hid (show HighR wr w.heap.size g (ds.length + 1) c hs from by rw [← HN.out]; exact HR.out)
          clear hrn hrun
          generalize hs.getD k 0 = v at *
          cases hv : (v == 1) with
          | true =>
            have HST : Hid (heightsV ds = some hs) := by show _ = _; rw [HH.out, if_pos (by simpa using hv)]
            go_wp2_with fail
            go_region
            all_goals
              go_wp2
              go_ret2
              refine ⟨true, _, rfl, Lib.hid (by rw [HST.out]; rfl), Lib.hid (fun hs' h' => ?_), ⟨HB.out.os, HB.out.tape, HB.out.output, HB.out.size, HB.out.block⟩⟩
              rw [HST.out] at h'
              cases h'
              exact ⟨g, c, hg0, by rw [← HN.out]; rfl, HRX.out⟩
          | false =>
            have HST : Hid (heightsV ds = none) := by show _ = _; rw [HH.out, if_neg (by simpa using hv)]
            go_wp2_with fail
            go_region
            all_goals
              go_wp2
              go_ret2
              exact HeightsP.fail HST.out ⟨HB.out.os, HB.out.tape, HB.out.output, HB.out.size, HB.out.block⟩
end Go.Proofs.YtembapomapcdfaaDoor
