/-
  A drawn program (l14Code).
-/
import Derived.Test.YtjhgmmcglonokaaGreatDoorJ27
import Derived.Test.YtjhgmmcglonokaaGreatDoorDrawSmall
import Derived.Test.YtjhgmmcglonokaaGreatDoorJ33
import Derived.Test.YtjhgmmcglonokaaGreatDoorJ15
namespace Go.Proofs.YtjhgmmcglonokaaGreatDoor
open Go.RowKit
set_option linter.unusedVariables false
set_option linter.unusedSimpArgs false

def DrawnC (b p : Nat) (w : World) (e : Ending) (w' : World) : Prop := ∃ (a : Option Addr) (n c : Nat) (ds : List Pl) (p' : Nat), e = .returned (.slice a n c) ∧ n = ds.length ∧ CodeW w.heap.size w' (.slice a n c) ds ∧ SmW ds 100 ∧ Rd b w' b p' ∧ p' ≤ p + 82100 ∧ w.grownBy w' (some b)
theorem CodeRow.snocW {B : Nat} {w w' : World} {v : Value} {ds : List Pl} {fs : List FI} {m g cap : Nat} {o n : Int} (h : CodeRow B w v ds fs) (hm : m = ds.length) (hown : w'.ownsRow B tI 4 (.slice (some ⟨g, 0, none⟩) (m + 1) cap) (m + 1) (rowsI fs ++ rowsI [⟨o, n, ⟨#[]⟩, none, 0, 0⟩])) (hgr : w.grownBy w' v.ownBlock) : CodeW B w' (.slice (some ⟨g, 0, none⟩) (m + 1) cap) (ds ++ [⟨o, n, ⟨#[]⟩, []⟩]) :=
  ⟨_, h.app (allO_one (plO_bare o n ⟨#[]⟩)) (by rw [hm]; rfl) hown hgr⟩
theorem CodeRow.row {B : Nat} {w : World} {a : Option Addr} {m c : Nat} {ds : List Pl} {fs : List FI} (h : CodeRow B w (.slice a m c) ds fs) (hm : m = ds.length) : w.ownsRow B tI 4 (.slice a m c) m (rowsI fs) := by have := h.1; rwa [← hm] at this
theorem drawNamesC (w : World) : Calls Tryz.prog 61 #[] w fun e w' => e = .returned (.slice (some ⟨w.heap.size, 0, none⟩) 3 3) ∧ w' = w.alloc (.cells #[.string ⟨#[97]⟩, .string ⟨#[98]⟩, .string ⟨#[117, 115, 101]⟩] 9) := by
  go_enter Tryz.func61, Tryz.ntmps61
  go_wp2
  go_ret
  exact ⟨rfl, rfl⟩
theorem bare_small {o n : Int} : (⟨o, n, ⟨#[]⟩, []⟩ : Pl).nm.size ≤ 8 ∧ (⟨o, n, ⟨#[]⟩, []⟩ : Pl).ms.length ≤ 5 := ⟨by show 0 ≤ 8; omega, by show 0 ≤ 5; omega⟩
set_option maxRecDepth 100000 in
set_option maxHeartbeats 16000000 in
theorem drawCode (b p : Nat) (w : World) (hr : Rd b w b p) (hp : p ≤ 10000) : Calls Tryz.prog 45 #[.pointer (some ⟨b, 0, none⟩)] w (DrawnC b p w) := by
  obtain ⟨ii0, hi, hz0, hz1, hz2⟩ := info_parts infoIns
  have HBL : Hid (b < w.heap.size) := hr.le.2
  have HR0 := Lib.hid hr
  clear hr
  go_enter Tryz.func45, Tryz.ntmps45
  go_wp2_with fail
  refine (drawNamesC w).mono ?_
  rintro e w2 ⟨rfl, rfl⟩
  have hBn : Below w.heap.size w (w.alloc (.cells #[.string ⟨#[97]⟩, .string ⟨#[98]⟩, .string ⟨#[117, 115, 101]⟩] 9)) := (Below.refl _ _).alloc (Nat.le_refl _) _
  have hDS := drawSmall b p w.heap.size 3 (fun i => [(⟨#[97]⟩ : ByteArray), ⟨#[98]⟩, ⟨#[117, 115, 101]⟩].getD i ByteArray.empty) (w.alloc (.cells #[.string ⟨#[97]⟩, .string ⟨#[98]⟩, .string ⟨#[117, 115, 101]⟩] 9)) (rd_alloc HR0.out _) hp (fun i hi => lits_at _ w.heap.size rfl [(⟨#[97]⟩ : ByteArray), ⟨#[98]⟩, ⟨#[117, 115, 101]⟩] rfl i hi) (by have := HBL.out; omega) (by simp only [World.size_alloc]; omega) (by
    intro i hi
    have : i = 0 ∨ i = 1 ∨ i = 2 := by omega
    rcases this with rfl | rfl | rfl <;> decide)
  unfold DrawnR Fld.val at hDS
  have HDS := Lib.hid hDS
  have HBn := Lib.hid hBn
  clear hBn hDS HR0
  go_wp2_with fail
  generalize (w.alloc (.cells #[.string ⟨#[97]⟩, .string ⟨#[98]⟩, .string ⟨#[117, 115, 101]⟩] 9)) = W1 at *
  refine HDS.out.mono ?_
  rintro e w4 ⟨t, f, p4, rfl, ht, hsz, hr4, hp4, hg4⟩
  have HG4 : Hid (w.grownBy w4 (some b)) := Lib.hid (grown_trans (grown_any HBn.out) hg4)
  have hM := specVmMake (TrF.mono (N' := All) (fun _ _ => trivial) _ _ ht) (by omega)
  unfold MakeRP Fld.val at hM
  have HM := Lib.hid hM
  have HR4 := Lib.hid hr4
  clear hM ht hr4 hg4 hsz HDS HBn
  go_wp2_with fail
  refine HM.out.mono ?_
  rintro e w5 ⟨a, n, c, rfl, hn, hco, d5⟩
  have hs4 : w.heap.size ≤ w4.heap.size := HG4.out.size
  have HCO : Hid (CodeW w.heap.size w5 (.slice a n c) (codeR t)) := Lib.hid (hco.toW.mono hs4)
  have HSM := codeR_small t
  have HSM : Hid (SmW (codeR t) 60) := Lib.hid HSM
  have HR5 := Lib.hid (HR4.out.kept (d5.mono (Nat.le_of_lt HR4.out.le.2)) (d5.block b HR4.out.le.2))
  have HG5 : Hid (w.grownBy w5 (some b)) := Lib.hid (grown_trans HG4.out (grown_any d5))
  have HN := Lib.hid hn
  generalize codeR t = ds at *
  clear hco d5 HR4 HG4 HM hn
  go_wp2_with fail
  refine (pick b b p4 4 _ HR5.out (by omega) (by omega) (by omega)).mono ?_
  rintro e w6 ⟨x6, l6, u6, rfl, hr6, hg6, -⟩
  have HR6 := Lib.hid hr6
  have HG6 : Hid (w.grownBy w6 (some b)) := Lib.hid (grown_trans HG5.out hg6)
  have HC6 : Hid (CodeW w.heap.size w6 (.slice a n c) ds) := Lib.hid (HCO.out.grown hg6 (fun k e => by cases e; exact HBL.out))
  clear hr6 hg6 HCO HR5 HG5
  cases hx6 : (x6 == 0) with
  | false =>
    have HX := Lib.hid hx6
    go_wp2
    go_ret
    exact ⟨a, n, c, ds, p4 + 1, rfl, HN.out, HC6.out, ⟨by have := HSM.out.1; omega, HSM.out.2⟩, HR6.out, by omega, HG6.out⟩
  | true =>
    have HX := Lib.hid hx6
    clear HC6 HSM HN
    have hs6 : w.heap.size ≤ w6.heap.size := HG6.out.size
    have HC7 : Hid (CodeW w.heap.size (w6.alloc (.cells #[] 48)) (.slice (some ⟨w6.heap.size, 0, none⟩) 0 0) []) := Lib.hid (CodeW.made hs6)
    have HR7 := Lib.hid (rd_alloc HR6.out (.cells #[] 48))
    have HG7 : Hid (w.grownBy (w6.alloc (.cells #[] 48)) (some b)) := Lib.hid (grown_trans HG6.out (grown_alloc _ _))
    go_wp2_with fail
    generalize (w6.alloc (.cells #[] 48)) = W7 at *
    generalize w6.heap.size = g6 at *
    refine (pick b b (p4 + 1) 6 _ HR7.out (by omega) (by omega) (by omega)).mono ?_
    rintro e w8 ⟨x8, l8, u8, rfl, hr8, hg8, -⟩
    have HR8 := Lib.hid hr8
    have HG8 : Hid (w.grownBy w8 (some b)) := Lib.hid (grown_trans HG7.out hg8)
    have HC8 : Hid (CodeW w.heap.size w8 (.slice (some ⟨g6, 0, none⟩) 0 0) []) := Lib.hid (HC7.out.grown hg8 (fun k e => by cases e; exact HBL.out))
    clear hr8 hg8 HR6 HR7 HG6 HG7 HC7 hs6
    obtain ⟨j0, rfl⟩ : ∃ j : Nat, x8 = (j : Int) := ⟨x8.toNat, by omega⟩
    have e8 : IntKind.i64.wrap (1 + (j0 : Int)) = ((j0 + 1 : Nat) : Int) := (IntWalk.i64_in _ (by omega)).trans (by omega)
    go_wp2_with fail
    go_loopw [3, 4] (fun vx vn wr => ∃ (j m c q : Nat) (a : Option Addr) (ds : List Pl), j ≤ j0 + 1 ∧ vn = .int .i64 (j : Int) ∧ vx = .slice a m c ∧ Hid (m = ds.length) ∧ m ≤ 2 * (j0 + 1 - j) ∧ q ≤ p4 + 2 + 2 * (j0 + 1 - j) ∧ Hid (CodeW w.heap.size wr (.slice a m c) ds) ∧ Hid (∀ d ∈ ds, d.nm.size ≤ 8 ∧ d.ms.length ≤ 5) ∧ Hid (Rd b wr b q) ∧ Hid (w.grownBy wr (some b))) (fun _ vn _ => (intOf vn).toNat)
    case atStart => exact ⟨j0 + 1, 0, 0, p4 + 2, some ⟨g6, 0, none⟩, [], Nat.le_refl _, rfl, rfl, Lib.hid rfl, by omega, by omega, HC8, Lib.hid (fun d hd => by simp at hd), HR8, HG8⟩
    case round =>
      obtain ⟨j, m, c1, q, a1, ds1, hj, rfl, rfl, HM1, hm2, hq2, HC, HS, HR, HG⟩ := hrel
      clear HR8 HG8 HC8
      rcases Nat.eq_zero_or_pos j with h0 | h0
      · subst h0
        go_wp2
        go_ret
        exact ⟨a1, m, c1, ds1, q, rfl, HM1.out, HC.out, ⟨by have := HM1.out; omega, HS.out⟩, HR.out, by omega, HG.out⟩
      have k0 : (0 : Int) < (j : Int) := by omega
      have k1 : decide ((0 : Int) < (j : Int)) = true := decide_eq_true k0
      have k1n : decide (0 < j) = true := decide_eq_true h0
      have em : IntKind.i64.wrap ((j : Int) - 1) = ((j - 1 : Nat) : Int) := (IntWalk.i64_in _ (by omega)).trans (by omega)
      go_wp2_with fail
      refine (pick b b q 9 _ HR.out (by omega) (by omega) (by omega)).mono ?_
      rintro e w9 ⟨x9, l9, u9, rfl, hr9, hg9, -⟩
      have HR9 := Lib.hid hr9
      have HG9 : Hid (w.grownBy w9 (some b)) := Lib.hid (grown_trans HG.out hg9)
      have HC9 : Hid (CodeW w.heap.size w9 (.slice a1 m c1) ds1) := Lib.hid (HC.out.grown hg9 (fun k e => by cases e; exact HBL.out))
      have hs9 : w.heap.size ≤ w9.heap.size := HG9.out.size
      clear hr9 hg9 HR HG HC
      obtain ⟨fs1, hcv⟩ := HC9.out
      have HCV := Lib.hid hcv
      have HO := Lib.hid (hcv.row HM1.out)
      clear hcv HC9
      rcases Nat.eq_zero_or_pos m with hz | hz
      · have z1 : ¬ 0 < m := by omega
        have z2 : ¬ (0 : Int) < (m : Int) := by omega
        have z3 : ¬ (1 : Int) < (m : Int) + 1 := by omega
        have HZ := Lib.hid hz
        clear hz
        go_wp2_with (at_builtin; refine wpList_append_lies ?zaw ?za1 ?zas ?zax 22 ?za2 w.heap.size 48 ii0 (.agg #[.int .i64 0, .int .i64 0, .string ⟨#[]⟩, .slice none 0 0]) 4 56 ?za3 ?za4 ?za5 ?za6 ?za7 ?za8 ?za9 (.slice a1 m c1) m (rowsI fs1) ?za10 ?zah1 ⟨w9.heap.size, 0, none⟩ 1 1 (rowsI [⟨1, x9, ⟨#[]⟩, none, 0, 0⟩]) ?za11 ?za12 ?zah2 ?zah3 ?zac1 ?zac2 ?zac3 ?zac4 (w9.heap.size + 1) ?zac5 ?_; (case za1 => rfl); (case za2 => rfl); (case za10 => rfl); (case za11 => rfl); (case zah1 => exact HO.out.kept (row := none) (grown_any (show Below w9.heap.size w9 (w9.alloc (.cells #[.int .i64 1, .int .i64 x9, .string ⟨#[]⟩, .slice none 0 0] 48)) from (Below.refl _ _).alloc (Nat.le_refl _) _)) (Classical.em _)); (case za3 => exact Tryz.underlying22); (case za4 => exact hi); (case za5 => exact hz0); (case za6 => exact hz1); (case za7 => exact hz2); (case za8 => rfl); (case za9 => decide); (case za12 => rfl); (case zah2 => exact (World.news_of_block (heap_alloc_new w9 _))); (case zah3 => exact rowsI_one); (case zac1 => decide); (case zac2 => unfold maxLen; omega); (case zac3 => omega); (case zac4 => (simp only [World.size_alloc]; omega)); (case zac5 => simp only [World.size_alloc]); intro g2 cp2 wz hownZ hgrowZ hatZ hltZ)
        have hX9 : Below w9.heap.size w9 (w9.alloc (.cells #[.int .i64 1, .int .i64 x9, .string ⟨#[]⟩, .slice none 0 0] 48)) := (Below.refl _ _).alloc (Nat.le_refl _) _
        have hgz : w9.grownBy wz (Value.slice a1 m c1).ownBlock := grown_trans (grown_any hX9) hgrowZ
        have HCZ : Hid (CodeW w.heap.size wz (.slice (some ⟨g2, 0, none⟩) (m + 1) cp2) (ds1 ++ [⟨1, x9, ⟨#[]⟩, []⟩])) := Lib.hid (HCV.out.snocW HM1.out hownZ hgz)
        have hnb : ∀ i, i < w.heap.size → some i ≠ (Value.slice a1 m c1).ownBlock := fun i hi e => by have := (HO.out.lt i e.symm).1; omega
        have HGZ : Hid (w.grownBy wz (some b)) := Lib.hid ⟨hgz.os.trans HG9.out.os, hgz.tape.trans HG9.out.tape, hgz.output.trans HG9.out.output, Nat.le_trans HG9.out.size hgz.size, fun i hi hne => (hgz.block i (by omega) (hnb i hi)).trans (HG9.out.block i hi hne)⟩
        have HRZ : Hid (Rd b wz b (q + 1)) := Lib.hid (HR9.out.kept ⟨hgz.os, hgz.tape, hgz.output, hgz.size, fun i hi => hgz.block i (by have := HR9.out.le.2; omega) (hnb i (by have := HBL.out; omega))⟩ (hgz.block b HR9.out.le.2 (hnb b HBL.out)))
        go_roundw
        case rel => exact ⟨j - 1, m + 1, cp2, q + 1, _, _, by omega, by go_num, rfl, Lib.hid (by rw [List.length_append, ← HM1.out]; rfl), by omega, by omega, HCZ, Lib.hid (fun d hd => (SmW.snoc (n := ds1.length) ⟨Nat.le_refl _, HS.out⟩ bare_small).2 d hd), HRZ, HGZ⟩
        case measure => simp [intOf]; omega

      · have z2 : (0 : Int) < (m : Int) := by omega
        have z3 : (1 : Int) < (m : Int) + 1 := by omega
        go_wp2_with (at_builtin; refine wpList_append_lies ?zbw ?zb1 ?zbs ?zbx 22 ?zb2 w.heap.size 48 ii0 (.agg #[.int .i64 0, .int .i64 0, .string ⟨#[]⟩, .slice none 0 0]) 4 56 ?zb3 ?zb4 ?zb5 ?zb6 ?zb7 ?zb8 ?zb9 (.slice a1 m c1) m (rowsI fs1) ?zb10 ?zbh1 ⟨w9.heap.size, 0, none⟩ 1 1 (rowsI [⟨1, x9, ⟨#[]⟩, none, 0, 0⟩]) ?zb11 ?zb12 ?zbh2 ?zbh3 ?zbc1 ?zbc2 ?zbc3 ?zbc4 (w9.heap.size + 1) ?zbc5 ?_; (case zb1 => rfl); (case zb2 => rfl); (case zb10 => rfl); (case zb11 => rfl); (case zbh1 => exact HO.out.kept (row := none) (grown_any (show Below w9.heap.size w9 (w9.alloc (.cells #[.int .i64 1, .int .i64 x9, .string ⟨#[]⟩, .slice none 0 0] 48)) from (Below.refl _ _).alloc (Nat.le_refl _) _)) (Classical.em _)); (case zb3 => exact Tryz.underlying22); (case zb4 => exact hi); (case zb5 => exact hz0); (case zb6 => exact hz1); (case zb7 => exact hz2); (case zb8 => rfl); (case zb9 => decide); (case zb12 => rfl); (case zbh2 => exact (World.news_of_block (heap_alloc_new w9 _))); (case zbh3 => exact rowsI_one); (case zbc1 => decide); (case zbc2 => unfold maxLen; omega); (case zbc3 => omega); (case zbc4 => (simp only [World.size_alloc]; omega)); (case zbc5 => simp only [World.size_alloc]); intro g2 cp2 wz hownZ hgrowZ hatZ hltZ)
        have hX9 : Below w9.heap.size w9 (w9.alloc (.cells #[.int .i64 1, .int .i64 x9, .string ⟨#[]⟩, .slice none 0 0] 48)) := (Below.refl _ _).alloc (Nat.le_refl _) _
        have hgz : w9.grownBy wz (Value.slice a1 m c1).ownBlock := grown_trans (grown_any hX9) hgrowZ
        have HCZ : Hid (CodeW w.heap.size wz (.slice (some ⟨g2, 0, none⟩) (m + 1) cp2) (ds1 ++ [⟨1, x9, ⟨#[]⟩, []⟩])) := Lib.hid (HCV.out.snocW HM1.out hownZ hgz)
        have hnb : ∀ i, i < w.heap.size → some i ≠ (Value.slice a1 m c1).ownBlock := fun i hi e => by have := (HO.out.lt i e.symm).1; omega
        have HGZ : Hid (w.grownBy wz (some b)) := Lib.hid ⟨hgz.os.trans HG9.out.os, hgz.tape.trans HG9.out.tape, hgz.output.trans HG9.out.output, Nat.le_trans HG9.out.size hgz.size, fun i hi hne => (hgz.block i (by omega) (hnb i hi)).trans (HG9.out.block i hi hne)⟩
        have HRZ : Hid (Rd b wz b (q + 1)) := Lib.hid (HR9.out.kept ⟨hgz.os, hgz.tape, hgz.output, hgz.size, fun i hi => hgz.block i (by have := HR9.out.le.2; omega) (hnb i (by have := HBL.out; omega))⟩ (hgz.block b HR9.out.le.2 (hnb b HBL.out)))
        have hs8 : Hid (∀ d ∈ ds1 ++ [⟨1, x9, ⟨#[]⟩, []⟩], d.nm.size ≤ 8 ∧ d.ms.length ≤ 5) := Lib.hid (SmW.snoc (n := ds1.length) ⟨Nat.le_refl _, HS.out⟩ bare_small).2
        have hl8 : Hid (m + 1 = (ds1 ++ [(⟨1, x9, ⟨#[]⟩, []⟩ : Pl)]).length) := Lib.hid (by rw [List.length_append, ← HM1.out]; rfl)
        generalize ds1 ++ [(⟨1, x9, ⟨#[]⟩, []⟩ : Pl)] = ds2 at *
        clear HO HCV HR9 HG9 hgz hgrowZ hownZ hnb hatZ hltZ hX9
        refine (pick b b (q + 1) 2 _ HRZ.out (by omega) (by omega) (by omega)).mono ?_
        rintro e wq ⟨xq, lq, uq, rfl, hrq, hgq, -⟩
        have HRQ := Lib.hid hrq
        have HGQ : Hid (w.grownBy wq (some b)) := Lib.hid (grown_trans HGZ.out hgq)
        have HCQ : Hid (CodeW w.heap.size wq (.slice (some ⟨g2, 0, none⟩) (m + 1) cp2) ds2) := Lib.hid (HCZ.out.grown hgq (fun k e => by cases e; exact HBL.out))
        have hsq : w.heap.size ≤ wq.heap.size := HGQ.out.size
        clear hrq hgq HRZ HGZ HCZ
        cases hxq : (xq == 0) with
        | false =>
          have HXQ := Lib.hid hxq
          go_wp2
          go_roundw
          case rel => exact ⟨j - 1, m + 1, cp2, q + 2, _, ds2, by omega, by go_num, rfl, hl8, by omega, by omega, HCQ, hs8, HRQ, HGQ⟩
          case measure => simp [intOf]; omega
        | true =>
          have HXQ := Lib.hid hxq
          obtain ⟨fs2, hcv⟩ := HCQ.out
          have HCV := Lib.hid hcv
          have HO := Lib.hid (hcv.row hl8.out)
          clear hcv HCQ
          go_wp2_with (at_builtin; refine wpList_append_lies ?zcw ?zc1 ?zcs ?zcx 22 ?zc2 w.heap.size 48 ii0 (.agg #[.int .i64 0, .int .i64 0, .string ⟨#[]⟩, .slice none 0 0]) 4 56 ?zc3 ?zc4 ?zc5 ?zc6 ?zc7 ?zc8 ?zc9 (.slice (some ⟨g2, 0, none⟩) (m + 1) cp2) (m + 1) (rowsI fs2) ?zc10 ?zch1 ⟨wq.heap.size, 0, none⟩ 1 1 (rowsI [⟨3, 0, ⟨#[]⟩, none, 0, 0⟩]) ?zc11 ?zc12 ?zch2 ?zch3 ?zcc1 ?zcc2 ?zcc3 ?zcc4 (wq.heap.size + 1) ?zcc5 ?_; (case zc1 => rfl); (case zc2 => rfl); (case zc10 => rfl); (case zc11 => rfl); (case zch1 => exact HO.out.kept (row := none) (grown_any (show Below wq.heap.size wq (wq.alloc (.cells #[.int .i64 3, .int .i64 0, .string ⟨#[]⟩, .slice none 0 0] 48)) from (Below.refl _ _).alloc (Nat.le_refl _) _)) (Classical.em _)); (case zc3 => exact Tryz.underlying22); (case zc4 => exact hi); (case zc5 => exact hz0); (case zc6 => exact hz1); (case zc7 => exact hz2); (case zc8 => rfl); (case zc9 => decide); (case zc12 => rfl); (case zch2 => exact (World.news_of_block (heap_alloc_new wq _))); (case zch3 => exact rowsI_one); (case zcc1 => decide); (case zcc2 => unfold maxLen; omega); (case zcc3 => omega); (case zcc4 => (simp only [World.size_alloc]; omega)); (case zcc5 => simp only [World.size_alloc]); intro g3 cp3 wy hownY hgrowY hatY hltY)
          have hX9 : Below wq.heap.size wq (wq.alloc (.cells #[.int .i64 3, .int .i64 0, .string ⟨#[]⟩, .slice none 0 0] 48)) := (Below.refl _ _).alloc (Nat.le_refl _) _
          have hgz : wq.grownBy wy (Value.slice (some ⟨g2, 0, none⟩) (m + 1) cp2).ownBlock := grown_trans (grown_any hX9) hgrowY
          have HCZ : Hid (CodeW w.heap.size wy (.slice (some ⟨g3, 0, none⟩) (m + 1 + 1) cp3) (ds2 ++ [⟨3, 0, ⟨#[]⟩, []⟩])) := Lib.hid (HCV.out.snocW hl8.out hownY hgz)
          have hnb : ∀ i, i < w.heap.size → some i ≠ (Value.slice (some ⟨g2, 0, none⟩) (m + 1) cp2).ownBlock := fun i hi e => by have := (HO.out.lt i e.symm).1; omega
          have HGZ : Hid (w.grownBy wy (some b)) := Lib.hid ⟨hgz.os.trans HGQ.out.os, hgz.tape.trans HGQ.out.tape, hgz.output.trans HGQ.out.output, Nat.le_trans HGQ.out.size hgz.size, fun i hi hne => (hgz.block i (by omega) (hnb i hi)).trans (HGQ.out.block i hi hne)⟩
          have HRZ : Hid (Rd b wy b (q + 2)) := Lib.hid (HRQ.out.kept ⟨hgz.os, hgz.tape, hgz.output, hgz.size, fun i hi => hgz.block i (by have := HRQ.out.le.2; omega) (hnb i (by have := HBL.out; omega))⟩ (hgz.block b HRQ.out.le.2 (hnb b HBL.out)))
          have hs9 : Hid (∀ d ∈ ds2 ++ [⟨3, 0, ⟨#[]⟩, []⟩], d.nm.size ≤ 8 ∧ d.ms.length ≤ 5) := Lib.hid (SmW.snoc (n := ds2.length) ⟨Nat.le_refl _, hs8.out⟩ bare_small).2
          clear HO HCV HRQ HGQ hgz hgrowY hownY hnb hatY hltY hX9
          go_roundw
          case rel => exact ⟨j - 1, m + 1 + 1, cp3, q + 2, _, _, by omega, by go_num, rfl, Lib.hid (by rw [List.length_append, ← hl8.out]; rfl), by omega, by omega, HCZ, hs9, HRZ, HGZ⟩
          case measure => simp [intOf]; omega
end Go.Proofs.YtjhgmmcglonokaaGreatDoor
