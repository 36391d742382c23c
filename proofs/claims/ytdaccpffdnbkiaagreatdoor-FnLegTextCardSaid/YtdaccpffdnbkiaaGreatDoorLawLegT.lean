/-
  The law FnLegText.
-/
import Derived.Test.YtdaccpffdnbkiaaGreatDoorLegGot
import Derived.Test.YtdaccpffdnbkiaaGreatDoorJ32
import Derived.Test.YtdaccpffdnbkiaaGreatDoorJ45
import Derived.Test.YtdaccpffdnbkiaaGreatDoorDrawLegT
import Derived.Test.YtdaccpffdnbkiaaGreatDoorDrawLegOk
namespace Go.Proofs.YtdaccpffdnbkiaaGreatDoor
open Go.RowKit
set_option linter.unusedVariables false
set_option linter.unusedSimpArgs false

theorem isRowK {k : IntKind} {w w' : World} {a : Option Addr} {len cap : Nat} {zs : List Int} (h : IsRow k w a len cap zs) (hb : Below w.heap.size w w') : IsRow k w' a len cap zs := by
  rcases h with h | ⟨x, h1, h2, h3, h4, h5, h6⟩
  · exact Or.inl h
  · exact Or.inr ⟨x, h1, h2, h3, h4, fun i hi => (hb.cell (p := x.add i) (World.block_lt_of_cell? w _ (h5 i hi))).trans (h5 i hi), h6⟩
theorem legO_size (d : LegD) : (legO d).size ≤ 1048576 := by
  unfold legO
  split
  · rename_i q; exact Nat.le_trans (legB_size q) (by omega)
  · exact Nat.zero_le _
theorem legIn_off {w : World} {d : LegD} {p : LegP} (h : LegIn w d p) : LegOff w.heap.size d p := by
  obtain ⟨h1, h2, h3, h4⟩ := h
  refine ⟨fun h0 y hy => ?_, fun h0 y hy => ?_, fun h0 y hy => ?_, fun h0 y hy => ?_⟩
  · obtain ⟨b, off, e, q, -⟩ := h1.cells h0
    rw [e] at hy; cases hy; show b ≠ _; omega
  · obtain ⟨b, off, e, q, -⟩ := h2.cells h0
    rw [e] at hy; cases hy; show b ≠ _; omega
  · obtain ⟨b, off, e, q, -⟩ := h3.cells h0
    rw [e] at hy; cases hy; show b ≠ _; omega
  · obtain ⟨b, off, e, q, -⟩ := h4.cells h0
    rw [e] at hy; cases hy; show b ≠ _; omega
theorem legO_ok {d : LegD} (h : OkLeg d) : legO d = legB d := by unfold legO; rw [if_pos h]
theorem legB_ne {d : LegD} (h : OkLeg d) : legB d ≠ ⟨#[]⟩ := by
  intro e
  have a := rdLeg_text (ok_toL8 h)
  rw [legB_toL8, e] at a
  simp [rdLeg, rdWordS, rdNext, offOf] at a
theorem legO_ne {d : LegD} (h : OkLeg d) : (legO d).toList.isEmpty = false := by
  rw [legO_ok h]
  cases hl : (legB d).toList with
  | nil => rw [Lib.toList_data] at hl; exact absurd (ByteArray.ext (Array.ext' hl)) (legB_ne h)
  | cons x y => rfl
def SLa (s oN : ByteArray) (d2 d3 : LegD) (p2 p3 : LegP) (i : Nat) (W : World) (v : Value) : Prop := match i with
  | 0 => v = .string s
  | 1 => v = LegV (noHold d2) (noP p2)
  | 2 => v = .string s
  | 3 => v = .bool true
  | 4 => v = .bool true
  | 5 => v = .bool true
  | 6 => v = .string s
  | 7 => v = .bool true
  | 8 => v = .bool true
  | 9 => v = .bool true
  | 10 => v = .bool true
  | 11 => v = .bool true
  | 12 => v = .bool false
  | 13 => v = .bool false
  | 14 => v = LegV d3 p3
  | 15 => v = LegV (noHold d2) (noP p2)
  | 16 => v = .bool true
  | 17 => v = .bool true
  | 18 => v = .bool true
  | 19 => v = .bool true
  | 22 => v = .tuple #[]
  | 29 => v = .bool true
  | 30 => v = .bool true
  | _ => True
def SLb (s oN : ByteArray) (d2 d3 : LegD) (p2 p3 : LegP) (i : Nat) (W : World) (v : Value) : Prop := match i with
  | 0 => v = .string s
  | 1 => v = LegV (noHold d2) (noP p2)
  | 2 => v = .string s
  | 3 => v = .bool true
  | 4 => v = .bool true
  | 5 => v = .bool false
  | 6 => v = .string s
  | 7 => v = .bool false
  | 8 => v = .bool true
  | 9 => v = .bool true
  | 10 => v = .bool true
  | 11 => v = .bool false
  | 12 => v = .bool true
  | 13 => v = .bool true
  | 17 => v = .bool true
  | 18 => v = .bool true
  | 19 => v = .bool true
  | 22 => v = .tuple #[]
  | 29 => v = .bool true
  | 30 => v = .bool true
  | _ => True
def SLc (s oN : ByteArray) (d2 d3 : LegD) (p2 p3 : LegP) (i : Nat) (W : World) (v : Value) : Prop := match i with
  | 0 => v = .string s
  | 1 => v = LegV (noHold d2) (noP p2)
  | 2 => v = .string oN
  | 3 => v = .bool false
  | 4 => v = .bool false
  | 9 => v = .bool false
  | 10 => v = .bool false
  | 13 => v = .tuple #[]
  | 18 => v = .bool false
  | 19 => v = .bool false
  | 20 => v = .string s
  | 21 => v = .bool true
  | 22 => v = .bool true
  | 23 => v = LegV (noHold d2) (noP p2)
  | 24 => v = .bool true
  | 25 => v = LegV (noHold d2) (noP p2)
  | 26 => v = .bool true
  | 27 => v = .bool true
  | 28 => v = .bool true
  | 29 => v = .bool true
  | 30 => v = .bool true
  | _ => True

set_option maxRecDepth 100000 in
set_option maxHeartbeats 64000000 in
theorem lawLegText (a0 : Option Addr) (len0 cap0 : Nat) (z0 : List Int) (a1 : Option Addr) (len1 cap1 : Nat) (z1 : List Int) (w : World) (w0 : IsRow .u8 w a0 len0 cap0 z0) (w1 : IsRow .u8 w a1 len1 cap1 z1) (hL : LaidE w) :
    Calls Tryz.prog 4 #[.slice a0 len0 cap0, .slice a1 len1 cap1] w fun e w' => e = .returned (.bool true) ∧ Below w.heap.size w w' := by
  have W0 := Lib.hid w0
  have W1 := Lib.hid w1
  have HL := Lib.hid hL
  clear w0 w1 hL
  by_cases hz : len0 ≤ 1048576 ∧ len1 ≤ 1048576
  · obtain ⟨h0, h1⟩ := hz
    have g0 : decide ((1048576 : Int) < (len0 : Int)) = false := decide_eq_false (by omega)
    have g1 : decide ((1048576 : Int) < (len1 : Int)) = false := decide_eq_false (by omega)
    have g0n : decide (1048576 < len0) = false := decide_eq_false (by omega)
    have g1n : decide (1048576 < len1) = false := decide_eq_false (by omega)
    have K1 := Lib.hid (drawLegT a0 len0 cap0 z0 w W0.out)
    clear h0 h1
    go_enter Tryz.func4, Tryz.ntmps4
    go_wp2_with fail
    refine K1.out.mono ?_
    rintro e w2 ⟨t, rfl, ht, hb2⟩
    have HB2 := Lib.hid hb2
    have K2 := Lib.hid (readIL t w2 (by omega) (laidE_stays HL.out hb2))
    clear K1 hb2
    go_wp2_with fail
    refine (K2.out.mono fun e w' h => gotI_of h).mono ?_
    rintro e w3 ⟨b, d, p2, rfl, hg1, hn1, hb3⟩
    have HG := Lib.hid hg1.out
    have HFt := Lib.hid (got_fits hg1.out)
    obtain ⟨t1, t2⟩ := leg_box w3 d p2
    have HZ3 := Lib.hid (heap_alloc_new w3 (.cells (rowG ⟨#[]⟩ ⟨#[]⟩ ⟨#[]⟩ 0 0 0 (.slice none 0 0) (.slice none 0 0) (.slice none 0 0)) 25))
    have HB4 := Lib.hid (bt HB2.out (bt hb3 t1))
    have HN4 := Lib.hid (hn1.kept t1)
    have HX4 := Lib.hid t2
    have KM := Lib.hid (readML t _ (show t.size ≤ 1048576 by omega) : Calls _ _ _ ((w3.alloc (.cells (rowG ⟨#[]⟩ ⟨#[]⟩ ⟨#[]⟩ 0 0 0 (.slice none 0 0) (.slice none 0 0) (.slice none 0 0)) 25)).setRow w3.heap.size (LegC d p2)) _)
    clear hg1 hn1 hb3 t1 t2 K2
    unfold LegV
    go_wp2_with (first
      | (refine wpList_store_row rfl 25 _ _ rfl w3.heap.size (LegC d p2) rfl rfl 25 (rowG ⟨#[]⟩ ⟨#[]⟩ ⟨#[]⟩ 0 0 0 (.slice none 0 0) (.slice none 0 0) (.slice none 0 0)) HZ3.out legSize rfl (leg_oneL d p2) ?_)
      | fail)

    generalize (w3.alloc (.cells (rowG ⟨#[]⟩ ⟨#[]⟩ ⟨#[]⟩ 0 0 0 (.slice none 0 0) (.slice none 0 0) (.slice none 0 0)) 25)).setRow w3.heap.size (LegC d p2) = w4 at *
    have hk3 : w3.heap.size < w4.heap.size := lt_heap HX4.out
    generalize w3.heap.size = k3 at *
    refine (KM.out.mono fun e w' h => gotM_of h).mono ?_
    rintro e w5 ⟨b', d', p3, rfl, hg2, hs2, hb5⟩
    obtain ⟨rfl, rfl⟩ := got_one HG.out hg2.out
    obtain ⟨t1, t2⟩ := leg_box w5 d p3
    have HZ5 := Lib.hid (heap_alloc_new w5 (.cells (rowG ⟨#[]⟩ ⟨#[]⟩ ⟨#[]⟩ 0 0 0 (.slice none 0 0) (.slice none 0 0) (.slice none 0 0)) 25))
    have HB6 := Lib.hid (bt HB4.out (bt hb5 t1))
    have X3 := ((bt hb5 t1).block k3 hk3).trans HX4.out
    have HX6 := Lib.hid X3
    have HN6 := Lib.hid (HN4.out.kept (bt hb5 t1))
    have HS6 := Lib.hid (hs2.kept t1)
    obtain ⟨u0, u1, u2, u3, u4, u5, u6, u7, u8, u9⟩ := legCells (X3)
    obtain ⟨v0, v1, v2, v3, v4, v5, v6, v7, v8, v9⟩ := legCells (t2)
    have KQ := Lib.hid (wsLegS d p2 p3 _ HN6.out.leg HS6.out HFt.out)
    have nb : (!(b == b)) = false := by cases b <;> rfl
    clear hg2 hs2 hb5 t1 t2 KM X3 HZ3 HX4 HN4 HB4
    unfold LegV
    go_wp2_with (first
      | (refine wpList_store_row rfl 25 _ _ rfl w5.heap.size (LegC d p3) rfl rfl 25 (rowG ⟨#[]⟩ ⟨#[]⟩ ⟨#[]⟩ 0 0 0 (.slice none 0 0) (.slice none 0 0) (.slice none 0 0)) HZ5.out legSize rfl (leg_oneL d p3) ?_)
      | fail)

    generalize (w5.alloc (.cells (rowG ⟨#[]⟩ ⟨#[]⟩ ⟨#[]⟩ 0 0 0 (.slice none 0 0) (.slice none 0 0) (.slice none 0 0)) 25)).setRow w5.heap.size (LegC d p3) = w6 at *
    refine KQ.out.mono ?_
    rintro e w7 ⟨rfl, hb7⟩
    have HB7 := Lib.hid (bt HB6.out hb7)
    have HN7 := Lib.hid (HN6.out.kept hb7)
    have X3 := (hb7.block k3 (lt_heap HX6.out)).trans HX6.out
    clear u0 u1 u2 u3 u4 u5 u6 u7 u8 u9 v0 v1 v2 v3 v4 v5 v6 v7 v8 v9
    obtain ⟨u0, u1, u2, u3, u4, u5, u6, u7, u8, u9⟩ := legCells (X3)
    clear hb7 KQ X3 HX6 HN6 HS6 HB6
    cases b with
    | false =>
      have HBA := HB7
      generalize w7 = wA at *
      have KD := Lib.hid (drawLegW a1 len1 cap1 z1 wA (isRowK W1.out HBA.out))
      go_wp2_with fail
      refine KD.out.mono ?_
      rintro e wB ⟨d2, p2', rfl, hf2, hin2, -, hbB⟩
      have HFT := Lib.hid hf2.out
      have HOB := Lib.hid (legIn_off hin2)
      obtain ⟨t1, t2⟩ := leg_box wB d2 p2'
      have hwB : w.heap.size ≤ wB.heap.size := Nat.le_trans HBA.out.size hbB.size
      have HZB := Lib.hid (heap_alloc_new wB (.cells (rowG ⟨#[]⟩ ⟨#[]⟩ ⟨#[]⟩ 0 0 0 (.slice none 0 0) (.slice none 0 0) (.slice none 0 0)) 25))
      have HBC := Lib.hid (HBA.out.trans ((bt hbB t1).mono HBA.out.size))
      have HIC := Lib.hid (hin2.kept t1)
      have HXC := Lib.hid t2
      obtain ⟨v0, v1, v2, v3, v4, v5, v6, v7, v8, v9⟩ := legCells (t2)
      have KW := Lib.hid (writeI d2 p2' _ HIC.out HFT.out.1 HFT.out.2 (laidE_stays HL.out HBC.out).1)
      clear hf2 hin2 hbB t1 t2 KD
      unfold LegV
      go_wp2_with (first
        | (refine wpList_store_row rfl 25 _ _ rfl wB.heap.size (LegC d2 p2') rfl rfl 25 (rowG ⟨#[]⟩ ⟨#[]⟩ ⟨#[]⟩ 0 0 0 (.slice none 0 0) (.slice none 0 0) (.slice none 0 0)) HZB.out legSize rfl (leg_oneL d2 p2') ?_)
        | fail)
      generalize (wB.alloc (.cells (rowG ⟨#[]⟩ ⟨#[]⟩ ⟨#[]⟩ 0 0 0 (.slice none 0 0) (.slice none 0 0) (.slice none 0 0)) 25)).setRow wB.heap.size (LegC d2 p2') = wC at *
      have hkC : wB.heap.size < wC.heap.size := lt_heap HXC.out
      have hkB0 : w.heap.size ≤ wB.heap.size := hwB
      generalize wB.heap.size = kB at *
      refine KW.out.mono ?_
      rintro e wD ⟨o, rfl, ho, hbD⟩
      obtain rfl := legO_of ho.out
      have HBD := Lib.hid (HBC.out.trans (hbD.mono HBC.out.size))
      have HID := Lib.hid (HIC.out.kept hbD)
      have HXD := Lib.hid ((hbD.block kB hkC).trans HXC.out)
      have hsz : (legO d2).size ≤ 1048576 := legO_size d2
      have KR := Lib.hid (readIL (legO d2) wD hsz (laidE_stays HL.out HBD.out))
      have hkD : kB < wD.heap.size := lt_heap HXD.out
      clear ho hbD KW HZB HXC HIC HBC v0 v1 v2 v3 v4 v5 v6 v7 v8 v9
      go_wp2_with fail
      refine (KR.out.mono fun e w' h => gotI_of h).mono ?_
      rintro e wE ⟨b3, d3, p3', rfl, hg3, hn3, hbE⟩
      have HG3 := Lib.hid hg3.out
      obtain ⟨t1, t2⟩ := leg_box wE d3 p3'
      have HZE := Lib.hid (heap_alloc_new wE (.cells (rowG ⟨#[]⟩ ⟨#[]⟩ ⟨#[]⟩ 0 0 0 (.slice none 0 0) (.slice none 0 0) (.slice none 0 0)) 25))
      have HBF := Lib.hid (HBD.out.trans ((bt hbE t1).mono HBD.out.size))
      have HIF := Lib.hid (HID.out.kept (bt hbE t1))
      have HNF := Lib.hid (hn3.leg.kept t1)
      have HXF := Lib.hid (((bt hbE t1).block kB hkD).trans HXD.out)
      have HXE := Lib.hid t2
      obtain ⟨v0, v1, v2, v3, v4, v5, v6, v7, v8, v9⟩ := legCells (HXF.out)
      have fz9 := frozen_of_row _ _ 9 _ _ HXF.out
      have gs9 := grown_set ((wE.alloc (.cells (rowG ⟨#[]⟩ ⟨#[]⟩ ⟨#[]⟩ 0 0 0 (.slice none 0 0) (.slice none 0 0) (.slice none 0 0)) 25)).setRow wE.heap.size (LegC d3 p3')) ⟨kB, 9, none⟩ (.slice none 0 0)
      have hkE : kB < wE.heap.size := Nat.lt_of_lt_of_le hkD hbE.size
      have HIG := Lib.hid (legIn_noHold (HIF.out.farX HOB.out gs9))
      have HNG := Lib.hid (HNF.out.farX (legNew_offD hn3 hkD) gs9)
      have HXG : Hid ((((wE.alloc (.cells (rowG ⟨#[]⟩ ⟨#[]⟩ ⟨#[]⟩ 0 0 0 (.slice none 0 0) (.slice none 0 0) (.slice none 0 0)) 25)).setRow wE.heap.size (LegC d3 p3')).setCell ⟨kB, 9, none⟩ (.slice none 0 0)).heap[kB]? = some (.cells (LegC (noHold d2) (noP p2')) 25 (0, 0))) := heap_setCell_same _ kB 9 _ _ _ HXF.out
      have HXH := Lib.hid ((gs9.block wE.heap.size (by simp) (by simp; omega)).trans HXE.out)
      have HBG := Lib.hid (HBF.out.grown gs9 HBF.out.size (fun k e => by cases e; exact hkB0))
      clear hg3 hn3 hbE t1 t2 KR HXD HID HBD
      unfold LegV
      go_upto_region 12 with (first
        | (refine wpList_store_row rfl 25 _ _ rfl wE.heap.size (LegC d3 p3') rfl rfl 25 (rowG ⟨#[]⟩ ⟨#[]⟩ ⟨#[]⟩ 0 0 0 (.slice none 0 0) (.slice none 0 0) (.slice none 0 0)) HZE.out legSize rfl (leg_oneL d3 p3') ?_)
        | fail)
      clear v0 v1 v2 v3 v4 v5 v6 v7 v8 v9 fz9 gs9 HIF HNF HXF HXE HBF HZE
      generalize ((wE.alloc (.cells (rowG ⟨#[]⟩ ⟨#[]⟩ ⟨#[]⟩ 0 0 0 (.slice none 0 0) (.slice none 0 0) (.slice none 0 0)) 25)).setRow wE.heap.size (LegC d3 p3')).setCell ⟨kB, 9, none⟩ (.slice none 0 0) = wG at *
      have hlB := lt_heap HXG.out
      have hlE := lt_heap HXH.out
      generalize wE.heap.size = kE at *
      have hwG : w.heap.size ≤ wG.heap.size := HBG.out.size
      by_cases hok : OkLeg d2
      · obtain ⟨hb3, hd3⟩ := got_one HG3.out (show GotL (legO d2) true (leg8D (toL8 d2)) from Or.inr ⟨rfl, toL8 d2, rfl, ok_toL8 hok, by rw [legB_toL8]; exact (legO_ok hok).symm⟩)
        subst hb3 hd3
        have HOK := Lib.hid hok
        have HQ : Hid ((legO d2).toList.isEmpty = false) := legO_ne hok
        have HEN : Hid (legO (noHold d2) = legO d2) := by show _ = _; rw [legO_ok hok, legO_ok (ok_noHold hok), legB_noHold]
        clear hok
        have HFN : Hid (Fits (noHold d2)) := ⟨HFT.out.1.1, HFT.out.1.2.1, HFT.out.1.2.2.1, HFT.out.1.2.2.2.1, HFT.out.1.2.2.2.2.1, HFT.out.1.2.2.2.2.2.1, Nat.zero_le _⟩
        have HKQ : Hid (∀ ww, Below wG.heap.size wG ww → Calls Tryz.prog 11 #[LegV (leg8D (toL8 d2)) p3', LegV (noHold d2) (noP p2')] ww fun e w' => e = .returned (.bool true) ∧ Below ww.heap.size ww w') := by
          intro ww hI
          rw [← legV_toL8 HOK.out p2']
          have h2 : LegIn ww (leg8D (toL8 (noHold d2))) (noP (noP p2')) := legIn_toL8 (HIG.out.kept hI)
          exact wsLegS (leg8D (toL8 d2)) p3' (noP p2') ww (HNG.out.kept hI) h2 (got_fits HG3.out)
        refine wp_region_free' (by kernel_rfl) (fun _ W => Below wG.heap.size wG W) (fun _ _ => True) (SLa (legO d2) ⟨#[]⟩ d2 (leg8D (toL8 d2)) p2' p3') (by kernel_rfl) (fun i k v W W' h _ _ => h) ((Below.refl _ _).drew) ?_
        apply Exists.intro
        apply And.intro
        · intro f
          simp only [over, List.set]
          exact rfl
        refine ⟨?hopsa, ?henda⟩
        case hopsa =>
          refine EachOp.cons ?_ (EachOp.cons ?_ (EachOp.cons ?_ (EachOp.cons ?_ (EachOp.cons ?_ (EachOp.cons ?_ (EachOp.cons ?_ (EachOp.cons ?_ (EachOp.cons ?_ (EachOp.cons ?_ (EachOp.cons ?_ (EachOp.cons ?_ (EachOp.cons ?_ (EachOp.cons ?_ (EachOp.cons ?_ (EachOp.cons ?_ (EachOp.cons ?_ (EachOp.cons ?_ (EachOp.cons ?_ (EachOp.cons ?_ (EachOp.cons ?_ (EachOp.cons ?_ (EachOp.cons ?_ (EachOp.cons ?_ (EachOp.cons ?_ (EachOp.cons ?_ (EachOp.cons ?_ (EachOp.cons ?_ (EachOp.cons ?_ (EachOp.cons ?_ (EachOp.cons ?_ (EachOp.nil)))))))))))))))))))))))))))))))
          · intro ff kk ww hkk hI hd QQ' hQ
            try dsimp only
            go_big_wp2_with fail
            refine hQ _ _ _ ?_ hI trivial rfl
            first | rfl | (simp [upd]; done)
          · intro ff kk ww hkk hI hd QQ' hQ
            try dsimp only
            obtain ⟨z0, z1, z2, z3, z4, z5, z6, z7, z8, z9⟩ := legCells ((hI.block kB hlB).trans HXG.out)
            go_big_wp2_with fail
            refine hQ _ _ _ ?_ hI trivial rfl
            first | rfl | (simp [upd, LegV]; done)
          · intro ff kk ww hkk hI hd QQ' hQ
            try dsimp only
            have c1' : ff 1 = _ := DepsT.get hd (n := 1) (by decide)
            go_big_wp2_with fail
            refine (writeS (noHold d2) (noP p2') ww (HIG.out.kept hI) HFN.out).mono ?_
            rintro e wa ⟨o, rfl, ho, da⟩
            obtain rfl := legO_of ho.out
            rw [HEN.out]
            go_big_wp2_with fail
            refine hQ _ _ wa ?_ (bt hI da) trivial rfl
            first | rfl | (simp [upd, c1']; done)
          · intro ff kk ww hkk hI hd QQ' hQ
            try dsimp only
            have c0' : ff 0 = _ := DepsT.get hd (n := 0) (by decide)
            have c2' : ff 2 = _ := DepsT.get hd (n := 2) (by decide)
            go_big_wp2_with fail
            refine hQ _ _ _ ?_ hI trivial rfl
            first | rfl | (simp [upd, c0', c2']; done)
          · intro ff kk ww hkk hI hd QQ' hQ
            try dsimp only
            have c3' : ff 3 = _ := DepsT.get hd (n := 3) (by decide)
            go_big_wp2_with fail
            refine hQ _ _ _ ?_ hI trivial rfl
            first | rfl | (simp [upd, c3']; done)
          · intro ff kk ww hkk hI hd QQ' hQ
            try dsimp only
            have c4' : ff 4 = _ := DepsT.get hd (n := 4) (by decide)
            go_big_wp2_with fail
            refine hQ _ _ _ ?_ hI trivial rfl
            first | rfl | (simp [upd, c4']; done)
          · intro ff kk ww hkk hI hd QQ' hQ
            try dsimp only
            have c4' : ff 4 = _ := DepsT.get hd (n := 4) (by decide)
            go_big_wp2_with fail
            refine hQ _ _ _ ?_ hI trivial rfl
            first | rfl | (simp [upd, c4']; done)
          · intro ff kk ww hkk hI hd QQ' hQ
            try dsimp only
            have q1 := HQ.out
            have c4' : ff 4 = _ := DepsT.get hd (n := 4) (by decide)
            have c6' : ff 6 = _ := DepsT.get hd (n := 6) (by decide)
            go_big_wp2_with fail
            refine hQ _ _ _ ?_ hI trivial rfl
            first | rfl | (simp [upd, c4', c6']; done)
          · intro ff kk ww hkk hI hd QQ' hQ
            try dsimp only
            have c4' : ff 4 = _ := DepsT.get hd (n := 4) (by decide)
            have c5' : ff 5 = _ := DepsT.get hd (n := 5) (by decide)
            have c7' : ff 7 = _ := DepsT.get hd (n := 7) (by decide)
            go_big_wp2_with fail
            refine hQ _ _ _ ?_ hI trivial rfl
            first | rfl | (simp [upd, c4', c5', c7']; done)
          · intro ff kk ww hkk hI hd QQ' hQ
            try dsimp only
            have c4' : ff 4 = _ := DepsT.get hd (n := 4) (by decide)
            have c8' : ff 8 = _ := DepsT.get hd (n := 8) (by decide)
            go_big_wp2_with fail
            refine hQ _ _ _ ?_ hI trivial rfl
            first | rfl | (simp [upd, c4', c8']; done)
          · intro ff kk ww hkk hI hd QQ' hQ
            try dsimp only
            have c9' : ff 9 = _ := DepsT.get hd (n := 9) (by decide)
            go_big_wp2_with fail
            refine hQ _ _ _ ?_ hI trivial rfl
            first | rfl | (simp [upd, c9']; done)
          · intro ff kk ww hkk hI hd QQ' hQ
            try dsimp only
            have c10' : ff 10 = _ := DepsT.get hd (n := 10) (by decide)
            go_big_wp2_with fail
            refine hQ _ _ _ ?_ hI trivial rfl
            first | rfl | (simp [upd, c10']; done)
          · intro ff kk ww hkk hI hd QQ' hQ
            try dsimp only
            have c10' : ff 10 = _ := DepsT.get hd (n := 10) (by decide)
            have c11' : ff 11 = _ := DepsT.get hd (n := 11) (by decide)
            go_big_wp2_with fail
            refine hQ _ _ _ ?_ hI trivial rfl
            first | rfl | (simp [upd, c10', c11']; done)
          · intro ff kk ww hkk hI hd QQ' hQ
            try dsimp only
            have c10' : ff 10 = _ := DepsT.get hd (n := 10) (by decide)
            have c12' : ff 12 = _ := DepsT.get hd (n := 12) (by decide)
            go_big_wp2_with fail
            refine hQ _ _ _ ?_ hI trivial rfl
            first | rfl | (simp [upd, c10', c12']; done)
          · intro ff kk ww hkk hI hd QQ' hQ
            try dsimp only
            obtain ⟨z0, z1, z2, z3, z4, z5, z6, z7, z8, z9⟩ := legCells ((hI.block kE hlE).trans HXH.out)
            have c13' : ff 13 = _ := DepsT.get hd (n := 13) (by decide)
            go_big_wp2_with fail
            refine hQ _ _ _ ?_ hI trivial rfl
            first | rfl | (simp [upd, c13', LegV]; done)
          · intro ff kk ww hkk hI hd QQ' hQ
            try dsimp only
            obtain ⟨z0, z1, z2, z3, z4, z5, z6, z7, z8, z9⟩ := legCells ((hI.block kB hlB).trans HXG.out)
            have c13' : ff 13 = _ := DepsT.get hd (n := 13) (by decide)
            go_big_wp2_with fail
            refine hQ _ _ _ ?_ hI trivial rfl
            first | rfl | (simp [upd, c13', LegV]; done)
          · intro ff kk ww hkk hI hd QQ' hQ
            try dsimp only
            have c13' : ff 13 = _ := DepsT.get hd (n := 13) (by decide)
            have c14' : ff 14 = _ := DepsT.get hd (n := 14) (by decide)
            have c15' : ff 15 = _ := DepsT.get hd (n := 15) (by decide)
            go_big_wp2_with fail
            refine (HKQ.out ww hI).mono ?_
            rintro e wa ⟨rfl, da⟩
            go_big_wp2_with fail
            refine hQ _ _ wa ?_ (bt hI da) trivial rfl
            first | rfl | (simp [upd, c13', c14', c15']; done)
          · intro ff kk ww hkk hI hd QQ' hQ
            try dsimp only
            have c10' : ff 10 = _ := DepsT.get hd (n := 10) (by decide)
            have c13' : ff 13 = _ := DepsT.get hd (n := 13) (by decide)
            have c16' : ff 16 = _ := DepsT.get hd (n := 16) (by decide)
            go_big_wp2_with fail
            refine hQ _ _ _ ?_ hI trivial rfl
            first | rfl | (simp [upd, c10', c13', c16']; done)
          · intro ff kk ww hkk hI hd QQ' hQ
            try dsimp only
            have c10' : ff 10 = _ := DepsT.get hd (n := 10) (by decide)
            have c17' : ff 17 = _ := DepsT.get hd (n := 17) (by decide)
            go_big_wp2_with fail
            refine hQ _ _ _ ?_ hI trivial rfl
            first | rfl | (simp [upd, c10', c17']; done)
          · intro ff kk ww hkk hI hd QQ' hQ
            try dsimp only
            have c18' : ff 18 = _ := DepsT.get hd (n := 18) (by decide)
            go_big_wp2_with fail
            refine hQ _ _ _ ?_ hI trivial rfl
            first | rfl | (simp [upd, c18']; done)
          · intro ff kk ww hkk hI hd QQ' hQ
            try dsimp only
            have c19' : ff 19 = _ := DepsT.get hd (n := 19) (by decide)
            go_big_wp2_with fail
            refine hQ _ undef _ ?_ hI trivial trivial
            first | rfl | (simp [upd, c19']; done)
          · intro ff kk ww hkk hI hd QQ' hQ
            try dsimp only
            have c19' : ff 19 = _ := DepsT.get hd (n := 19) (by decide)
            go_big_wp2_with fail
            refine hQ _ undef _ ?_ hI trivial trivial
            first | rfl | (simp [upd, c19']; done)
          · intro ff kk ww hkk hI hd QQ' hQ
            try dsimp only
            have c19' : ff 19 = _ := DepsT.get hd (n := 19) (by decide)
            go_big_wp2_with fail
            refine hQ _ undef _ ?_ hI trivial rfl
            first | rfl | (simp [upd, c19']; done)
          · intro ff kk ww hkk hI hd QQ' hQ
            try dsimp only
            have c22' : ff 22 = _ := DepsT.get hd (n := 22) (by decide)
            go_big_wp2_with fail
            refine hQ _ undef _ ?_ hI trivial trivial
            first | rfl | (simp [upd, c22']; done)
          · intro ff kk ww hkk hI hd QQ' hQ
            try dsimp only
            have c22' : ff 22 = _ := DepsT.get hd (n := 22) (by decide)
            go_big_wp2_with fail
            refine hQ _ undef _ ?_ hI trivial trivial
            first | rfl | (simp [upd, c22']; done)
          · intro ff kk ww hkk hI hd QQ' hQ
            try dsimp only
            have c22' : ff 22 = _ := DepsT.get hd (n := 22) (by decide)
            go_big_wp2_with fail
            refine hQ _ undef _ ?_ hI trivial trivial
            first | rfl | (simp [upd, c22']; done)
          · intro ff kk ww hkk hI hd QQ' hQ
            try dsimp only
            have c22' : ff 22 = _ := DepsT.get hd (n := 22) (by decide)
            go_big_wp2_with fail
            refine hQ _ undef _ ?_ hI trivial trivial
            first | rfl | (simp [upd, c22']; done)
          · intro ff kk ww hkk hI hd QQ' hQ
            try dsimp only
            have c22' : ff 22 = _ := DepsT.get hd (n := 22) (by decide)
            go_big_wp2_with fail
            refine hQ _ undef _ ?_ hI trivial trivial
            first | rfl | (simp [upd, c22']; done)
          · intro ff kk ww hkk hI hd QQ' hQ
            try dsimp only
            have c19' : ff 19 = _ := DepsT.get hd (n := 19) (by decide)
            go_big_wp2_with fail
            refine hQ _ undef _ ?_ hI trivial trivial
            first | rfl | (simp [upd, c19']; done)
          · intro ff kk ww hkk hI hd QQ' hQ
            try dsimp only
            have c19' : ff 19 = _ := DepsT.get hd (n := 19) (by decide)
            go_big_wp2_with fail
            refine hQ _ _ _ ?_ hI trivial rfl
            first | rfl | (simp [upd, c19']; done)
          · intro ff kk ww hkk hI hd QQ' hQ
            try dsimp only
            have c29' : ff 29 = _ := DepsT.get hd (n := 29) (by decide)
            go_big_wp2_with fail
            refine hQ _ _ _ ?_ hI trivial rfl
            first | rfl | (simp [upd, c29']; done)
        case henda =>
        intro ff kk wz dz hS
        try dsimp only
        have cz : ff 30 = _ := hS 30 (by decide)
        have HBz := Lib.hid (HBG.out.trans (dz.mono hwG))
        rw [cz]
        clear cz hS dz
        go_wp2
        go_ret
        exact ⟨rfl, HBz.out⟩
      · have HE0 : Hid (legO d2 = ⟨#[]⟩) := by show _ = _; unfold legO; rw [if_neg hok]
        have HNT : Hid (b3 = false) := by
          show _ = _
          rcases HG3.out with ⟨q, -⟩ | ⟨-, x, -, h1, h2⟩
          · exact q
          · rw [HE0.out] at h2; exact absurd h2 (legB_ne h1)
        obtain rfl := HNT.out
        by_cases hN : OkLeg (noHold d2)
        · skip
          have HFN : Hid (Fits (noHold d2)) := ⟨HFT.out.1.1, HFT.out.1.2.1, HFT.out.1.2.2.1, HFT.out.1.2.2.2.1, HFT.out.1.2.2.2.2.1, HFT.out.1.2.2.2.2.2.1, Nat.zero_le _⟩
          have HN := Lib.hid hN
          have HQ : Hid (¬ (legO (noHold d2)).toList = []) := fun e => by have := legO_ne HN.out; rw [e] at this; cases this
          rw [HE0.out]
          clear hN hok
          refine wp_region_free' (by kernel_rfl) (fun _ W => Below wG.heap.size wG W) (fun _ _ => True) (SLc ⟨#[]⟩ (legO (noHold d2)) d2 d3 p2' p3') (by kernel_rfl) (fun i k v W W' h _ _ => h) ((Below.refl _ _).drew) ?_
          apply Exists.intro
          apply And.intro
          · intro f
            simp only [over, List.set]
            exact rfl
          refine ⟨?hopsc, ?hendc⟩
          case hopsc =>
            refine EachOp.cons ?_ (EachOp.cons ?_ (EachOp.cons ?_ (EachOp.cons ?_ (EachOp.cons ?_ (EachOp.cons ?_ (EachOp.cons ?_ (EachOp.cons ?_ (EachOp.cons ?_ (EachOp.cons ?_ (EachOp.cons ?_ (EachOp.cons ?_ (EachOp.cons ?_ (EachOp.cons ?_ (EachOp.cons ?_ (EachOp.cons ?_ (EachOp.cons ?_ (EachOp.cons ?_ (EachOp.cons ?_ (EachOp.cons ?_ (EachOp.cons ?_ (EachOp.cons ?_ (EachOp.cons ?_ (EachOp.cons ?_ (EachOp.cons ?_ (EachOp.cons ?_ (EachOp.cons ?_ (EachOp.cons ?_ (EachOp.cons ?_ (EachOp.cons ?_ (EachOp.cons ?_ (EachOp.nil)))))))))))))))))))))))))))))))
            · intro ff kk ww hkk hI hd QQ' hQ
              try dsimp only
              go_big_wp2_with fail
              refine hQ _ _ _ ?_ hI trivial rfl
              first | rfl | (simp [upd]; done)
            · intro ff kk ww hkk hI hd QQ' hQ
              try dsimp only
              obtain ⟨z0, z1, z2, z3, z4, z5, z6, z7, z8, z9⟩ := legCells ((hI.block kB hlB).trans HXG.out)
              go_big_wp2_with fail
              refine hQ _ _ _ ?_ hI trivial rfl
              first | rfl | (simp [upd, LegV]; done)
            · intro ff kk ww hkk hI hd QQ' hQ
              try dsimp only
              have c1' : ff 1 = _ := DepsT.get hd (n := 1) (by decide)
              go_big_wp2_with fail
              refine (writeS (noHold d2) (noP p2') ww (HIG.out.kept hI) HFN.out).mono ?_
              rintro e wa ⟨o, rfl, ho, da⟩
              obtain rfl := legO_of ho.out
              go_big_wp2_with fail
              refine hQ _ _ wa ?_ (bt hI da) trivial rfl
              first | rfl | (simp [upd, c1']; done)
            · intro ff kk ww hkk hI hd QQ' hQ
              try dsimp only
              have q1 := HQ.out
              have c0' : ff 0 = _ := DepsT.get hd (n := 0) (by decide)
              have c2' : ff 2 = _ := DepsT.get hd (n := 2) (by decide)
              go_big_wp2_with fail
              refine hQ _ _ _ ?_ hI trivial rfl
              first | rfl | (simp [upd, c0', c2', q1]; done)
            · intro ff kk ww hkk hI hd QQ' hQ
              try dsimp only
              have c3' : ff 3 = _ := DepsT.get hd (n := 3) (by decide)
              go_big_wp2_with fail
              refine hQ _ _ _ ?_ hI trivial rfl
              first | rfl | (simp [upd, c3']; done)
            · intro ff kk ww hkk hI hd QQ' hQ
              try dsimp only
              have c4' : ff 4 = _ := DepsT.get hd (n := 4) (by decide)
              go_big_wp2_with fail
              refine hQ _ undef _ ?_ hI trivial trivial
              first | rfl | (simp [upd, c4']; done)
            · intro ff kk ww hkk hI hd QQ' hQ
              try dsimp only
              have c4' : ff 4 = _ := DepsT.get hd (n := 4) (by decide)
              go_big_wp2_with fail
              refine hQ _ undef _ ?_ hI trivial trivial
              first | rfl | (simp [upd, c4']; done)
            · intro ff kk ww hkk hI hd QQ' hQ
              try dsimp only
              have c4' : ff 4 = _ := DepsT.get hd (n := 4) (by decide)
              go_big_wp2_with fail
              refine hQ _ undef _ ?_ hI trivial trivial
              first | rfl | (simp [upd, c4']; done)
            · intro ff kk ww hkk hI hd QQ' hQ
              try dsimp only
              have c4' : ff 4 = _ := DepsT.get hd (n := 4) (by decide)
              go_big_wp2_with fail
              refine hQ _ undef _ ?_ hI trivial trivial
              first | rfl | (simp [upd, c4']; done)
            · intro ff kk ww hkk hI hd QQ' hQ
              try dsimp only
              have c4' : ff 4 = _ := DepsT.get hd (n := 4) (by decide)
              go_big_wp2_with fail
              refine hQ _ _ _ ?_ hI trivial rfl
              first | rfl | (simp [upd, c4']; done)
            · intro ff kk ww hkk hI hd QQ' hQ
              try dsimp only
              have c9' : ff 9 = _ := DepsT.get hd (n := 9) (by decide)
              go_big_wp2_with fail
              refine hQ _ _ _ ?_ hI trivial rfl
              first | rfl | (simp [upd, c9']; done)
            · intro ff kk ww hkk hI hd QQ' hQ
              try dsimp only
              have c10' : ff 10 = _ := DepsT.get hd (n := 10) (by decide)
              go_big_wp2_with fail
              refine hQ _ undef _ ?_ hI trivial trivial
              first | rfl | (simp [upd, c10']; done)
            · intro ff kk ww hkk hI hd QQ' hQ
              try dsimp only
              have c10' : ff 10 = _ := DepsT.get hd (n := 10) (by decide)
              go_big_wp2_with fail
              refine hQ _ undef _ ?_ hI trivial trivial
              first | rfl | (simp [upd, c10']; done)
            · intro ff kk ww hkk hI hd QQ' hQ
              try dsimp only
              have c10' : ff 10 = _ := DepsT.get hd (n := 10) (by decide)
              go_big_wp2_with fail
              refine hQ _ undef _ ?_ hI trivial rfl
              first | rfl | (simp [upd, c10']; done)
            · intro ff kk ww hkk hI hd QQ' hQ
              try dsimp only
              have c13' : ff 13 = _ := DepsT.get hd (n := 13) (by decide)
              go_big_wp2_with fail
              refine hQ _ undef _ ?_ hI trivial trivial
              first | rfl | (simp [upd, c13']; done)
            · intro ff kk ww hkk hI hd QQ' hQ
              try dsimp only
              have c13' : ff 13 = _ := DepsT.get hd (n := 13) (by decide)
              go_big_wp2_with fail
              refine hQ _ undef _ ?_ hI trivial trivial
              first | rfl | (simp [upd, c13']; done)
            · intro ff kk ww hkk hI hd QQ' hQ
              try dsimp only
              have c13' : ff 13 = _ := DepsT.get hd (n := 13) (by decide)
              go_big_wp2_with fail
              refine hQ _ undef _ ?_ hI trivial trivial
              first | rfl | (simp [upd, c13']; done)
            · intro ff kk ww hkk hI hd QQ' hQ
              try dsimp only
              have c10' : ff 10 = _ := DepsT.get hd (n := 10) (by decide)
              go_big_wp2_with fail
              refine hQ _ undef _ ?_ hI trivial trivial
              first | rfl | (simp [upd, c10']; done)
            · intro ff kk ww hkk hI hd QQ' hQ
              try dsimp only
              have c10' : ff 10 = _ := DepsT.get hd (n := 10) (by decide)
              go_big_wp2_with fail
              refine hQ _ _ _ ?_ hI trivial rfl
              first | rfl | (simp [upd, c10']; done)
            · intro ff kk ww hkk hI hd QQ' hQ
              try dsimp only
              have c18' : ff 18 = _ := DepsT.get hd (n := 18) (by decide)
              go_big_wp2_with fail
              refine hQ _ _ _ ?_ hI trivial rfl
              first | rfl | (simp [upd, c18']; done)
            · intro ff kk ww hkk hI hd QQ' hQ
              try dsimp only
              have c19' : ff 19 = _ := DepsT.get hd (n := 19) (by decide)
              go_big_wp2_with fail
              refine hQ _ _ _ ?_ hI trivial rfl
              first | rfl | (simp [upd, c19']; done)
            · intro ff kk ww hkk hI hd QQ' hQ
              try dsimp only
              have c19' : ff 19 = _ := DepsT.get hd (n := 19) (by decide)
              have c20' : ff 20 = _ := DepsT.get hd (n := 20) (by decide)
              go_big_wp2_with fail
              refine hQ _ _ _ ?_ hI trivial rfl
              first | rfl | (simp [upd, c19', c20']; done)
            · intro ff kk ww hkk hI hd QQ' hQ
              try dsimp only
              have c19' : ff 19 = _ := DepsT.get hd (n := 19) (by decide)
              have c21' : ff 21 = _ := DepsT.get hd (n := 21) (by decide)
              go_big_wp2_with fail
              refine hQ _ _ _ ?_ hI trivial rfl
              first | rfl | (simp [upd, c19', c21']; done)
            · intro ff kk ww hkk hI hd QQ' hQ
              try dsimp only
              obtain ⟨z0, z1, z2, z3, z4, z5, z6, z7, z8, z9⟩ := legCells ((hI.block kB hlB).trans HXG.out)
              have c22' : ff 22 = _ := DepsT.get hd (n := 22) (by decide)
              go_big_wp2_with fail
              refine hQ _ _ _ ?_ hI trivial rfl
              first | rfl | (simp [upd, c22', LegV]; done)
            · intro ff kk ww hkk hI hd QQ' hQ
              try dsimp only
              have c22' : ff 22 = _ := DepsT.get hd (n := 22) (by decide)
              have c23' : ff 23 = _ := DepsT.get hd (n := 23) (by decide)
              go_big_wp2_with fail
              refine (okI (noHold d2) (noP p2') ww (HIG.out.kept hI) HFN.out HFT.out.2).mono ?_
              rintro e wa ⟨bb, rfl, hb, da⟩
              obtain rfl : bb = true := hb.out.2 HN.out
              go_big_wp2_with fail
              refine hQ _ _ wa ?_ (bt hI da) trivial rfl
              first | rfl | (simp [upd, c22', c23']; done)
            · intro ff kk ww hkk hI hd QQ' hQ
              try dsimp only
              obtain ⟨z0, z1, z2, z3, z4, z5, z6, z7, z8, z9⟩ := legCells ((hI.block kB hlB).trans HXG.out)
              have c22' : ff 22 = _ := DepsT.get hd (n := 22) (by decide)
              go_big_wp2_with fail
              refine hQ _ _ _ ?_ hI trivial rfl
              first | rfl | (simp [upd, c22', LegV]; done)
            · intro ff kk ww hkk hI hd QQ' hQ
              try dsimp only
              have c22' : ff 22 = _ := DepsT.get hd (n := 22) (by decide)
              have c25' : ff 25 = _ := DepsT.get hd (n := 25) (by decide)
              go_big_wp2_with fail
              refine (okM (noHold d2) (noP p2') ww (HIG.out.kept hI) HFN.out).mono ?_
              rintro e wa ⟨bb, rfl, hb, da⟩
              obtain rfl : bb = true := hb.out.2 HN.out
              go_big_wp2_with fail
              refine hQ _ _ wa ?_ (bt hI da) trivial rfl
              first | rfl | (simp [upd, c22', c25']; done)
            · intro ff kk ww hkk hI hd QQ' hQ
              try dsimp only
              have c22' : ff 22 = _ := DepsT.get hd (n := 22) (by decide)
              have c24' : ff 24 = _ := DepsT.get hd (n := 24) (by decide)
              have c26' : ff 26 = _ := DepsT.get hd (n := 26) (by decide)
              go_big_wp2_with fail
              refine hQ _ _ _ ?_ hI trivial rfl
              first | rfl | (simp [upd, c22', c24', c26']; done)
            · intro ff kk ww hkk hI hd QQ' hQ
              try dsimp only
              have c19' : ff 19 = _ := DepsT.get hd (n := 19) (by decide)
              have c22' : ff 22 = _ := DepsT.get hd (n := 22) (by decide)
              have c27' : ff 27 = _ := DepsT.get hd (n := 27) (by decide)
              go_big_wp2_with fail
              refine hQ _ _ _ ?_ hI trivial rfl
              first | rfl | (simp [upd, c19', c22', c27']; done)
            · intro ff kk ww hkk hI hd QQ' hQ
              try dsimp only
              have c19' : ff 19 = _ := DepsT.get hd (n := 19) (by decide)
              have c28' : ff 28 = _ := DepsT.get hd (n := 28) (by decide)
              go_big_wp2_with fail
              refine hQ _ _ _ ?_ hI trivial rfl
              first | rfl | (simp [upd, c19', c28']; done)
            · intro ff kk ww hkk hI hd QQ' hQ
              try dsimp only
              have c29' : ff 29 = _ := DepsT.get hd (n := 29) (by decide)
              go_big_wp2_with fail
              refine hQ _ _ _ ?_ hI trivial rfl
              first | rfl | (simp [upd, c29']; done)
          case hendc =>
          intro ff kk wz dz hS
          try dsimp only
          have cz : ff 30 = _ := hS 30 (by decide)
          have HBz := Lib.hid (HBG.out.trans (dz.mono hwG))
          rw [cz]
          clear cz hS dz
          go_wp2
          go_ret
          exact ⟨rfl, HBz.out⟩
        · skip
          have HFN : Hid (Fits (noHold d2)) := ⟨HFT.out.1.1, HFT.out.1.2.1, HFT.out.1.2.2.1, HFT.out.1.2.2.2.1, HFT.out.1.2.2.2.2.1, HFT.out.1.2.2.2.2.2.1, Nat.zero_le _⟩
          have HEN : Hid (legO (noHold d2) = ⟨#[]⟩) := by show _ = _; unfold legO; rw [if_neg hN]
          have HQ : Hid (((⟨#[]⟩ : ByteArray).toList.isEmpty) = true) := by show _ = _; rw [Lib.toList_data]; rfl
          rw [HE0.out]
          clear hN hok
          refine wp_region_free' (by kernel_rfl) (fun _ W => Below wG.heap.size wG W) (fun _ _ => True) (SLb ⟨#[]⟩ ⟨#[]⟩ d2 d3 p2' p3') (by kernel_rfl) (fun i k v W W' h _ _ => h) ((Below.refl _ _).drew) ?_
          apply Exists.intro
          apply And.intro
          · intro f
            simp only [over, List.set]
            exact rfl
          refine ⟨?hopsb, ?hendb⟩
          case hopsb =>
            refine EachOp.cons ?_ (EachOp.cons ?_ (EachOp.cons ?_ (EachOp.cons ?_ (EachOp.cons ?_ (EachOp.cons ?_ (EachOp.cons ?_ (EachOp.cons ?_ (EachOp.cons ?_ (EachOp.cons ?_ (EachOp.cons ?_ (EachOp.cons ?_ (EachOp.cons ?_ (EachOp.cons ?_ (EachOp.cons ?_ (EachOp.cons ?_ (EachOp.cons ?_ (EachOp.cons ?_ (EachOp.cons ?_ (EachOp.cons ?_ (EachOp.cons ?_ (EachOp.cons ?_ (EachOp.cons ?_ (EachOp.cons ?_ (EachOp.cons ?_ (EachOp.cons ?_ (EachOp.cons ?_ (EachOp.cons ?_ (EachOp.cons ?_ (EachOp.cons ?_ (EachOp.cons ?_ (EachOp.nil)))))))))))))))))))))))))))))))
            · intro ff kk ww hkk hI hd QQ' hQ
              try dsimp only
              go_big_wp2_with fail
              refine hQ _ _ _ ?_ hI trivial rfl
              first | rfl | (simp [upd]; done)
            · intro ff kk ww hkk hI hd QQ' hQ
              try dsimp only
              obtain ⟨z0, z1, z2, z3, z4, z5, z6, z7, z8, z9⟩ := legCells ((hI.block kB hlB).trans HXG.out)
              go_big_wp2_with fail
              refine hQ _ _ _ ?_ hI trivial rfl
              first | rfl | (simp [upd, LegV]; done)
            · intro ff kk ww hkk hI hd QQ' hQ
              try dsimp only
              have c1' : ff 1 = _ := DepsT.get hd (n := 1) (by decide)
              go_big_wp2_with fail
              refine (writeS (noHold d2) (noP p2') ww (HIG.out.kept hI) HFN.out).mono ?_
              rintro e wa ⟨o, rfl, ho, da⟩
              obtain rfl := legO_of ho.out
              rw [HEN.out]
              go_big_wp2_with fail
              refine hQ _ _ wa ?_ (bt hI da) trivial rfl
              first | rfl | (simp [upd, c1']; done)
            · intro ff kk ww hkk hI hd QQ' hQ
              try dsimp only
              have c0' : ff 0 = _ := DepsT.get hd (n := 0) (by decide)
              have c2' : ff 2 = _ := DepsT.get hd (n := 2) (by decide)
              go_big_wp2_with fail
              refine hQ _ _ _ ?_ hI trivial rfl
              first | rfl | (simp [upd, c0', c2']; done)
            · intro ff kk ww hkk hI hd QQ' hQ
              try dsimp only
              have c3' : ff 3 = _ := DepsT.get hd (n := 3) (by decide)
              go_big_wp2_with fail
              refine hQ _ _ _ ?_ hI trivial rfl
              first | rfl | (simp [upd, c3']; done)
            · intro ff kk ww hkk hI hd QQ' hQ
              try dsimp only
              have c4' : ff 4 = _ := DepsT.get hd (n := 4) (by decide)
              go_big_wp2_with fail
              refine hQ _ _ _ ?_ hI trivial rfl
              first | rfl | (simp [upd, c4']; done)
            · intro ff kk ww hkk hI hd QQ' hQ
              try dsimp only
              have c4' : ff 4 = _ := DepsT.get hd (n := 4) (by decide)
              go_big_wp2_with fail
              refine hQ _ _ _ ?_ hI trivial rfl
              first | rfl | (simp [upd, c4']; done)
            · intro ff kk ww hkk hI hd QQ' hQ
              try dsimp only
              have q1 := HQ.out
              have c4' : ff 4 = _ := DepsT.get hd (n := 4) (by decide)
              have c6' : ff 6 = _ := DepsT.get hd (n := 6) (by decide)
              go_big_wp2_with fail
              refine hQ _ _ _ ?_ hI trivial rfl
              first | rfl | (simp [upd, c4', c6']; done)
            · intro ff kk ww hkk hI hd QQ' hQ
              try dsimp only
              have c4' : ff 4 = _ := DepsT.get hd (n := 4) (by decide)
              have c5' : ff 5 = _ := DepsT.get hd (n := 5) (by decide)
              have c7' : ff 7 = _ := DepsT.get hd (n := 7) (by decide)
              go_big_wp2_with fail
              refine hQ _ _ _ ?_ hI trivial rfl
              first | rfl | (simp [upd, c4', c5', c7']; done)
            · intro ff kk ww hkk hI hd QQ' hQ
              try dsimp only
              have c4' : ff 4 = _ := DepsT.get hd (n := 4) (by decide)
              have c8' : ff 8 = _ := DepsT.get hd (n := 8) (by decide)
              go_big_wp2_with fail
              refine hQ _ _ _ ?_ hI trivial rfl
              first | rfl | (simp [upd, c4', c8']; done)
            · intro ff kk ww hkk hI hd QQ' hQ
              try dsimp only
              have c9' : ff 9 = _ := DepsT.get hd (n := 9) (by decide)
              go_big_wp2_with fail
              refine hQ _ _ _ ?_ hI trivial rfl
              first | rfl | (simp [upd, c9']; done)
            · intro ff kk ww hkk hI hd QQ' hQ
              try dsimp only
              have c10' : ff 10 = _ := DepsT.get hd (n := 10) (by decide)
              go_big_wp2_with fail
              refine hQ _ _ _ ?_ hI trivial rfl
              first | rfl | (simp [upd, c10']; done)
            · intro ff kk ww hkk hI hd QQ' hQ
              try dsimp only
              have c10' : ff 10 = _ := DepsT.get hd (n := 10) (by decide)
              have c11' : ff 11 = _ := DepsT.get hd (n := 11) (by decide)
              go_big_wp2_with fail
              refine hQ _ _ _ ?_ hI trivial rfl
              first | rfl | (simp [upd, c10', c11']; done)
            · intro ff kk ww hkk hI hd QQ' hQ
              try dsimp only
              have c10' : ff 10 = _ := DepsT.get hd (n := 10) (by decide)
              have c12' : ff 12 = _ := DepsT.get hd (n := 12) (by decide)
              go_big_wp2_with fail
              refine hQ _ _ _ ?_ hI trivial rfl
              first | rfl | (simp [upd, c10', c12']; done)
            · intro ff kk ww hkk hI hd QQ' hQ
              try dsimp only
              have c13' : ff 13 = _ := DepsT.get hd (n := 13) (by decide)
              go_big_wp2_with fail
              refine hQ _ undef _ ?_ hI trivial trivial
              first | rfl | (simp [upd, c13']; done)
            · intro ff kk ww hkk hI hd QQ' hQ
              try dsimp only
              have c13' : ff 13 = _ := DepsT.get hd (n := 13) (by decide)
              go_big_wp2_with fail
              refine hQ _ undef _ ?_ hI trivial trivial
              first | rfl | (simp [upd, c13']; done)
            · intro ff kk ww hkk hI hd QQ' hQ
              try dsimp only
              have c13' : ff 13 = _ := DepsT.get hd (n := 13) (by decide)
              go_big_wp2_with fail
              refine hQ _ undef _ ?_ hI trivial trivial
              first | rfl | (simp [upd, c13']; done)
            · intro ff kk ww hkk hI hd QQ' hQ
              try dsimp only
              have c10' : ff 10 = _ := DepsT.get hd (n := 10) (by decide)
              have c13' : ff 13 = _ := DepsT.get hd (n := 13) (by decide)
              go_big_wp2_with fail
              refine hQ _ _ _ ?_ hI trivial rfl
              first | rfl | (simp [upd, c10', c13']; done)
            · intro ff kk ww hkk hI hd QQ' hQ
              try dsimp only
              have c10' : ff 10 = _ := DepsT.get hd (n := 10) (by decide)
              have c17' : ff 17 = _ := DepsT.get hd (n := 17) (by decide)
              go_big_wp2_with fail
              refine hQ _ _ _ ?_ hI trivial rfl
              first | rfl | (simp [upd, c10', c17']; done)
            · intro ff kk ww hkk hI hd QQ' hQ
              try dsimp only
              have c18' : ff 18 = _ := DepsT.get hd (n := 18) (by decide)
              go_big_wp2_with fail
              refine hQ _ _ _ ?_ hI trivial rfl
              first | rfl | (simp [upd, c18']; done)
            · intro ff kk ww hkk hI hd QQ' hQ
              try dsimp only
              have c19' : ff 19 = _ := DepsT.get hd (n := 19) (by decide)
              go_big_wp2_with fail
              refine hQ _ undef _ ?_ hI trivial trivial
              first | rfl | (simp [upd, c19']; done)
            · intro ff kk ww hkk hI hd QQ' hQ
              try dsimp only
              have c19' : ff 19 = _ := DepsT.get hd (n := 19) (by decide)
              go_big_wp2_with fail
              refine hQ _ undef _ ?_ hI trivial trivial
              first | rfl | (simp [upd, c19']; done)
            · intro ff kk ww hkk hI hd QQ' hQ
              try dsimp only
              have c19' : ff 19 = _ := DepsT.get hd (n := 19) (by decide)
              go_big_wp2_with fail
              refine hQ _ undef _ ?_ hI trivial rfl
              first | rfl | (simp [upd, c19']; done)
            · intro ff kk ww hkk hI hd QQ' hQ
              try dsimp only
              have c22' : ff 22 = _ := DepsT.get hd (n := 22) (by decide)
              go_big_wp2_with fail
              refine hQ _ undef _ ?_ hI trivial trivial
              first | rfl | (simp [upd, c22']; done)
            · intro ff kk ww hkk hI hd QQ' hQ
              try dsimp only
              have c22' : ff 22 = _ := DepsT.get hd (n := 22) (by decide)
              go_big_wp2_with fail
              refine hQ _ undef _ ?_ hI trivial trivial
              first | rfl | (simp [upd, c22']; done)
            · intro ff kk ww hkk hI hd QQ' hQ
              try dsimp only
              have c22' : ff 22 = _ := DepsT.get hd (n := 22) (by decide)
              go_big_wp2_with fail
              refine hQ _ undef _ ?_ hI trivial trivial
              first | rfl | (simp [upd, c22']; done)
            · intro ff kk ww hkk hI hd QQ' hQ
              try dsimp only
              have c22' : ff 22 = _ := DepsT.get hd (n := 22) (by decide)
              go_big_wp2_with fail
              refine hQ _ undef _ ?_ hI trivial trivial
              first | rfl | (simp [upd, c22']; done)
            · intro ff kk ww hkk hI hd QQ' hQ
              try dsimp only
              have c22' : ff 22 = _ := DepsT.get hd (n := 22) (by decide)
              go_big_wp2_with fail
              refine hQ _ undef _ ?_ hI trivial trivial
              first | rfl | (simp [upd, c22']; done)
            · intro ff kk ww hkk hI hd QQ' hQ
              try dsimp only
              have c19' : ff 19 = _ := DepsT.get hd (n := 19) (by decide)
              go_big_wp2_with fail
              refine hQ _ undef _ ?_ hI trivial trivial
              first | rfl | (simp [upd, c19']; done)
            · intro ff kk ww hkk hI hd QQ' hQ
              try dsimp only
              have c19' : ff 19 = _ := DepsT.get hd (n := 19) (by decide)
              go_big_wp2_with fail
              refine hQ _ _ _ ?_ hI trivial rfl
              first | rfl | (simp [upd, c19']; done)
            · intro ff kk ww hkk hI hd QQ' hQ
              try dsimp only
              have c29' : ff 29 = _ := DepsT.get hd (n := 29) (by decide)
              go_big_wp2_with fail
              refine hQ _ _ _ ?_ hI trivial rfl
              first | rfl | (simp [upd, c29']; done)
          case hendb =>
          intro ff kk wz dz hS
          try dsimp only
          have cz : ff 30 = _ := hS 30 (by decide)
          have HBz := Lib.hid (HBG.out.trans (dz.mono hwG))
          rw [cz]
          clear cz hS dz
          go_wp2
          go_ret
          exact ⟨rfl, HBz.out⟩

    | true =>
      have hx : LegText d t := by
        rcases HG.out with ⟨q, -⟩ | ⟨-, x, rfl, h1, h2⟩
        · cases q
        · exact ⟨fun _ => h2.symm, fun q => absurd h1 q⟩
      have HLT := Lib.hid hx
      have KW1 := Lib.hid (writeI d p2 w7 HN7.out.leg HFt.out HN7.out.1.2.1 (laidE_stays HL.out HB7.out).1)
      clear hx
      go_wp2_with fail
      refine KW1.out.mono ?_
      rintro e wA ⟨o, rfl, ho, hbA⟩
      obtain rfl := legText_one ho.out HLT.out
      have HBA := Lib.hid (bt HB7.out hbA)
      clear ho hbA KW1 u0 u1 u2 u3 u4 u5 u6 u7 u8 u9
      have KD := Lib.hid (drawLegW a1 len1 cap1 z1 wA (isRowK W1.out HBA.out))
      go_wp2_with fail
      refine KD.out.mono ?_
      rintro e wB ⟨d2, p2', rfl, hf2, hin2, -, hbB⟩
      have HFT := Lib.hid hf2.out
      have HOB := Lib.hid (legIn_off hin2)
      obtain ⟨t1, t2⟩ := leg_box wB d2 p2'
      have hwB : w.heap.size ≤ wB.heap.size := Nat.le_trans HBA.out.size hbB.size
      have HZB := Lib.hid (heap_alloc_new wB (.cells (rowG ⟨#[]⟩ ⟨#[]⟩ ⟨#[]⟩ 0 0 0 (.slice none 0 0) (.slice none 0 0) (.slice none 0 0)) 25))
      have HBC := Lib.hid (HBA.out.trans ((bt hbB t1).mono HBA.out.size))
      have HIC := Lib.hid (hin2.kept t1)
      have HXC := Lib.hid t2
      obtain ⟨v0, v1, v2, v3, v4, v5, v6, v7, v8, v9⟩ := legCells (t2)
      have KW := Lib.hid (writeI d2 p2' _ HIC.out HFT.out.1 HFT.out.2 (laidE_stays HL.out HBC.out).1)
      clear hf2 hin2 hbB t1 t2 KD
      unfold LegV
      go_wp2_with (first
        | (refine wpList_store_row rfl 25 _ _ rfl wB.heap.size (LegC d2 p2') rfl rfl 25 (rowG ⟨#[]⟩ ⟨#[]⟩ ⟨#[]⟩ 0 0 0 (.slice none 0 0) (.slice none 0 0) (.slice none 0 0)) HZB.out legSize rfl (leg_oneL d2 p2') ?_)
        | fail)
      generalize (wB.alloc (.cells (rowG ⟨#[]⟩ ⟨#[]⟩ ⟨#[]⟩ 0 0 0 (.slice none 0 0) (.slice none 0 0) (.slice none 0 0)) 25)).setRow wB.heap.size (LegC d2 p2') = wC at *
      have hkC : wB.heap.size < wC.heap.size := lt_heap HXC.out
      have hkB0 : w.heap.size ≤ wB.heap.size := hwB
      generalize wB.heap.size = kB at *
      refine KW.out.mono ?_
      rintro e wD ⟨o, rfl, ho, hbD⟩
      obtain rfl := legO_of ho.out
      have HBD := Lib.hid (HBC.out.trans (hbD.mono HBC.out.size))
      have HID := Lib.hid (HIC.out.kept hbD)
      have HXD := Lib.hid ((hbD.block kB hkC).trans HXC.out)
      have hsz : (legO d2).size ≤ 1048576 := legO_size d2
      have KR := Lib.hid (readIL (legO d2) wD hsz (laidE_stays HL.out HBD.out))
      have hkD : kB < wD.heap.size := lt_heap HXD.out
      clear ho hbD KW HZB HXC HIC HBC v0 v1 v2 v3 v4 v5 v6 v7 v8 v9
      go_wp2_with fail
      refine (KR.out.mono fun e w' h => gotI_of h).mono ?_
      rintro e wE ⟨b3, d3, p3', rfl, hg3, hn3, hbE⟩
      have HG3 := Lib.hid hg3.out
      obtain ⟨t1, t2⟩ := leg_box wE d3 p3'
      have HZE := Lib.hid (heap_alloc_new wE (.cells (rowG ⟨#[]⟩ ⟨#[]⟩ ⟨#[]⟩ 0 0 0 (.slice none 0 0) (.slice none 0 0) (.slice none 0 0)) 25))
      have HBF := Lib.hid (HBD.out.trans ((bt hbE t1).mono HBD.out.size))
      have HIF := Lib.hid (HID.out.kept (bt hbE t1))
      have HNF := Lib.hid (hn3.leg.kept t1)
      have HXF := Lib.hid (((bt hbE t1).block kB hkD).trans HXD.out)
      have HXE := Lib.hid t2
      obtain ⟨v0, v1, v2, v3, v4, v5, v6, v7, v8, v9⟩ := legCells (HXF.out)
      have fz9 := frozen_of_row _ _ 9 _ _ HXF.out
      have gs9 := grown_set ((wE.alloc (.cells (rowG ⟨#[]⟩ ⟨#[]⟩ ⟨#[]⟩ 0 0 0 (.slice none 0 0) (.slice none 0 0) (.slice none 0 0)) 25)).setRow wE.heap.size (LegC d3 p3')) ⟨kB, 9, none⟩ (.slice none 0 0)
      have hkE : kB < wE.heap.size := Nat.lt_of_lt_of_le hkD hbE.size
      have HIG := Lib.hid (legIn_noHold (HIF.out.farX HOB.out gs9))
      have HNG := Lib.hid (HNF.out.farX (legNew_offD hn3 hkD) gs9)
      have HXG : Hid ((((wE.alloc (.cells (rowG ⟨#[]⟩ ⟨#[]⟩ ⟨#[]⟩ 0 0 0 (.slice none 0 0) (.slice none 0 0) (.slice none 0 0)) 25)).setRow wE.heap.size (LegC d3 p3')).setCell ⟨kB, 9, none⟩ (.slice none 0 0)).heap[kB]? = some (.cells (LegC (noHold d2) (noP p2')) 25 (0, 0))) := heap_setCell_same _ kB 9 _ _ _ HXF.out
      have HXH := Lib.hid ((gs9.block wE.heap.size (by simp) (by simp; omega)).trans HXE.out)
      have HBG := Lib.hid (HBF.out.grown gs9 HBF.out.size (fun k e => by cases e; exact hkB0))
      clear hg3 hn3 hbE t1 t2 KR HXD HID HBD
      unfold LegV
      go_upto_region 12 with (first
        | (refine wpList_store_row rfl 25 _ _ rfl wE.heap.size (LegC d3 p3') rfl rfl 25 (rowG ⟨#[]⟩ ⟨#[]⟩ ⟨#[]⟩ 0 0 0 (.slice none 0 0) (.slice none 0 0) (.slice none 0 0)) HZE.out legSize rfl (leg_oneL d3 p3') ?_)
        | fail)
      clear v0 v1 v2 v3 v4 v5 v6 v7 v8 v9 fz9 gs9 HIF HNF HXF HXE HBF HZE
      generalize ((wE.alloc (.cells (rowG ⟨#[]⟩ ⟨#[]⟩ ⟨#[]⟩ 0 0 0 (.slice none 0 0) (.slice none 0 0) (.slice none 0 0)) 25)).setRow wE.heap.size (LegC d3 p3')).setCell ⟨kB, 9, none⟩ (.slice none 0 0) = wG at *
      have hlB := lt_heap HXG.out
      have hlE := lt_heap HXH.out
      generalize wE.heap.size = kE at *
      have hwG : w.heap.size ≤ wG.heap.size := HBG.out.size
      by_cases hok : OkLeg d2
      · obtain ⟨hb3, hd3⟩ := got_one HG3.out (show GotL (legO d2) true (leg8D (toL8 d2)) from Or.inr ⟨rfl, toL8 d2, rfl, ok_toL8 hok, by rw [legB_toL8]; exact (legO_ok hok).symm⟩)
        subst hb3 hd3
        have HOK := Lib.hid hok
        have HQ : Hid ((legO d2).toList.isEmpty = false) := legO_ne hok
        have HEN : Hid (legO (noHold d2) = legO d2) := by show _ = _; rw [legO_ok hok, legO_ok (ok_noHold hok), legB_noHold]
        clear hok
        have HFN : Hid (Fits (noHold d2)) := ⟨HFT.out.1.1, HFT.out.1.2.1, HFT.out.1.2.2.1, HFT.out.1.2.2.2.1, HFT.out.1.2.2.2.2.1, HFT.out.1.2.2.2.2.2.1, Nat.zero_le _⟩
        have HKQ : Hid (∀ ww, Below wG.heap.size wG ww → Calls Tryz.prog 11 #[LegV (leg8D (toL8 d2)) p3', LegV (noHold d2) (noP p2')] ww fun e w' => e = .returned (.bool true) ∧ Below ww.heap.size ww w') := by
          intro ww hI
          rw [← legV_toL8 HOK.out p2']
          have h2 : LegIn ww (leg8D (toL8 (noHold d2))) (noP (noP p2')) := legIn_toL8 (HIG.out.kept hI)
          exact wsLegS (leg8D (toL8 d2)) p3' (noP p2') ww (HNG.out.kept hI) h2 (got_fits HG3.out)
        refine wp_region_free' (by kernel_rfl) (fun _ W => Below wG.heap.size wG W) (fun _ _ => True) (SLa (legO d2) ⟨#[]⟩ d2 (leg8D (toL8 d2)) p2' p3') (by kernel_rfl) (fun i k v W W' h _ _ => h) ((Below.refl _ _).drew) ?_
        apply Exists.intro
        apply And.intro
        · intro f
          simp only [over, List.set]
          exact rfl
        refine ⟨?hopsa, ?henda⟩
        case hopsa =>
          refine EachOp.cons ?_ (EachOp.cons ?_ (EachOp.cons ?_ (EachOp.cons ?_ (EachOp.cons ?_ (EachOp.cons ?_ (EachOp.cons ?_ (EachOp.cons ?_ (EachOp.cons ?_ (EachOp.cons ?_ (EachOp.cons ?_ (EachOp.cons ?_ (EachOp.cons ?_ (EachOp.cons ?_ (EachOp.cons ?_ (EachOp.cons ?_ (EachOp.cons ?_ (EachOp.cons ?_ (EachOp.cons ?_ (EachOp.cons ?_ (EachOp.cons ?_ (EachOp.cons ?_ (EachOp.cons ?_ (EachOp.cons ?_ (EachOp.cons ?_ (EachOp.cons ?_ (EachOp.cons ?_ (EachOp.cons ?_ (EachOp.cons ?_ (EachOp.cons ?_ (EachOp.cons ?_ (EachOp.nil)))))))))))))))))))))))))))))))
          · intro ff kk ww hkk hI hd QQ' hQ
            try dsimp only
            go_big_wp2_with fail
            refine hQ _ _ _ ?_ hI trivial rfl
            first | rfl | (simp [upd]; done)
          · intro ff kk ww hkk hI hd QQ' hQ
            try dsimp only
            obtain ⟨z0, z1, z2, z3, z4, z5, z6, z7, z8, z9⟩ := legCells ((hI.block kB hlB).trans HXG.out)
            go_big_wp2_with fail
            refine hQ _ _ _ ?_ hI trivial rfl
            first | rfl | (simp [upd, LegV]; done)
          · intro ff kk ww hkk hI hd QQ' hQ
            try dsimp only
            have c1' : ff 1 = _ := DepsT.get hd (n := 1) (by decide)
            go_big_wp2_with fail
            refine (writeS (noHold d2) (noP p2') ww (HIG.out.kept hI) HFN.out).mono ?_
            rintro e wa ⟨o, rfl, ho, da⟩
            obtain rfl := legO_of ho.out
            rw [HEN.out]
            go_big_wp2_with fail
            refine hQ _ _ wa ?_ (bt hI da) trivial rfl
            first | rfl | (simp [upd, c1']; done)
          · intro ff kk ww hkk hI hd QQ' hQ
            try dsimp only
            have c0' : ff 0 = _ := DepsT.get hd (n := 0) (by decide)
            have c2' : ff 2 = _ := DepsT.get hd (n := 2) (by decide)
            go_big_wp2_with fail
            refine hQ _ _ _ ?_ hI trivial rfl
            first | rfl | (simp [upd, c0', c2']; done)
          · intro ff kk ww hkk hI hd QQ' hQ
            try dsimp only
            have c3' : ff 3 = _ := DepsT.get hd (n := 3) (by decide)
            go_big_wp2_with fail
            refine hQ _ _ _ ?_ hI trivial rfl
            first | rfl | (simp [upd, c3']; done)
          · intro ff kk ww hkk hI hd QQ' hQ
            try dsimp only
            have c4' : ff 4 = _ := DepsT.get hd (n := 4) (by decide)
            go_big_wp2_with fail
            refine hQ _ _ _ ?_ hI trivial rfl
            first | rfl | (simp [upd, c4']; done)
          · intro ff kk ww hkk hI hd QQ' hQ
            try dsimp only
            have c4' : ff 4 = _ := DepsT.get hd (n := 4) (by decide)
            go_big_wp2_with fail
            refine hQ _ _ _ ?_ hI trivial rfl
            first | rfl | (simp [upd, c4']; done)
          · intro ff kk ww hkk hI hd QQ' hQ
            try dsimp only
            have q1 := HQ.out
            have c4' : ff 4 = _ := DepsT.get hd (n := 4) (by decide)
            have c6' : ff 6 = _ := DepsT.get hd (n := 6) (by decide)
            go_big_wp2_with fail
            refine hQ _ _ _ ?_ hI trivial rfl
            first | rfl | (simp [upd, c4', c6']; done)
          · intro ff kk ww hkk hI hd QQ' hQ
            try dsimp only
            have c4' : ff 4 = _ := DepsT.get hd (n := 4) (by decide)
            have c5' : ff 5 = _ := DepsT.get hd (n := 5) (by decide)
            have c7' : ff 7 = _ := DepsT.get hd (n := 7) (by decide)
            go_big_wp2_with fail
            refine hQ _ _ _ ?_ hI trivial rfl
            first | rfl | (simp [upd, c4', c5', c7']; done)
          · intro ff kk ww hkk hI hd QQ' hQ
            try dsimp only
            have c4' : ff 4 = _ := DepsT.get hd (n := 4) (by decide)
            have c8' : ff 8 = _ := DepsT.get hd (n := 8) (by decide)
            go_big_wp2_with fail
            refine hQ _ _ _ ?_ hI trivial rfl
            first | rfl | (simp [upd, c4', c8']; done)
          · intro ff kk ww hkk hI hd QQ' hQ
            try dsimp only
            have c9' : ff 9 = _ := DepsT.get hd (n := 9) (by decide)
            go_big_wp2_with fail
            refine hQ _ _ _ ?_ hI trivial rfl
            first | rfl | (simp [upd, c9']; done)
          · intro ff kk ww hkk hI hd QQ' hQ
            try dsimp only
            have c10' : ff 10 = _ := DepsT.get hd (n := 10) (by decide)
            go_big_wp2_with fail
            refine hQ _ _ _ ?_ hI trivial rfl
            first | rfl | (simp [upd, c10']; done)
          · intro ff kk ww hkk hI hd QQ' hQ
            try dsimp only
            have c10' : ff 10 = _ := DepsT.get hd (n := 10) (by decide)
            have c11' : ff 11 = _ := DepsT.get hd (n := 11) (by decide)
            go_big_wp2_with fail
            refine hQ _ _ _ ?_ hI trivial rfl
            first | rfl | (simp [upd, c10', c11']; done)
          · intro ff kk ww hkk hI hd QQ' hQ
            try dsimp only
            have c10' : ff 10 = _ := DepsT.get hd (n := 10) (by decide)
            have c12' : ff 12 = _ := DepsT.get hd (n := 12) (by decide)
            go_big_wp2_with fail
            refine hQ _ _ _ ?_ hI trivial rfl
            first | rfl | (simp [upd, c10', c12']; done)
          · intro ff kk ww hkk hI hd QQ' hQ
            try dsimp only
            obtain ⟨z0, z1, z2, z3, z4, z5, z6, z7, z8, z9⟩ := legCells ((hI.block kE hlE).trans HXH.out)
            have c13' : ff 13 = _ := DepsT.get hd (n := 13) (by decide)
            go_big_wp2_with fail
            refine hQ _ _ _ ?_ hI trivial rfl
            first | rfl | (simp [upd, c13', LegV]; done)
          · intro ff kk ww hkk hI hd QQ' hQ
            try dsimp only
            obtain ⟨z0, z1, z2, z3, z4, z5, z6, z7, z8, z9⟩ := legCells ((hI.block kB hlB).trans HXG.out)
            have c13' : ff 13 = _ := DepsT.get hd (n := 13) (by decide)
            go_big_wp2_with fail
            refine hQ _ _ _ ?_ hI trivial rfl
            first | rfl | (simp [upd, c13', LegV]; done)
          · intro ff kk ww hkk hI hd QQ' hQ
            try dsimp only
            have c13' : ff 13 = _ := DepsT.get hd (n := 13) (by decide)
            have c14' : ff 14 = _ := DepsT.get hd (n := 14) (by decide)
            have c15' : ff 15 = _ := DepsT.get hd (n := 15) (by decide)
            go_big_wp2_with fail
            refine (HKQ.out ww hI).mono ?_
            rintro e wa ⟨rfl, da⟩
            go_big_wp2_with fail
            refine hQ _ _ wa ?_ (bt hI da) trivial rfl
            first | rfl | (simp [upd, c13', c14', c15']; done)
          · intro ff kk ww hkk hI hd QQ' hQ
            try dsimp only
            have c10' : ff 10 = _ := DepsT.get hd (n := 10) (by decide)
            have c13' : ff 13 = _ := DepsT.get hd (n := 13) (by decide)
            have c16' : ff 16 = _ := DepsT.get hd (n := 16) (by decide)
            go_big_wp2_with fail
            refine hQ _ _ _ ?_ hI trivial rfl
            first | rfl | (simp [upd, c10', c13', c16']; done)
          · intro ff kk ww hkk hI hd QQ' hQ
            try dsimp only
            have c10' : ff 10 = _ := DepsT.get hd (n := 10) (by decide)
            have c17' : ff 17 = _ := DepsT.get hd (n := 17) (by decide)
            go_big_wp2_with fail
            refine hQ _ _ _ ?_ hI trivial rfl
            first | rfl | (simp [upd, c10', c17']; done)
          · intro ff kk ww hkk hI hd QQ' hQ
            try dsimp only
            have c18' : ff 18 = _ := DepsT.get hd (n := 18) (by decide)
            go_big_wp2_with fail
            refine hQ _ _ _ ?_ hI trivial rfl
            first | rfl | (simp [upd, c18']; done)
          · intro ff kk ww hkk hI hd QQ' hQ
            try dsimp only
            have c19' : ff 19 = _ := DepsT.get hd (n := 19) (by decide)
            go_big_wp2_with fail
            refine hQ _ undef _ ?_ hI trivial trivial
            first | rfl | (simp [upd, c19']; done)
          · intro ff kk ww hkk hI hd QQ' hQ
            try dsimp only
            have c19' : ff 19 = _ := DepsT.get hd (n := 19) (by decide)
            go_big_wp2_with fail
            refine hQ _ undef _ ?_ hI trivial trivial
            first | rfl | (simp [upd, c19']; done)
          · intro ff kk ww hkk hI hd QQ' hQ
            try dsimp only
            have c19' : ff 19 = _ := DepsT.get hd (n := 19) (by decide)
            go_big_wp2_with fail
            refine hQ _ undef _ ?_ hI trivial rfl
            first | rfl | (simp [upd, c19']; done)
          · intro ff kk ww hkk hI hd QQ' hQ
            try dsimp only
            have c22' : ff 22 = _ := DepsT.get hd (n := 22) (by decide)
            go_big_wp2_with fail
            refine hQ _ undef _ ?_ hI trivial trivial
            first | rfl | (simp [upd, c22']; done)
          · intro ff kk ww hkk hI hd QQ' hQ
            try dsimp only
            have c22' : ff 22 = _ := DepsT.get hd (n := 22) (by decide)
            go_big_wp2_with fail
            refine hQ _ undef _ ?_ hI trivial trivial
            first | rfl | (simp [upd, c22']; done)
          · intro ff kk ww hkk hI hd QQ' hQ
            try dsimp only
            have c22' : ff 22 = _ := DepsT.get hd (n := 22) (by decide)
            go_big_wp2_with fail
            refine hQ _ undef _ ?_ hI trivial trivial
            first | rfl | (simp [upd, c22']; done)
          · intro ff kk ww hkk hI hd QQ' hQ
            try dsimp only
            have c22' : ff 22 = _ := DepsT.get hd (n := 22) (by decide)
            go_big_wp2_with fail
            refine hQ _ undef _ ?_ hI trivial trivial
            first | rfl | (simp [upd, c22']; done)
          · intro ff kk ww hkk hI hd QQ' hQ
            try dsimp only
            have c22' : ff 22 = _ := DepsT.get hd (n := 22) (by decide)
            go_big_wp2_with fail
            refine hQ _ undef _ ?_ hI trivial trivial
            first | rfl | (simp [upd, c22']; done)
          · intro ff kk ww hkk hI hd QQ' hQ
            try dsimp only
            have c19' : ff 19 = _ := DepsT.get hd (n := 19) (by decide)
            go_big_wp2_with fail
            refine hQ _ undef _ ?_ hI trivial trivial
            first | rfl | (simp [upd, c19']; done)
          · intro ff kk ww hkk hI hd QQ' hQ
            try dsimp only
            have c19' : ff 19 = _ := DepsT.get hd (n := 19) (by decide)
            go_big_wp2_with fail
            refine hQ _ _ _ ?_ hI trivial rfl
            first | rfl | (simp [upd, c19']; done)
          · intro ff kk ww hkk hI hd QQ' hQ
            try dsimp only
            have c29' : ff 29 = _ := DepsT.get hd (n := 29) (by decide)
            go_big_wp2_with fail
            refine hQ _ _ _ ?_ hI trivial rfl
            first | rfl | (simp [upd, c29']; done)
        case henda =>
        intro ff kk wz dz hS
        try dsimp only
        have cz : ff 30 = _ := hS 30 (by decide)
        have HBz := Lib.hid (HBG.out.trans (dz.mono hwG))
        rw [cz]
        clear cz hS dz
        go_wp2
        go_ret
        exact ⟨rfl, HBz.out⟩
      · have HE0 : Hid (legO d2 = ⟨#[]⟩) := by show _ = _; unfold legO; rw [if_neg hok]
        have HNT : Hid (b3 = false) := by
          show _ = _
          rcases HG3.out with ⟨q, -⟩ | ⟨-, x, -, h1, h2⟩
          · exact q
          · rw [HE0.out] at h2; exact absurd h2 (legB_ne h1)
        obtain rfl := HNT.out
        by_cases hN : OkLeg (noHold d2)
        · skip
          have HFN : Hid (Fits (noHold d2)) := ⟨HFT.out.1.1, HFT.out.1.2.1, HFT.out.1.2.2.1, HFT.out.1.2.2.2.1, HFT.out.1.2.2.2.2.1, HFT.out.1.2.2.2.2.2.1, Nat.zero_le _⟩
          have HN := Lib.hid hN
          have HQ : Hid (¬ (legO (noHold d2)).toList = []) := fun e => by have := legO_ne HN.out; rw [e] at this; cases this
          rw [HE0.out]
          clear hN hok
          refine wp_region_free' (by kernel_rfl) (fun _ W => Below wG.heap.size wG W) (fun _ _ => True) (SLc ⟨#[]⟩ (legO (noHold d2)) d2 d3 p2' p3') (by kernel_rfl) (fun i k v W W' h _ _ => h) ((Below.refl _ _).drew) ?_
          apply Exists.intro
          apply And.intro
          · intro f
            simp only [over, List.set]
            exact rfl
          refine ⟨?hopsc, ?hendc⟩
          case hopsc =>
            refine EachOp.cons ?_ (EachOp.cons ?_ (EachOp.cons ?_ (EachOp.cons ?_ (EachOp.cons ?_ (EachOp.cons ?_ (EachOp.cons ?_ (EachOp.cons ?_ (EachOp.cons ?_ (EachOp.cons ?_ (EachOp.cons ?_ (EachOp.cons ?_ (EachOp.cons ?_ (EachOp.cons ?_ (EachOp.cons ?_ (EachOp.cons ?_ (EachOp.cons ?_ (EachOp.cons ?_ (EachOp.cons ?_ (EachOp.cons ?_ (EachOp.cons ?_ (EachOp.cons ?_ (EachOp.cons ?_ (EachOp.cons ?_ (EachOp.cons ?_ (EachOp.cons ?_ (EachOp.cons ?_ (EachOp.cons ?_ (EachOp.cons ?_ (EachOp.cons ?_ (EachOp.cons ?_ (EachOp.nil)))))))))))))))))))))))))))))))
            · intro ff kk ww hkk hI hd QQ' hQ
              try dsimp only
              go_big_wp2_with fail
              refine hQ _ _ _ ?_ hI trivial rfl
              first | rfl | (simp [upd]; done)
            · intro ff kk ww hkk hI hd QQ' hQ
              try dsimp only
              obtain ⟨z0, z1, z2, z3, z4, z5, z6, z7, z8, z9⟩ := legCells ((hI.block kB hlB).trans HXG.out)
              go_big_wp2_with fail
              refine hQ _ _ _ ?_ hI trivial rfl
              first | rfl | (simp [upd, LegV]; done)
            · intro ff kk ww hkk hI hd QQ' hQ
              try dsimp only
              have c1' : ff 1 = _ := DepsT.get hd (n := 1) (by decide)
              go_big_wp2_with fail
              refine (writeS (noHold d2) (noP p2') ww (HIG.out.kept hI) HFN.out).mono ?_
              rintro e wa ⟨o, rfl, ho, da⟩
              obtain rfl := legO_of ho.out
              go_big_wp2_with fail
              refine hQ _ _ wa ?_ (bt hI da) trivial rfl
              first | rfl | (simp [upd, c1']; done)
            · intro ff kk ww hkk hI hd QQ' hQ
              try dsimp only
              have q1 := HQ.out
              have c0' : ff 0 = _ := DepsT.get hd (n := 0) (by decide)
              have c2' : ff 2 = _ := DepsT.get hd (n := 2) (by decide)
              go_big_wp2_with fail
              refine hQ _ _ _ ?_ hI trivial rfl
              first | rfl | (simp [upd, c0', c2', q1]; done)
            · intro ff kk ww hkk hI hd QQ' hQ
              try dsimp only
              have c3' : ff 3 = _ := DepsT.get hd (n := 3) (by decide)
              go_big_wp2_with fail
              refine hQ _ _ _ ?_ hI trivial rfl
              first | rfl | (simp [upd, c3']; done)
            · intro ff kk ww hkk hI hd QQ' hQ
              try dsimp only
              have c4' : ff 4 = _ := DepsT.get hd (n := 4) (by decide)
              go_big_wp2_with fail
              refine hQ _ undef _ ?_ hI trivial trivial
              first | rfl | (simp [upd, c4']; done)
            · intro ff kk ww hkk hI hd QQ' hQ
              try dsimp only
              have c4' : ff 4 = _ := DepsT.get hd (n := 4) (by decide)
              go_big_wp2_with fail
              refine hQ _ undef _ ?_ hI trivial trivial
              first | rfl | (simp [upd, c4']; done)
            · intro ff kk ww hkk hI hd QQ' hQ
              try dsimp only
              have c4' : ff 4 = _ := DepsT.get hd (n := 4) (by decide)
              go_big_wp2_with fail
              refine hQ _ undef _ ?_ hI trivial trivial
              first | rfl | (simp [upd, c4']; done)
            · intro ff kk ww hkk hI hd QQ' hQ
              try dsimp only
              have c4' : ff 4 = _ := DepsT.get hd (n := 4) (by decide)
              go_big_wp2_with fail
              refine hQ _ undef _ ?_ hI trivial trivial
              first | rfl | (simp [upd, c4']; done)
            · intro ff kk ww hkk hI hd QQ' hQ
              try dsimp only
              have c4' : ff 4 = _ := DepsT.get hd (n := 4) (by decide)
              go_big_wp2_with fail
              refine hQ _ _ _ ?_ hI trivial rfl
              first | rfl | (simp [upd, c4']; done)
            · intro ff kk ww hkk hI hd QQ' hQ
              try dsimp only
              have c9' : ff 9 = _ := DepsT.get hd (n := 9) (by decide)
              go_big_wp2_with fail
              refine hQ _ _ _ ?_ hI trivial rfl
              first | rfl | (simp [upd, c9']; done)
            · intro ff kk ww hkk hI hd QQ' hQ
              try dsimp only
              have c10' : ff 10 = _ := DepsT.get hd (n := 10) (by decide)
              go_big_wp2_with fail
              refine hQ _ undef _ ?_ hI trivial trivial
              first | rfl | (simp [upd, c10']; done)
            · intro ff kk ww hkk hI hd QQ' hQ
              try dsimp only
              have c10' : ff 10 = _ := DepsT.get hd (n := 10) (by decide)
              go_big_wp2_with fail
              refine hQ _ undef _ ?_ hI trivial trivial
              first | rfl | (simp [upd, c10']; done)
            · intro ff kk ww hkk hI hd QQ' hQ
              try dsimp only
              have c10' : ff 10 = _ := DepsT.get hd (n := 10) (by decide)
              go_big_wp2_with fail
              refine hQ _ undef _ ?_ hI trivial rfl
              first | rfl | (simp [upd, c10']; done)
            · intro ff kk ww hkk hI hd QQ' hQ
              try dsimp only
              have c13' : ff 13 = _ := DepsT.get hd (n := 13) (by decide)
              go_big_wp2_with fail
              refine hQ _ undef _ ?_ hI trivial trivial
              first | rfl | (simp [upd, c13']; done)
            · intro ff kk ww hkk hI hd QQ' hQ
              try dsimp only
              have c13' : ff 13 = _ := DepsT.get hd (n := 13) (by decide)
              go_big_wp2_with fail
              refine hQ _ undef _ ?_ hI trivial trivial
              first | rfl | (simp [upd, c13']; done)
            · intro ff kk ww hkk hI hd QQ' hQ
              try dsimp only
              have c13' : ff 13 = _ := DepsT.get hd (n := 13) (by decide)
              go_big_wp2_with fail
              refine hQ _ undef _ ?_ hI trivial trivial
              first | rfl | (simp [upd, c13']; done)
            · intro ff kk ww hkk hI hd QQ' hQ
              try dsimp only
              have c10' : ff 10 = _ := DepsT.get hd (n := 10) (by decide)
              go_big_wp2_with fail
              refine hQ _ undef _ ?_ hI trivial trivial
              first | rfl | (simp [upd, c10']; done)
            · intro ff kk ww hkk hI hd QQ' hQ
              try dsimp only
              have c10' : ff 10 = _ := DepsT.get hd (n := 10) (by decide)
              go_big_wp2_with fail
              refine hQ _ _ _ ?_ hI trivial rfl
              first | rfl | (simp [upd, c10']; done)
            · intro ff kk ww hkk hI hd QQ' hQ
              try dsimp only
              have c18' : ff 18 = _ := DepsT.get hd (n := 18) (by decide)
              go_big_wp2_with fail
              refine hQ _ _ _ ?_ hI trivial rfl
              first | rfl | (simp [upd, c18']; done)
            · intro ff kk ww hkk hI hd QQ' hQ
              try dsimp only
              have c19' : ff 19 = _ := DepsT.get hd (n := 19) (by decide)
              go_big_wp2_with fail
              refine hQ _ _ _ ?_ hI trivial rfl
              first | rfl | (simp [upd, c19']; done)
            · intro ff kk ww hkk hI hd QQ' hQ
              try dsimp only
              have c19' : ff 19 = _ := DepsT.get hd (n := 19) (by decide)
              have c20' : ff 20 = _ := DepsT.get hd (n := 20) (by decide)
              go_big_wp2_with fail
              refine hQ _ _ _ ?_ hI trivial rfl
              first | rfl | (simp [upd, c19', c20']; done)
            · intro ff kk ww hkk hI hd QQ' hQ
              try dsimp only
              have c19' : ff 19 = _ := DepsT.get hd (n := 19) (by decide)
              have c21' : ff 21 = _ := DepsT.get hd (n := 21) (by decide)
              go_big_wp2_with fail
              refine hQ _ _ _ ?_ hI trivial rfl
              first | rfl | (simp [upd, c19', c21']; done)
            · intro ff kk ww hkk hI hd QQ' hQ
              try dsimp only
              obtain ⟨z0, z1, z2, z3, z4, z5, z6, z7, z8, z9⟩ := legCells ((hI.block kB hlB).trans HXG.out)
              have c22' : ff 22 = _ := DepsT.get hd (n := 22) (by decide)
              go_big_wp2_with fail
              refine hQ _ _ _ ?_ hI trivial rfl
              first | rfl | (simp [upd, c22', LegV]; done)
            · intro ff kk ww hkk hI hd QQ' hQ
              try dsimp only
              have c22' : ff 22 = _ := DepsT.get hd (n := 22) (by decide)
              have c23' : ff 23 = _ := DepsT.get hd (n := 23) (by decide)
              go_big_wp2_with fail
              refine (okI (noHold d2) (noP p2') ww (HIG.out.kept hI) HFN.out HFT.out.2).mono ?_
              rintro e wa ⟨bb, rfl, hb, da⟩
              obtain rfl : bb = true := hb.out.2 HN.out
              go_big_wp2_with fail
              refine hQ _ _ wa ?_ (bt hI da) trivial rfl
              first | rfl | (simp [upd, c22', c23']; done)
            · intro ff kk ww hkk hI hd QQ' hQ
              try dsimp only
              obtain ⟨z0, z1, z2, z3, z4, z5, z6, z7, z8, z9⟩ := legCells ((hI.block kB hlB).trans HXG.out)
              have c22' : ff 22 = _ := DepsT.get hd (n := 22) (by decide)
              go_big_wp2_with fail
              refine hQ _ _ _ ?_ hI trivial rfl
              first | rfl | (simp [upd, c22', LegV]; done)
            · intro ff kk ww hkk hI hd QQ' hQ
              try dsimp only
              have c22' : ff 22 = _ := DepsT.get hd (n := 22) (by decide)
              have c25' : ff 25 = _ := DepsT.get hd (n := 25) (by decide)
              go_big_wp2_with fail
              refine (okM (noHold d2) (noP p2') ww (HIG.out.kept hI) HFN.out).mono ?_
              rintro e wa ⟨bb, rfl, hb, da⟩
              obtain rfl : bb = true := hb.out.2 HN.out
              go_big_wp2_with fail
              refine hQ _ _ wa ?_ (bt hI da) trivial rfl
              first | rfl | (simp [upd, c22', c25']; done)
            · intro ff kk ww hkk hI hd QQ' hQ
              try dsimp only
              have c22' : ff 22 = _ := DepsT.get hd (n := 22) (by decide)
              have c24' : ff 24 = _ := DepsT.get hd (n := 24) (by decide)
              have c26' : ff 26 = _ := DepsT.get hd (n := 26) (by decide)
              go_big_wp2_with fail
              refine hQ _ _ _ ?_ hI trivial rfl
              first | rfl | (simp [upd, c22', c24', c26']; done)
            · intro ff kk ww hkk hI hd QQ' hQ
              try dsimp only
              have c19' : ff 19 = _ := DepsT.get hd (n := 19) (by decide)
              have c22' : ff 22 = _ := DepsT.get hd (n := 22) (by decide)
              have c27' : ff 27 = _ := DepsT.get hd (n := 27) (by decide)
              go_big_wp2_with fail
              refine hQ _ _ _ ?_ hI trivial rfl
              first | rfl | (simp [upd, c19', c22', c27']; done)
            · intro ff kk ww hkk hI hd QQ' hQ
              try dsimp only
              have c19' : ff 19 = _ := DepsT.get hd (n := 19) (by decide)
              have c28' : ff 28 = _ := DepsT.get hd (n := 28) (by decide)
              go_big_wp2_with fail
              refine hQ _ _ _ ?_ hI trivial rfl
              first | rfl | (simp [upd, c19', c28']; done)
            · intro ff kk ww hkk hI hd QQ' hQ
              try dsimp only
              have c29' : ff 29 = _ := DepsT.get hd (n := 29) (by decide)
              go_big_wp2_with fail
              refine hQ _ _ _ ?_ hI trivial rfl
              first | rfl | (simp [upd, c29']; done)
          case hendc =>
          intro ff kk wz dz hS
          try dsimp only
          have cz : ff 30 = _ := hS 30 (by decide)
          have HBz := Lib.hid (HBG.out.trans (dz.mono hwG))
          rw [cz]
          clear cz hS dz
          go_wp2
          go_ret
          exact ⟨rfl, HBz.out⟩
        · skip
          have HFN : Hid (Fits (noHold d2)) := ⟨HFT.out.1.1, HFT.out.1.2.1, HFT.out.1.2.2.1, HFT.out.1.2.2.2.1, HFT.out.1.2.2.2.2.1, HFT.out.1.2.2.2.2.2.1, Nat.zero_le _⟩
          have HEN : Hid (legO (noHold d2) = ⟨#[]⟩) := by show _ = _; unfold legO; rw [if_neg hN]
          have HQ : Hid (((⟨#[]⟩ : ByteArray).toList.isEmpty) = true) := by show _ = _; rw [Lib.toList_data]; rfl
          rw [HE0.out]
          clear hN hok
          refine wp_region_free' (by kernel_rfl) (fun _ W => Below wG.heap.size wG W) (fun _ _ => True) (SLb ⟨#[]⟩ ⟨#[]⟩ d2 d3 p2' p3') (by kernel_rfl) (fun i k v W W' h _ _ => h) ((Below.refl _ _).drew) ?_
          apply Exists.intro
          apply And.intro
          · intro f
            simp only [over, List.set]
            exact rfl
          refine ⟨?hopsb, ?hendb⟩
          case hopsb =>
            refine EachOp.cons ?_ (EachOp.cons ?_ (EachOp.cons ?_ (EachOp.cons ?_ (EachOp.cons ?_ (EachOp.cons ?_ (EachOp.cons ?_ (EachOp.cons ?_ (EachOp.cons ?_ (EachOp.cons ?_ (EachOp.cons ?_ (EachOp.cons ?_ (EachOp.cons ?_ (EachOp.cons ?_ (EachOp.cons ?_ (EachOp.cons ?_ (EachOp.cons ?_ (EachOp.cons ?_ (EachOp.cons ?_ (EachOp.cons ?_ (EachOp.cons ?_ (EachOp.cons ?_ (EachOp.cons ?_ (EachOp.cons ?_ (EachOp.cons ?_ (EachOp.cons ?_ (EachOp.cons ?_ (EachOp.cons ?_ (EachOp.cons ?_ (EachOp.cons ?_ (EachOp.cons ?_ (EachOp.nil)))))))))))))))))))))))))))))))
            · intro ff kk ww hkk hI hd QQ' hQ
              try dsimp only
              go_big_wp2_with fail
              refine hQ _ _ _ ?_ hI trivial rfl
              first | rfl | (simp [upd]; done)
            · intro ff kk ww hkk hI hd QQ' hQ
              try dsimp only
              obtain ⟨z0, z1, z2, z3, z4, z5, z6, z7, z8, z9⟩ := legCells ((hI.block kB hlB).trans HXG.out)
              go_big_wp2_with fail
              refine hQ _ _ _ ?_ hI trivial rfl
              first | rfl | (simp [upd, LegV]; done)
            · intro ff kk ww hkk hI hd QQ' hQ
              try dsimp only
              have c1' : ff 1 = _ := DepsT.get hd (n := 1) (by decide)
              go_big_wp2_with fail
              refine (writeS (noHold d2) (noP p2') ww (HIG.out.kept hI) HFN.out).mono ?_
              rintro e wa ⟨o, rfl, ho, da⟩
              obtain rfl := legO_of ho.out
              rw [HEN.out]
              go_big_wp2_with fail
              refine hQ _ _ wa ?_ (bt hI da) trivial rfl
              first | rfl | (simp [upd, c1']; done)
            · intro ff kk ww hkk hI hd QQ' hQ
              try dsimp only
              have c0' : ff 0 = _ := DepsT.get hd (n := 0) (by decide)
              have c2' : ff 2 = _ := DepsT.get hd (n := 2) (by decide)
              go_big_wp2_with fail
              refine hQ _ _ _ ?_ hI trivial rfl
              first | rfl | (simp [upd, c0', c2']; done)
            · intro ff kk ww hkk hI hd QQ' hQ
              try dsimp only
              have c3' : ff 3 = _ := DepsT.get hd (n := 3) (by decide)
              go_big_wp2_with fail
              refine hQ _ _ _ ?_ hI trivial rfl
              first | rfl | (simp [upd, c3']; done)
            · intro ff kk ww hkk hI hd QQ' hQ
              try dsimp only
              have c4' : ff 4 = _ := DepsT.get hd (n := 4) (by decide)
              go_big_wp2_with fail
              refine hQ _ _ _ ?_ hI trivial rfl
              first | rfl | (simp [upd, c4']; done)
            · intro ff kk ww hkk hI hd QQ' hQ
              try dsimp only
              have c4' : ff 4 = _ := DepsT.get hd (n := 4) (by decide)
              go_big_wp2_with fail
              refine hQ _ _ _ ?_ hI trivial rfl
              first | rfl | (simp [upd, c4']; done)
            · intro ff kk ww hkk hI hd QQ' hQ
              try dsimp only
              have q1 := HQ.out
              have c4' : ff 4 = _ := DepsT.get hd (n := 4) (by decide)
              have c6' : ff 6 = _ := DepsT.get hd (n := 6) (by decide)
              go_big_wp2_with fail
              refine hQ _ _ _ ?_ hI trivial rfl
              first | rfl | (simp [upd, c4', c6']; done)
            · intro ff kk ww hkk hI hd QQ' hQ
              try dsimp only
              have c4' : ff 4 = _ := DepsT.get hd (n := 4) (by decide)
              have c5' : ff 5 = _ := DepsT.get hd (n := 5) (by decide)
              have c7' : ff 7 = _ := DepsT.get hd (n := 7) (by decide)
              go_big_wp2_with fail
              refine hQ _ _ _ ?_ hI trivial rfl
              first | rfl | (simp [upd, c4', c5', c7']; done)
            · intro ff kk ww hkk hI hd QQ' hQ
              try dsimp only
              have c4' : ff 4 = _ := DepsT.get hd (n := 4) (by decide)
              have c8' : ff 8 = _ := DepsT.get hd (n := 8) (by decide)
              go_big_wp2_with fail
              refine hQ _ _ _ ?_ hI trivial rfl
              first | rfl | (simp [upd, c4', c8']; done)
            · intro ff kk ww hkk hI hd QQ' hQ
              try dsimp only
              have c9' : ff 9 = _ := DepsT.get hd (n := 9) (by decide)
              go_big_wp2_with fail
              refine hQ _ _ _ ?_ hI trivial rfl
              first | rfl | (simp [upd, c9']; done)
            · intro ff kk ww hkk hI hd QQ' hQ
              try dsimp only
              have c10' : ff 10 = _ := DepsT.get hd (n := 10) (by decide)
              go_big_wp2_with fail
              refine hQ _ _ _ ?_ hI trivial rfl
              first | rfl | (simp [upd, c10']; done)
            · intro ff kk ww hkk hI hd QQ' hQ
              try dsimp only
              have c10' : ff 10 = _ := DepsT.get hd (n := 10) (by decide)
              have c11' : ff 11 = _ := DepsT.get hd (n := 11) (by decide)
              go_big_wp2_with fail
              refine hQ _ _ _ ?_ hI trivial rfl
              first | rfl | (simp [upd, c10', c11']; done)
            · intro ff kk ww hkk hI hd QQ' hQ
              try dsimp only
              have c10' : ff 10 = _ := DepsT.get hd (n := 10) (by decide)
              have c12' : ff 12 = _ := DepsT.get hd (n := 12) (by decide)
              go_big_wp2_with fail
              refine hQ _ _ _ ?_ hI trivial rfl
              first | rfl | (simp [upd, c10', c12']; done)
            · intro ff kk ww hkk hI hd QQ' hQ
              try dsimp only
              have c13' : ff 13 = _ := DepsT.get hd (n := 13) (by decide)
              go_big_wp2_with fail
              refine hQ _ undef _ ?_ hI trivial trivial
              first | rfl | (simp [upd, c13']; done)
            · intro ff kk ww hkk hI hd QQ' hQ
              try dsimp only
              have c13' : ff 13 = _ := DepsT.get hd (n := 13) (by decide)
              go_big_wp2_with fail
              refine hQ _ undef _ ?_ hI trivial trivial
              first | rfl | (simp [upd, c13']; done)
            · intro ff kk ww hkk hI hd QQ' hQ
              try dsimp only
              have c13' : ff 13 = _ := DepsT.get hd (n := 13) (by decide)
              go_big_wp2_with fail
              refine hQ _ undef _ ?_ hI trivial trivial
              first | rfl | (simp [upd, c13']; done)
            · intro ff kk ww hkk hI hd QQ' hQ
              try dsimp only
              have c10' : ff 10 = _ := DepsT.get hd (n := 10) (by decide)
              have c13' : ff 13 = _ := DepsT.get hd (n := 13) (by decide)
              go_big_wp2_with fail
              refine hQ _ _ _ ?_ hI trivial rfl
              first | rfl | (simp [upd, c10', c13']; done)
            · intro ff kk ww hkk hI hd QQ' hQ
              try dsimp only
              have c10' : ff 10 = _ := DepsT.get hd (n := 10) (by decide)
              have c17' : ff 17 = _ := DepsT.get hd (n := 17) (by decide)
              go_big_wp2_with fail
              refine hQ _ _ _ ?_ hI trivial rfl
              first | rfl | (simp [upd, c10', c17']; done)
            · intro ff kk ww hkk hI hd QQ' hQ
              try dsimp only
              have c18' : ff 18 = _ := DepsT.get hd (n := 18) (by decide)
              go_big_wp2_with fail
              refine hQ _ _ _ ?_ hI trivial rfl
              first | rfl | (simp [upd, c18']; done)
            · intro ff kk ww hkk hI hd QQ' hQ
              try dsimp only
              have c19' : ff 19 = _ := DepsT.get hd (n := 19) (by decide)
              go_big_wp2_with fail
              refine hQ _ undef _ ?_ hI trivial trivial
              first | rfl | (simp [upd, c19']; done)
            · intro ff kk ww hkk hI hd QQ' hQ
              try dsimp only
              have c19' : ff 19 = _ := DepsT.get hd (n := 19) (by decide)
              go_big_wp2_with fail
              refine hQ _ undef _ ?_ hI trivial trivial
              first | rfl | (simp [upd, c19']; done)
            · intro ff kk ww hkk hI hd QQ' hQ
              try dsimp only
              have c19' : ff 19 = _ := DepsT.get hd (n := 19) (by decide)
              go_big_wp2_with fail
              refine hQ _ undef _ ?_ hI trivial rfl
              first | rfl | (simp [upd, c19']; done)
            · intro ff kk ww hkk hI hd QQ' hQ
              try dsimp only
              have c22' : ff 22 = _ := DepsT.get hd (n := 22) (by decide)
              go_big_wp2_with fail
              refine hQ _ undef _ ?_ hI trivial trivial
              first | rfl | (simp [upd, c22']; done)
            · intro ff kk ww hkk hI hd QQ' hQ
              try dsimp only
              have c22' : ff 22 = _ := DepsT.get hd (n := 22) (by decide)
              go_big_wp2_with fail
              refine hQ _ undef _ ?_ hI trivial trivial
              first | rfl | (simp [upd, c22']; done)
            · intro ff kk ww hkk hI hd QQ' hQ
              try dsimp only
              have c22' : ff 22 = _ := DepsT.get hd (n := 22) (by decide)
              go_big_wp2_with fail
              refine hQ _ undef _ ?_ hI trivial trivial
              first | rfl | (simp [upd, c22']; done)
            · intro ff kk ww hkk hI hd QQ' hQ
              try dsimp only
              have c22' : ff 22 = _ := DepsT.get hd (n := 22) (by decide)
              go_big_wp2_with fail
              refine hQ _ undef _ ?_ hI trivial trivial
              first | rfl | (simp [upd, c22']; done)
            · intro ff kk ww hkk hI hd QQ' hQ
              try dsimp only
              have c22' : ff 22 = _ := DepsT.get hd (n := 22) (by decide)
              go_big_wp2_with fail
              refine hQ _ undef _ ?_ hI trivial trivial
              first | rfl | (simp [upd, c22']; done)
            · intro ff kk ww hkk hI hd QQ' hQ
              try dsimp only
              have c19' : ff 19 = _ := DepsT.get hd (n := 19) (by decide)
              go_big_wp2_with fail
              refine hQ _ undef _ ?_ hI trivial trivial
              first | rfl | (simp [upd, c19']; done)
            · intro ff kk ww hkk hI hd QQ' hQ
              try dsimp only
              have c19' : ff 19 = _ := DepsT.get hd (n := 19) (by decide)
              go_big_wp2_with fail
              refine hQ _ _ _ ?_ hI trivial rfl
              first | rfl | (simp [upd, c19']; done)
            · intro ff kk ww hkk hI hd QQ' hQ
              try dsimp only
              have c29' : ff 29 = _ := DepsT.get hd (n := 29) (by decide)
              go_big_wp2_with fail
              refine hQ _ _ _ ?_ hI trivial rfl
              first | rfl | (simp [upd, c29']; done)
          case hendb =>
          intro ff kk wz dz hS
          try dsimp only
          have cz : ff 30 = _ := hS 30 (by decide)
          have HBz := Lib.hid (HBG.out.trans (dz.mono hwG))
          rw [cz]
          clear cz hS dz
          go_wp2
          go_ret
          exact ⟨rfl, HBz.out⟩

  · rcases Nat.lt_or_ge 1048576 len0 with c | c
    · have g0 : decide ((1048576 : Int) < (len0 : Int)) = true := decide_eq_true (by omega)
      have g0n : decide (1048576 < len0) = true := decide_eq_true c
      clear hz
      go_enter Tryz.func4, Tryz.ntmps4
      go_wp2
      go_ret
      exact ⟨rfl, Below.refl _ _⟩
    · have g0 : decide ((1048576 : Int) < (len0 : Int)) = false := decide_eq_false (by omega)
      have g0n : decide (1048576 < len0) = false := decide_eq_false (by omega)
      have g1 : decide ((1048576 : Int) < (len1 : Int)) = true := decide_eq_true (by omega)
      have g1n : decide (1048576 < len1) = true := decide_eq_true (by omega)
      clear hz
      go_enter Tryz.func4, Tryz.ntmps4
      go_wp2
      go_ret
      exact ⟨rfl, Below.refl _ _⟩
end Go.Proofs.YtdaccpffdnbkiaaGreatDoor
