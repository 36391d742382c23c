/-
  The law that holds the program's LegKeep against the model's.
-/
import Derived.Test.YtkaegojnhealhaaOpenLeg
import Derived.Test.YtkaegojnhealhaaLawLeg
import Derived.Test.YtkaegojnhealhaaLegMark
import Derived.Test.YtkaegojnhealhaaLegKeepS
namespace Go.Proofs.Ytkaegojnhealhaa
open Go.RowKit
set_option linter.unusedVariables false
set_option linter.unusedSimpArgs false

theorem post_oneKeep {d g a b : LegD} (h : (OkLeg d → a = g) ∧ (¬ OkLeg d → a = zeroD)) (k : (OkLeg d → b = g) ∧ (¬ OkLeg d → b = zeroD)) : a = b := by
  by_cases q : OkLeg d
  · rw [h.1 q, k.1 q]
  · rw [h.2 q, k.2 q]
theorem fits_ofKeep {d a : LegD} {txn : Int} (hf : Fits d) (h : (OkLeg d → a = keepD d txn) ∧ (¬ OkLeg d → a = zeroD)) : Fits a := by
  by_cases q : OkLeg d
  · rw [h.1 q]
    obtain ⟨f1, f2, f3, f4, f5, f6, f7⟩ := hf
    unfold keepD
    split
    · exact ⟨f1, f2, f3, f4, f5, f6, by show d.nH - 1 ≤ _; omega⟩
    · exact ⟨f1, f2, f3, f4, f5, f6, f7⟩
  · rw [h.2 q]
    exact ⟨by decide, by decide, by decide, by decide, by decide, by decide, by decide⟩
theorem LegBx.outK {B T : Nat} {w w' : World} {b : Nat} {t : TypeId} {d : LegD} {p : LegP} (h : LegBx w b t d p) (k : KeepsOut B T w w') (hr : b < B ∨ T ≤ b) : LegBx w' b t d p := (k.block b (lt_heap h) hr).trans h

set_option maxRecDepth 100000 in
set_option maxHeartbeats 16000000 in
theorem exactLegKeep (d : LegD) (p : LegP) (txn : Int) (w : World) (w0 : LegRow w d p) :
    Calls Try.prog 7 #[.agg (LegA d p), .int .i64 txn] w fun e w' => e = .returned (.bool true) ∧ Below w.heap.size w w' := by
  obtain ⟨hin, hwide⟩ := w0
  have hAC : LegA d p = LegC d p := rfl
  have hbA : Below w.heap.size w (w.alloc (.cells (LegC d p) 25)) := (Below.refl _ _).alloc (Nat.le_refl _) _
  have hA := Lib.hid (LegBx.new w 25 d p)
  have HIN := Lib.hid hin
  have DA := Lib.hid hbA
  have HW := Lib.hid hwide
  have sA : w.heap.size < (w.alloc (.cells (LegC d p) 25)).heap.size := by simp
  rw [hAC]
  generalize hLC : LegC d p = LC at *
  have HLC := Lib.hid hLC
  clear hbA hin hwide hLC hAC
  have rA0 := hA.out.c0
  have rA1 := hA.out.c1
  have rA2 := hA.out.c2
  have rA3 := hA.out.c3
  have rA4 := hA.out.c4
  have rA5 := hA.out.c5
  have rA6 := hA.out.c6
  have rA7 := hA.out.c7
  have rA8 := hA.out.c8
  have rA9 := hA.out.c9
  go_enter Try.func7, Try.ntmps7
  go_wp2_with fail
  generalize w.alloc (.cells LC 25) = WA at *
  refine (szLegS d p WA HW.out).mono ?_
  rintro e w1 ⟨r, r0, r1, rfl, hr, d1⟩
  rcases Int.lt_or_le r 0 with c | c
  · have z0 : decide (r < 0) = true := decide_eq_true c
    clear rA0 rA1 rA2 rA3 rA4 rA5 rA6 rA7 rA8 rA9
    go_wp2
    go_ret
    exact ⟨rfl, bt DA.out d1⟩
  have z0 : decide (r < 0) = false := decide_eq_false (by omega)
  have HF := Lib.hid (hr.out c)
  have s1 := d1.size
  have D1 := Lib.hid (bt DA.out d1)
  clear rA0 rA1 rA2 rA3 rA4 rA5 rA6 rA7 rA8 rA9
  have BA_1 := Lib.hid (hA.out.kept d1)
  clear hA
  clear d1 hr
  have rA0 := BA_1.out.c0
  have rA1 := BA_1.out.c1
  have rA2 := BA_1.out.c2
  have rA3 := BA_1.out.c3
  have rA4 := BA_1.out.c4
  have rA5 := BA_1.out.c5
  have rA6 := BA_1.out.c6
  have rA7 := BA_1.out.c7
  have rA8 := BA_1.out.c8
  have rA9 := BA_1.out.c9
  go_wp2_with fail
  refine (toLegW d p w1 (HIN.out.kept D1.out) HF.out).mono ?_
  rintro e w2 ⟨p2, rfl, new2, d2⟩
  have s2 := d2.size
  have D2 := Lib.hid (bt D1.out d2)
  have New2 := Lib.hid new2
  clear rA0 rA1 rA2 rA3 rA4 rA5 rA6 rA7 rA8 rA9
  have BA_2 := Lib.hid (BA_1.out.kept d2)
  clear BA_1
  clear d2 new2
  unfold LegV
  go_wp2_with fail
  refine (LegKeepM d p2 txn w2 New2.out.leg HF.out New2.out.1.2.2.2).mono ?_
  rintro e w3 ⟨g, p3, rfl, hg, new3, d3⟩
  have s3 := d3.size
  have D3 := Lib.hid (bt D2.out d3)
  have HFg := Lib.hid (fits_ofKeep HF.out hg.out)
  have new3h := Lib.hid new3.toT
  have BA_3 := Lib.hid (BA_2.out.kept d3)
  clear BA_2
  clear d3 new3
  have hw6 := legRowBelow w3 (LegC g p3)
  have hx6 := Lib.hid (legRowBox w3 g p3)
  have BA_4 := Lib.hid (BA_3.out.kept hw6)
  clear BA_3
  have N3_4 := Lib.hid (new3h.out.kept hw6)
  clear new3h
  have D6 := Lib.hid (bt D3.out hw6)
  have sg6 : w3.heap.size < ((w3.alloc (.cells #[.string ⟨#[]⟩, .string ⟨#[]⟩, .string ⟨#[]⟩, .int .i64 0, .int .i64 0, .int .i64 0, .slice none 0 0, .slice none 0 0, .slice none 0 0, .slice none 0 0] 30)).setRow w3.heap.size (LegC g p3)).heap.size := lt_heap hx6.out
  clear hw6
  have rA0 := BA_4.out.c0
  have rA1 := BA_4.out.c1
  have rA2 := BA_4.out.c2
  have rA3 := BA_4.out.c3
  have rA4 := BA_4.out.c4
  have rA5 := BA_4.out.c5
  have rA6 := BA_4.out.c6
  have rA7 := BA_4.out.c7
  have rA8 := BA_4.out.c8
  have rA9 := BA_4.out.c9
  go_wp2_with (first
    | (refine wpList_store_row rfl 30 _ _ rfl w3.heap.size (LegC g p3) rfl rfl 30 #[.string ⟨#[]⟩, .string ⟨#[]⟩, .string ⟨#[]⟩, .int .i64 0, .int .i64 0, .int .i64 0, .slice none 0 0, .slice none 0 0, .slice none 0 0, .slice none 0 0] (heap_alloc_new w3 _) legSize rfl (leg_one g p3) ?_)
    | fail)
  generalize ((w3.alloc (.cells #[.string ⟨#[]⟩, .string ⟨#[]⟩, .string ⟨#[]⟩, .int .i64 0, .int .i64 0, .int .i64 0, .slice none 0 0, .slice none 0 0, .slice none 0 0, .slice none 0 0] 30)).setRow w3.heap.size (LegC g p3)) = X6 at *
  refine (toLegW d p X6 (HIN.out.kept D6.out) HF.out).mono ?_
  rintro e w4 ⟨p4, rfl, new4, d4⟩
  have s4 := d4.size
  have D4 := Lib.hid (bt D6.out d4)
  have new4h := Lib.hid new4.toT
  unfold LegV
  clear rA0 rA1 rA2 rA3 rA4 rA5 rA6 rA7 rA8 rA9
  have BA_5 := Lib.hid (BA_4.out.kept d4)
  have B6_5 := Lib.hid (hx6.out.kept d4)
  have N3_5 := Lib.hid (N3_4.out.kept d4)
  clear BA_4 hx6 N3_4
  clear d4 new4
  have hw7 := legRowBelow w4 (LegC d p4)
  have hx7 := Lib.hid (legRowBox w4 d p4)
  have BA_6 := Lib.hid (BA_5.out.kept hw7)
  clear BA_5
  have B6_6 := Lib.hid (B6_5.out.kept hw7)
  clear B6_5
  have N3_6 := Lib.hid (N3_5.out.kept hw7)
  clear N3_5
  have N4_6 := Lib.hid (new4h.out.kept hw7)
  clear new4h
  have D7 := Lib.hid (bt D4.out hw7)
  have sg7 : w4.heap.size < ((w4.alloc (.cells #[.string ⟨#[]⟩, .string ⟨#[]⟩, .string ⟨#[]⟩, .int .i64 0, .int .i64 0, .int .i64 0, .slice none 0 0, .slice none 0 0, .slice none 0 0, .slice none 0 0] 30)).setRow w4.heap.size (LegC d p4)).heap.size := lt_heap hx7.out
  clear hw7
  have r70 := hx7.out.c0
  have r71 := hx7.out.c1
  have r72 := hx7.out.c2
  have r73 := hx7.out.c3
  have r74 := hx7.out.c4
  have r75 := hx7.out.c5
  have r76 := hx7.out.c6
  have r77 := hx7.out.c7
  have r78 := hx7.out.c8
  have r79 := hx7.out.c9
  go_wp2_with (first
    | (refine wpList_store_row rfl 30 _ _ rfl w4.heap.size (LegC d p4) rfl rfl 30 #[.string ⟨#[]⟩, .string ⟨#[]⟩, .string ⟨#[]⟩, .int .i64 0, .int .i64 0, .int .i64 0, .slice none 0 0, .slice none 0 0, .slice none 0 0, .slice none 0 0] (heap_alloc_new w4 _) legSize rfl (leg_one d p4) ?_)
    | fail)
  generalize ((w4.alloc (.cells #[.string ⟨#[]⟩, .string ⟨#[]⟩, .string ⟨#[]⟩, .int .i64 0, .int .i64 0, .int .i64 0, .slice none 0 0, .slice none 0 0, .slice none 0 0, .slice none 0 0] 30)).setRow w4.heap.size (LegC d p4)) = X7 at *
  refine (LegKeepI d p4 txn X7 N4_6.out.new.leg HF.out N4_6.out.1.2.1).mono ?_
  rintro e w5 ⟨g', p5, rfl, hg', new5, d5⟩
  obtain rfl : g = g' := post_oneKeep hg.out hg'.out
  have s5 := d5.size
  have D5 := Lib.hid (bt D7.out d5)
  have new5h := Lib.hid new5.toT
  unfold LegV
  clear r70 r71 r72 r73 r74 r75 r76 r77 r78 r79
  have BA_7 := Lib.hid (BA_6.out.kept d5)
  have B6_7 := Lib.hid (B6_6.out.kept d5)
  have B7_7 := Lib.hid (hx7.out.kept d5)
  have N3_7 := Lib.hid (N3_6.out.kept d5)
  have N4_7 := Lib.hid (N4_6.out.kept d5)
  clear BA_6 B6_6 hx7 N3_6 N4_6
  clear d5 new5 hg'
  have hw8 := legRowBelow w5 (LegC g p5)
  have hx8 := Lib.hid (legRowBox w5 g p5)
  have BA_8 := Lib.hid (BA_7.out.kept hw8)
  clear BA_7
  have B6_8 := Lib.hid (B6_7.out.kept hw8)
  clear B6_7
  have B7_8 := Lib.hid (B7_7.out.kept hw8)
  clear B7_7
  have N3_8 := Lib.hid (N3_7.out.kept hw8)
  clear N3_7
  have N4_8 := Lib.hid (N4_7.out.kept hw8)
  clear N4_7
  have N5_8 := Lib.hid (new5h.out.kept hw8)
  clear new5h
  have D8 := Lib.hid (bt D5.out hw8)
  have sg8 : w5.heap.size < ((w5.alloc (.cells #[.string ⟨#[]⟩, .string ⟨#[]⟩, .string ⟨#[]⟩, .int .i64 0, .int .i64 0, .int .i64 0, .slice none 0 0, .slice none 0 0, .slice none 0 0, .slice none 0 0] 30)).setRow w5.heap.size (LegC g p5)).heap.size := lt_heap hx8.out
  clear hw8
  have r80 := hx8.out.c0
  have r81 := hx8.out.c1
  have r82 := hx8.out.c2
  have r83 := hx8.out.c3
  have r84 := hx8.out.c4
  have r85 := hx8.out.c5
  have r86 := hx8.out.c6
  have r87 := hx8.out.c7
  have r88 := hx8.out.c8
  have r89 := hx8.out.c9
  have r60 := B6_8.out.c0
  have r61 := B6_8.out.c1
  have r62 := B6_8.out.c2
  have r63 := B6_8.out.c3
  have r64 := B6_8.out.c4
  have r65 := B6_8.out.c5
  have r66 := B6_8.out.c6
  have r67 := B6_8.out.c7
  have r68 := B6_8.out.c8
  have r69 := B6_8.out.c9
  go_wp2_with (first
    | (refine wpList_store_row rfl 30 _ _ rfl w5.heap.size (LegC g p5) rfl rfl 30 #[.string ⟨#[]⟩, .string ⟨#[]⟩, .string ⟨#[]⟩, .int .i64 0, .int .i64 0, .int .i64 0, .slice none 0 0, .slice none 0 0, .slice none 0 0, .slice none 0 0] (heap_alloc_new w5 _) legSize rfl (leg_one g p5) ?_)
    | fail)
  generalize ((w5.alloc (.cells #[.string ⟨#[]⟩, .string ⟨#[]⟩, .string ⟨#[]⟩, .int .i64 0, .int .i64 0, .int .i64 0, .slice none 0 0, .slice none 0 0, .slice none 0 0, .slice none 0 0] 30)).setRow w5.heap.size (LegC g p5)) = X8 at *
  refine (eqLegS g p5 p3 X8 N5_8.out.new.leg N3_8.out.new.leg HFg.out).mono ?_
  rintro e w9 ⟨rfl, d9⟩
  have s9 := d9.size
  have D9 := Lib.hid (bt D8.out d9)
  clear r80 r81 r82 r83 r84 r85 r86 r87 r88 r89
  clear r60 r61 r62 r63 r64 r65 r66 r67 r68 r69
  have BA_9 := Lib.hid (BA_8.out.kept d9)
  have B6_9 := Lib.hid (B6_8.out.kept d9)
  have B7_9 := Lib.hid (B7_8.out.kept d9)
  have B8_9 := Lib.hid (hx8.out.kept d9)
  have N3_9 := Lib.hid (N3_8.out.kept d9)
  have N4_9 := Lib.hid (N4_8.out.kept d9)
  have N5_9 := Lib.hid (N5_8.out.kept d9)
  clear BA_8 B6_8 B7_8 hx8 N3_8 N4_8 N5_8
  clear d9
  have r70 := B7_9.out.c0
  have r71 := B7_9.out.c1
  have r72 := B7_9.out.c2
  have r73 := B7_9.out.c3
  have r74 := B7_9.out.c4
  have r75 := B7_9.out.c5
  have r76 := B7_9.out.c6
  have r77 := B7_9.out.c7
  have r78 := B7_9.out.c8
  have r79 := B7_9.out.c9
  have rA0 := BA_9.out.c0
  have rA1 := BA_9.out.c1
  have rA2 := BA_9.out.c2
  have rA3 := BA_9.out.c3
  have rA4 := BA_9.out.c4
  have rA5 := BA_9.out.c5
  have rA6 := BA_9.out.c6
  have rA7 := BA_9.out.c7
  have rA8 := BA_9.out.c8
  have rA9 := BA_9.out.c9
  go_wp2_with fail
  go_region_with (first
    | (go_at_call 11; refine (toLegS d p _ (HIN.out.kept D9.out.drew) HF.out).mono ?_; rintro e w10 ⟨p6, rfl, hi6, hc6, dd6⟩; unfold LegV; have d10 : Below w9.heap.size w9 w10 := (Below.refl _ w9).drew.trans dd6; have X7b := B7_9.out.kept d10; have y0 := X7b.c0; have y1 := X7b.c1; have y2 := X7b.c2; have y3 := X7b.c3; have y4 := X7b.c4; have y5 := X7b.c5; have y6 := X7b.c6; have y7 := X7b.c7; have y8 := X7b.c8; have y9 := X7b.c9)
    | (go_at_call 13; refine (eqLegS d p4 p6 _ (N4_9.out.new.leg.kept d10) hi6 HF.out).mono ?_; rintro e w11 ⟨rfl, d11⟩))
  all_goals
    have d9b := bt d10 d11
    have D11 := Lib.hid (bt D9.out d9b)
    have s11 := d9b.size
    clear y0 y1 y2 y3 y4 y5 y6 y7 y8 y9 X7b hi6 hc6
    clear r70 r71 r72 r73 r74 r75 r76 r77 r78 r79
    clear rA0 rA1 rA2 rA3 rA4 rA5 rA6 rA7 rA8 rA9
    have BA_10 := Lib.hid (BA_9.out.kept d9b)
    have B6_10 := Lib.hid (B6_9.out.kept d9b)
    have B7_10 := Lib.hid (B7_9.out.kept d9b)
    have B8_10 := Lib.hid (B8_9.out.kept d9b)
    have N3_10 := Lib.hid (N3_9.out.kept d9b)
    have N4_10 := Lib.hid (N4_9.out.kept d9b)
    have N5_10 := Lib.hid (N5_9.out.kept d9b)
    clear BA_9 B6_9 B7_9 B8_9 N3_9 N4_9 N5_9
    clear d9b d10 d11 dd6
    have hm1 : 0 ≤ markN d 1 := by unfold markN; omega
    have z1 : decide (markN d 1 < 0) = false := decide_eq_false (by omega)
    have hm2 : 0 ≤ markN g 1 := by unfold markN; omega
    have z2 : decide (markN g 1 < 0) = false := decide_eq_false (by omega)
    have r70 := B7_10.out.c0
    have r71 := B7_10.out.c1
    have r72 := B7_10.out.c2
    have r73 := B7_10.out.c3
    have r74 := B7_10.out.c4
    have r75 := B7_10.out.c5
    have r76 := B7_10.out.c6
    have r77 := B7_10.out.c7
    have r78 := B7_10.out.c8
    have r79 := B7_10.out.c9
    go_wp2_with fail
    refine (markLegI X6.heap.size w4.heap.size d p4 1 w11 N4_10.out HF.out (by omega) (by omega)).mono ?_
    rintro e w12 ⟨rfl, k12, m12⟩
    have D12 := Lib.hid (D11.out.trans ((k12.below (by omega)).mono (by omega)))
    have s12 := k12.size
    clear r70 r71 r72 r73 r74 r75 r76 r77 r78 r79
    have BA_11 := Lib.hid (BA_10.out.outK k12 (by omega))
    have B6_11 := Lib.hid (B6_10.out.outK k12 (by omega))
    have B7_11 := Lib.hid (B7_10.out.outK k12 (by omega))
    have B8_11 := Lib.hid (B8_10.out.outK k12 (by omega))
    have N3_11 := Lib.hid (N3_10.out.out k12 (by omega))
    have N5_11 := Lib.hid (N5_10.out.out k12 (by omega))
    clear BA_10 B6_10 B7_10 B8_10 N3_10 N5_10
    clear k12 m12
    have r80 := B8_11.out.c0
    have r81 := B8_11.out.c1
    have r82 := B8_11.out.c2
    have r83 := B8_11.out.c3
    have r84 := B8_11.out.c4
    have r85 := B8_11.out.c5
    have r86 := B8_11.out.c6
    have r87 := B8_11.out.c7
    have r88 := B8_11.out.c8
    have r89 := B8_11.out.c9
    have r60 := B6_11.out.c0
    have r61 := B6_11.out.c1
    have r62 := B6_11.out.c2
    have r63 := B6_11.out.c3
    have r64 := B6_11.out.c4
    have r65 := B6_11.out.c5
    have r66 := B6_11.out.c6
    have r67 := B6_11.out.c7
    have r68 := B6_11.out.c8
    have r69 := B6_11.out.c9
    go_wp2_with fail
    refine (eqLegS g p5 p3 w12 N5_11.out.new.leg N3_11.out.new.leg HFg.out).mono ?_
    rintro e w13 ⟨rfl, d13⟩
    have D13 := Lib.hid (bt D12.out d13)
    have s13 := d13.size
    clear r80 r81 r82 r83 r84 r85 r86 r87 r88 r89
    clear r60 r61 r62 r63 r64 r65 r66 r67 r68 r69
    have BA_12 := Lib.hid (BA_11.out.kept d13)
    have B6_12 := Lib.hid (B6_11.out.kept d13)
    have B7_12 := Lib.hid (B7_11.out.kept d13)
    have B8_12 := Lib.hid (B8_11.out.kept d13)
    have N3_12 := Lib.hid (N3_11.out.kept d13)
    have N5_12 := Lib.hid (N5_11.out.kept d13)
    clear BA_11 B6_11 B7_11 B8_11 N3_11 N5_11
    clear d13
    have r80 := B8_12.out.c0
    have r81 := B8_12.out.c1
    have r82 := B8_12.out.c2
    have r83 := B8_12.out.c3
    have r84 := B8_12.out.c4
    have r85 := B8_12.out.c5
    have r86 := B8_12.out.c6
    have r87 := B8_12.out.c7
    have r88 := B8_12.out.c8
    have r89 := B8_12.out.c9
    go_wp2_with fail
    refine (markLegI X7.heap.size w5.heap.size g p5 1 w13 N5_12.out HFg.out (by omega) (by omega)).mono ?_
    rintro e w14 ⟨rfl, k14, m14⟩
    have D14 := Lib.hid (D13.out.trans ((k14.below (by omega)).mono (by omega)))
    have s14 := k14.size
    clear r80 r81 r82 r83 r84 r85 r86 r87 r88 r89
    have BA_13 := Lib.hid (BA_12.out.outK k14 (by omega))
    have B6_13 := Lib.hid (B6_12.out.outK k14 (by omega))
    have B7_13 := Lib.hid (B7_12.out.outK k14 (by omega))
    have B8_13 := Lib.hid (B8_12.out.outK k14 (by omega))
    have N3_13 := Lib.hid (N3_12.out.out k14 (by omega))
    clear BA_12 B6_12 B7_12 B8_12 N3_12
    have hM14 := Lib.hid m14
    clear k14 m14
    have r80 := B8_13.out.c0
    have r81 := B8_13.out.c1
    have r82 := B8_13.out.c2
    have r83 := B8_13.out.c3
    have r84 := B8_13.out.c4
    have r85 := B8_13.out.c5
    have r86 := B8_13.out.c6
    have r87 := B8_13.out.c7
    have r88 := B8_13.out.c8
    have r89 := B8_13.out.c9
    go_wp2_with fail
    refine (heldLegI g p5 1 w14 hM14.out HFg.out (by omega) (by omega)).mono ?_
    rintro e w15 ⟨rfl, d15⟩
    have D15 := Lib.hid (bt D14.out d15)
    have s15 := d15.size
    clear r80 r81 r82 r83 r84 r85 r86 r87 r88 r89
    have BA_14 := Lib.hid (BA_13.out.kept d15)
    have B6_14 := Lib.hid (B6_13.out.kept d15)
    have B7_14 := Lib.hid (B7_13.out.kept d15)
    have B8_14 := Lib.hid (B8_13.out.kept d15)
    have N3_14 := Lib.hid (N3_13.out.kept d15)
    have NM_14 := Lib.hid (hM14.out.kept d15)
    clear BA_13 B6_13 B7_13 B8_13 N3_13 hM14
    clear d15
    have rA0 := BA_14.out.c0
    have rA1 := BA_14.out.c1
    have rA2 := BA_14.out.c2
    have rA3 := BA_14.out.c3
    have rA4 := BA_14.out.c4
    have rA5 := BA_14.out.c5
    have rA6 := BA_14.out.c6
    have rA7 := BA_14.out.c7
    have rA8 := BA_14.out.c8
    have rA9 := BA_14.out.c9
    go_wp2_with fail
    refine (toLegW d p w15 (HIN.out.kept D15.out) HF.out).mono ?_
    rintro e w16 ⟨p7, rfl, new7, d16⟩
    have s16 := d16.size
    have D16 := Lib.hid (bt D15.out d16)
    have New7 := Lib.hid new7
    clear rA0 rA1 rA2 rA3 rA4 rA5 rA6 rA7 rA8 rA9
    have BA_15 := Lib.hid (BA_14.out.kept d16)
    have B6_15 := Lib.hid (B6_14.out.kept d16)
    have B7_15 := Lib.hid (B7_14.out.kept d16)
    have B8_15 := Lib.hid (B8_14.out.kept d16)
    have N3_15 := Lib.hid (N3_14.out.kept d16)
    have NM_15 := Lib.hid (NM_14.out.kept d16)
    clear BA_14 B6_14 B7_14 B8_14 N3_14 NM_14
    clear d16 new7
    unfold LegV
    go_wp2_with fail
    refine (LegKeepI d p7 txn w16 New7.out.leg HF.out New7.out.1.2.1).mono ?_
    rintro e w17 ⟨g', p8, rfl, hg', new8, d17⟩
    obtain rfl : g = g' := post_oneKeep hg.out hg'.out
    have s17 := d17.size
    have D17 := Lib.hid (bt D16.out d17)
    have new8h := Lib.hid new8.toT
    unfold LegV
    have BA_16 := Lib.hid (BA_15.out.kept d17)
    have B6_16 := Lib.hid (B6_15.out.kept d17)
    have B7_16 := Lib.hid (B7_15.out.kept d17)
    have B8_16 := Lib.hid (B8_15.out.kept d17)
    have N3_16 := Lib.hid (N3_15.out.kept d17)
    have NM_16 := Lib.hid (NM_15.out.kept d17)
    clear BA_15 B6_15 B7_15 B8_15 N3_15 NM_15
    clear d17 new8 hg'
    have hwQ := legRowBelow w17 (LegC g p8)
    have hxQ := Lib.hid (legRowBox w17 g p8)
    have BA_17 := Lib.hid (BA_16.out.kept hwQ)
    clear BA_16
    have B6_17 := Lib.hid (B6_16.out.kept hwQ)
    clear B6_16
    have B7_17 := Lib.hid (B7_16.out.kept hwQ)
    clear B7_16
    have B8_17 := Lib.hid (B8_16.out.kept hwQ)
    clear B8_16
    have N3_17 := Lib.hid (N3_16.out.kept hwQ)
    clear N3_16
    have NM_17 := Lib.hid (NM_16.out.kept hwQ)
    clear NM_16
    have N8_17 := Lib.hid (new8h.out.kept hwQ)
    clear new8h
    have DQ := Lib.hid (bt D17.out hwQ)
    have sgQ : w17.heap.size < ((w17.alloc (.cells #[.string ⟨#[]⟩, .string ⟨#[]⟩, .string ⟨#[]⟩, .int .i64 0, .int .i64 0, .int .i64 0, .slice none 0 0, .slice none 0 0, .slice none 0 0, .slice none 0 0] 30)).setRow w17.heap.size (LegC g p8)).heap.size := lt_heap hxQ.out
    clear hwQ
    have rQ0 := hxQ.out.c0
    have rQ1 := hxQ.out.c1
    have rQ2 := hxQ.out.c2
    have rQ3 := hxQ.out.c3
    have rQ4 := hxQ.out.c4
    have rQ5 := hxQ.out.c5
    have rQ6 := hxQ.out.c6
    have rQ7 := hxQ.out.c7
    have rQ8 := hxQ.out.c8
    have rQ9 := hxQ.out.c9
    have r60 := B6_17.out.c0
    have r61 := B6_17.out.c1
    have r62 := B6_17.out.c2
    have r63 := B6_17.out.c3
    have r64 := B6_17.out.c4
    have r65 := B6_17.out.c5
    have r66 := B6_17.out.c6
    have r67 := B6_17.out.c7
    have r68 := B6_17.out.c8
    have r69 := B6_17.out.c9
    go_wp2_with (first
      | (refine wpList_store_row rfl 30 _ _ rfl w17.heap.size (LegC g p8) rfl rfl 30 #[.string ⟨#[]⟩, .string ⟨#[]⟩, .string ⟨#[]⟩, .int .i64 0, .int .i64 0, .int .i64 0, .slice none 0 0, .slice none 0 0, .slice none 0 0, .slice none 0 0] (heap_alloc_new w17 _) legSize rfl (leg_one g p8) ?_)
      | fail)
    generalize ((w17.alloc (.cells #[.string ⟨#[]⟩, .string ⟨#[]⟩, .string ⟨#[]⟩, .int .i64 0, .int .i64 0, .int .i64 0, .slice none 0 0, .slice none 0 0, .slice none 0 0, .slice none 0 0] 30)).setRow w17.heap.size (LegC g p8)) = XQ at *
    refine (eqLegS g p8 p3 XQ N8_17.out.new.leg N3_17.out.new.leg HFg.out).mono ?_
    rintro e w18 ⟨rfl, d18⟩
    have s18 := d18.size
    have D18 := Lib.hid (bt DQ.out d18)
    clear rQ0 rQ1 rQ2 rQ3 rQ4 rQ5 rQ6 rQ7 rQ8 rQ9
    clear r60 r61 r62 r63 r64 r65 r66 r67 r68 r69
    have BA_18 := Lib.hid (BA_17.out.kept d18)
    have B6_18 := Lib.hid (B6_17.out.kept d18)
    have B7_18 := Lib.hid (B7_17.out.kept d18)
    have B8_18 := Lib.hid (B8_17.out.kept d18)
    have BQ_18 := Lib.hid (hxQ.out.kept d18)
    have N3_18 := Lib.hid (N3_17.out.kept d18)
    have NM_18 := Lib.hid (NM_17.out.kept d18)
    have N8_18 := Lib.hid (N8_17.out.kept d18)
    clear BA_17 B6_17 B7_17 B8_17 hxQ N3_17 NM_17 N8_17
    clear d18
    have r80 := B8_18.out.c0
    have r81 := B8_18.out.c1
    have r82 := B8_18.out.c2
    have r83 := B8_18.out.c3
    have r84 := B8_18.out.c4
    have r85 := B8_18.out.c5
    have r86 := B8_18.out.c6
    have r87 := B8_18.out.c7
    have r88 := B8_18.out.c8
    have r89 := B8_18.out.c9
    go_wp2_with fail
    refine (heldLegI g p5 1 w18 NM_18.out HFg.out (by omega) (by omega)).mono ?_
    rintro e w19 ⟨rfl, d19⟩
    have D19 := Lib.hid (bt D18.out d19)
    clear d19
    clear r80 r81 r82 r83 r84 r85 r86 r87 r88 r89
    go_wp2
    go_ret
    exact ⟨rfl, D19.out⟩
end Go.Proofs.Ytkaegojnhealhaa
