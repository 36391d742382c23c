/-
  The law that holds the program's LegWrite against the model's.
-/
import Derived.Test.YtlbcokmmbmmgnaaDoorLegRowT
import Derived.Test.YtlbcokmmbmmgnaaDoorLegWriteS
namespace Go.Proofs.YtlbcokmmbmmgnaaDoor
open Go.RowKit
set_option linter.unusedVariables false
set_option linter.unusedSimpArgs false

set_option maxRecDepth 100000 in
set_option maxHeartbeats 16000000 in
theorem exactLegWrite (d : LegD) (p : LegP) (w : World) (w0 : LegRow w d p) (hL : Laid w) :
    Calls Tryd.prog 3 #[.agg (LegA d p)] w fun e w' => e = .returned (.bool true) ∧ Below w.heap.size w w' := by
  obtain ⟨hin, hwide⟩ := w0
  have HLL := Lib.hid hL
  clear hL
  have hAC : LegA d p = LegC d p := rfl
  have hbA : Below w.heap.size w (w.alloc (.cells (LegC d p) 25)) := (Below.refl _ _).alloc (Nat.le_refl _) _
  have hA := LegBx.new w 25 d p
  have HI := Lib.hid (hin.kept hbA)
  have HbA := Lib.hid hbA
  have HA := Lib.hid hA
  have Hin := Lib.hid hin
  have HW := Lib.hid hwide
  rw [hAC]
  have b0 := hA.c0
  have b1 := hA.c1
  have b2 := hA.c2
  have b3 := hA.c3
  have b4 := hA.c4
  have b5 := hA.c5
  have b6 := hA.c6
  have b7 := hA.c7
  have b8 := hA.c8
  have b9 := hA.c9
  generalize hLC : LegC d p = LC at *
  have HLC := Lib.hid hLC
  clear hbA hA hin hwide hLC hAC
  go_enter Tryd.func3, Tryd.ntmps3
  go_wp2_with fail
  generalize w.alloc (.cells LC 25) = WA at *
  refine (szLegS d p WA HW.out).mono ?_
  rintro e w1 ⟨r, r0, r1, rfl, hr, d1⟩
  rcases Int.lt_or_le r 0 with c | c
  · have z0 : decide (r < 0) = true := decide_eq_true c
    clear b0 b1 b2 b3 b4 b5 b6 b7 b8 b9
    go_wp2
    go_ret
    exact ⟨rfl, bt HbA.out d1⟩
  have z0 : decide (r < 0) = false := decide_eq_false (by omega)
  have hf := hr.out c
  have HF := Lib.hid hf
  have A1 := HA.out.kept d1
  have D1 := Lib.hid (bt HbA.out d1)
  have HA1 := Lib.hid A1
  have I1 := Lib.hid (HI.out.kept d1)
  clear b0 b1 b2 b3 b4 b5 b6 b7 b8 b9 hr hf d1
  have b0 := A1.c0
  have b1 := A1.c1
  have b2 := A1.c2
  have b3 := A1.c3
  have b4 := A1.c4
  have b5 := A1.c5
  have b6 := A1.c6
  have b7 := A1.c7
  have b8 := A1.c8
  have b9 := A1.c9
  clear A1
  go_wp2_with fail
  refine (toLegS d p w1 I1.out HF.out).mono ?_
  rintro e w2 ⟨p2, rfl, hi2, hc2, d2⟩
  unfold LegV
  have A2 := HA1.out.kept d2
  have HA2 := Lib.hid A2
  have D2 := Lib.hid (bt D1.out d2)
  have I2 := Lib.hid (I1.out.kept d2)
  clear b0 b1 b2 b3 b4 b5 b6 b7 b8 b9
  go_wp2_with fail
  refine (writeS d p2 w2 hi2 HF.out).mono ?_
  rintro e w3 ⟨v3, rfl, hv3, d3⟩
  have A3 := A2.kept d3
  have D3 := Lib.hid (bt D2.out d3)
  have I3 := Lib.hid (I2.out.kept d3)
  have b0 := A3.c0
  have b1 := A3.c1
  have b2 := A3.c2
  have b3 := A3.c3
  have b4 := A3.c4
  have b5 := A3.c5
  have b6 := A3.c6
  have b7 := A3.c7
  have b8 := A3.c8
  have b9 := A3.c9
  clear A2
  go_wp2_with fail
  refine (toLegS d p w3 I3.out HF.out).mono ?_
  rintro e w4 ⟨p4, rfl, hi4, hc4, d4⟩
  unfold LegV
  have A4 := A3.kept d4
  have D4 := Lib.hid (bt D3.out d4)
  have I4 := Lib.hid (I3.out.kept d4)
  have hbX := legRowBelow w4 (LegC d p4)
  have hX := legRowBox w4 d p4
  have hone := leg_one d p4
  have hsz1 : (Tryd.prog.info? 30).map (·.size) = some (LegC d p4).size := legSize
  have hsz2 : (#[.string ⟨#[]⟩, .string ⟨#[]⟩, .string ⟨#[]⟩, .int .i64 0, .int .i64 0, .int .i64 0, .slice none 0 0, .slice none 0 0, .slice none 0 0, .slice none 0 0] : Array Value).size = (LegC d p4).size := rfl
  have AX := A4.kept hbX
  have IX := Lib.hid (I4.out.kept hbX)
  have hiX := Lib.hid (hi4.kept hbX)
  have DX := Lib.hid (bt D4.out hbX)
  have HX := Lib.hid hX
  have HAX := Lib.hid AX
  clear b0 b1 b2 b3 b4 b5 b6 b7 b8 b9 A3 A4 AX hX hbX
  have hV4 : (#[.string d.name, .string d.fr, .string d.to, .int .i64 d.dep, .int .i64 d.arr, .int .i64 d.cap, .slice p4.aL d.nL p4.cL, .slice p4.aS d.nS p4.cS, .slice p4.aB d.nB p4.cB, .slice p4.aH d.nH p4.cH] : Array Value) = LegC d p4 := rfl
  rw [hV4]
  have x0 := HX.out.c0
  have x1 := HX.out.c1
  have x2 := HX.out.c2
  have x3 := HX.out.c3
  have x4 := HX.out.c4
  have x5 := HX.out.c5
  have x6 := HX.out.c6
  have x7 := HX.out.c7
  have x8 := HX.out.c8
  have x9 := HX.out.c9
  generalize hL4 : LegC d p4 = L4 at *
  clear hV4 hL4
  go_wp2_with (first
    | (refine wpList_store_row rfl 30 _ _ rfl w4.heap.size L4 rfl rfl 30 #[.string ⟨#[]⟩, .string ⟨#[]⟩, .string ⟨#[]⟩, .int .i64 0, .int .i64 0, .int .i64 0, .slice none 0 0, .slice none 0 0, .slice none 0 0, .slice none 0 0] (heap_alloc_new w4 _) hsz1 hsz2 hone ?_)
    | fail)
  generalize (w4.alloc (.cells #[.string ⟨#[]⟩, .string ⟨#[]⟩, .string ⟨#[]⟩, .int .i64 0, .int .i64 0, .int .i64 0, .slice none 0 0, .slice none 0 0, .slice none 0 0, .slice none 0 0] 30)).setRow w4.heap.size L4 = WX at *
  refine (writeI d p4 WX hiX.out HF.out hc4.1 hc4.2.1 hc4.2.2.1 (laid_stays HLL.out DX.out)).mono ?_
  rintro e w5 ⟨v5, rfl, hv5, d5⟩
  obtain rfl : v3 = v5 := legText_one hv3.out hv5.out
  clear hv3 hv5
  have A5 := HAX.out.kept d5
  have X5 := HX.out.kept d5
  have D5 := Lib.hid (bt DX.out d5)
  have I5 := Lib.hid (IX.out.kept d5)
  have iX5 := Lib.hid (hiX.out.kept d5)
  have sX5 := lt_heap X5
  have HX5 := Lib.hid X5
  clear x0 x1 x2 x3 x4 x5 x6 x7 x8 x9
  have b0 := A5.c0
  have b1 := A5.c1
  have b2 := A5.c2
  have b3 := A5.c3
  have b4 := A5.c4
  have b5 := A5.c5
  have b6 := A5.c6
  have b7 := A5.c7
  have b8 := A5.c8
  have b9 := A5.c9
  have x0 := X5.c0
  have x1 := X5.c1
  have x2 := X5.c2
  have x3 := X5.c3
  have x4 := X5.c4
  have x5 := X5.c5
  have x6 := X5.c6
  have x7 := X5.c7
  have x8 := X5.c8
  have x9 := X5.c9
  clear A5 X5
  go_wp2_with fail
  go_region_with (first
    | (go_at_call 6; refine (toLegS d p _ (I5.out.kept (belowN (Below.refl _ w5) 1)) HF.out).mono ?_; rintro e w6 ⟨p6, rfl, hi6, hc6, dd6⟩; unfold LegV; have d6 : Below w5.heap.size w5 w6 := (Below.refl _ w5).drew.trans dd6; have X6 := HX5.out.kept d6; have y0 := X6.c0; have y1 := X6.c1; have y2 := X6.c2; have y3 := X6.c3; have y4 := X6.c4; have y5 := X6.c5; have y6 := X6.c6; have y7 := X6.c7; have y8 := X6.c8; have y9 := X6.c9)
    | (go_at_call 8; refine (eqLegS d p4 p6 _ (iX5.out.kept d6) hi6 HF.out).mono ?_; rintro e w7 ⟨rfl, d7⟩))
  all_goals
    clear b0 b1 b2 b3 b4 b5 b6 b7 b8 b9 x0 x1 x2 x3 x4 x5 x6 x7 x8 x9
    go_wp2
    go_ret
    exact ⟨rfl, bt (bt D5.out d6) d7⟩
end Go.Proofs.YtlbcokmmbmmgnaaDoor
