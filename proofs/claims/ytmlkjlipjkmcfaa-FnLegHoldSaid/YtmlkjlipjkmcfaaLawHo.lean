/-
  The law FnLegHold's own walk.
-/
import Derived.Test.YtmlkjlipjkmcfaaHoldLaw
namespace Go.Proofs.Ytmlkjlipjkmcfaa
open Go.RowKit
set_option linter.unusedVariables false
set_option linter.unusedSimpArgs false

def SHo (d : LegD) (p : LegP) (g : LegD) (pg q : LegP) (k1 o : Bool) (i : Nat) (W : World) (v : Value) : Prop := match i with
  | 0 => v = .bool k1
  | 1 => v = .bool k1
  | 2 => v = .bool false
  | 3 => v = .bool false
  | 4 => v = LegV g pg
  | 5 => v = LegV g q
  | 6 => v = .bool true
  | 7 => v = .bool false
  | 8 => v = .bool false
  | 9 => v = .bool false
  | 10 => v = LegV d p
  | 11 => v = .bool o
  | 12 => v = LegV d p
  | 13 => v = .bool o
  | 14 => v = .bool false
  | 15 => v = .bool false
  | _ => True
theorem SHo.kept {d : LegD} {p : LegP} {g : LegD} {pg q : LegP} {k1 o : Bool} {i : Nat} {W W' : World} {v : Value} (h : SHo d p g pg q k1 o i W v) (hb : Below W.heap.size W W') : SHo d p g pg q k1 o i W' v := by
  match i, h with
  | 0, h => exact h
  | 1, h => exact h
  | 2, h => exact h
  | 3, h => exact h
  | 4, h => exact h
  | 5, h => exact h
  | 6, h => exact h
  | 7, h => exact h
  | 8, h => exact h
  | 9, h => exact h
  | 10, h => exact h
  | 11, h => exact h
  | 12, h => exact h
  | 13, h => exact h
  | 14, h => exact h
  | 15, h => exact h
  | i + 16, h => exact h
set_option maxRecDepth 100000 in
set_option maxHeartbeats 64000000 in
theorem lawLegHold (a0 : Option Addr) (len cap : Nat) (z : List Int) (w : World) (w0 : IsRow .u8 w a0 len cap z) :
    Calls Try.prog 4 #[.slice a0 len cap] w fun e w' => e = .returned (.bool true) ∧ Below w.heap.size w w' := by
  by_cases hbig : 1048576 < len
  · go_enter Try.func4, Try.ntmps4
    go_wp2
    go_ret
    exact ⟨rfl, Below.refl _ _⟩
  go_enter Try.func4, Try.ntmps4
  go_wp2_with fail
  refine (drawHold a0 len cap z _ w0).mono ?_
  rintro e w1 ⟨d, p, t, c, s, sh, rfl, hfit, hin, hb1⟩
  clear w0
  have HF := hfit
  have hX : LegBx ((((w1.alloc (.cells #[.string ⟨#[]⟩, .string ⟨#[]⟩, .string ⟨#[]⟩, .int .i64 0, .int .i64 0, .int .i64 0, .slice none 0 0, .slice none 0 0, .slice none 0 0, .slice none 0 0] 31)).alloc (.cells #[.int .i64 0, .int .i64 0, .int .i64 0] 35)).setRow w1.heap.size (LegC d p)).setRow (w1.heap.size + 1) (HoldC t c s)) w1.heap.size 31 d p := two2_leg w1 d p t c s
  have hQ : ((((w1.alloc (.cells #[.string ⟨#[]⟩, .string ⟨#[]⟩, .string ⟨#[]⟩, .int .i64 0, .int .i64 0, .int .i64 0, .slice none 0 0, .slice none 0 0, .slice none 0 0, .slice none 0 0] 31)).alloc (.cells #[.int .i64 0, .int .i64 0, .int .i64 0] 35)).setRow w1.heap.size (LegC d p)).setRow (w1.heap.size + 1) (HoldC t c s)).heap[w1.heap.size + 1]? = some (.cells (HoldC t c s) 35 (0, 0)) := two2_hold w1 d p t c s
  have hB : Below w1.heap.size w1 ((((w1.alloc (.cells #[.string ⟨#[]⟩, .string ⟨#[]⟩, .string ⟨#[]⟩, .int .i64 0, .int .i64 0, .int .i64 0, .slice none 0 0, .slice none 0 0, .slice none 0 0, .slice none 0 0] 31)).alloc (.cells #[.int .i64 0, .int .i64 0, .int .i64 0] 35)).setRow w1.heap.size (LegC d p)).setRow (w1.heap.size + 1) (HoldC t c s)) := two2_below w1 d p t c s
  have HL0 := Lib.hid hX
  have HQ0 := Lib.hid hQ
  have HIN0 := Lib.hid (hin.kept hB)
  have D0 := Lib.hid (bt hb1 hB)
  have hz0 := two0_leg w1
  have hz1 := two1_hold w1 d p
  clear hfit hin hb1 hX hB
  have x0 := HL0.out.c0
  have x1 := HL0.out.c1
  have x2 := HL0.out.c2
  have x3 := HL0.out.c3
  have x4 := HL0.out.c4
  have x5 := HL0.out.c5
  have x6 := HL0.out.c6
  have x7 := HL0.out.c7
  have x8 := HL0.out.c8
  have x9 := HL0.out.c9
  obtain ⟨u0, u1, u2⟩ := row3 hQ
  clear hQ
  unfold LegV
  go_wp2_with (first
    | (refine wpList_store_row rfl 31 _ _ rfl w1.heap.size (LegC d p) rfl rfl 31 #[.string ⟨#[]⟩, .string ⟨#[]⟩, .string ⟨#[]⟩, .int .i64 0, .int .i64 0, .int .i64 0, .slice none 0 0, .slice none 0 0, .slice none 0 0, .slice none 0 0] hz0 legSize rfl (leg_one d p) ?_)
    | (refine wpList_store_row rfl 35 _ _ rfl (w1.heap.size + 1) (HoldC t c s) rfl rfl 35 #[.int .i64 0, .int .i64 0, .int .i64 0] hz1 holdcSize rfl (holdc_one t c s) ?_)
    | fail)
  generalize ((((w1.alloc (.cells #[.string ⟨#[]⟩, .string ⟨#[]⟩, .string ⟨#[]⟩, .int .i64 0, .int .i64 0, .int .i64 0, .slice none 0 0, .slice none 0 0, .slice none 0 0, .slice none 0 0] 31)).alloc (.cells #[.int .i64 0, .int .i64 0, .int .i64 0] 35)).setRow w1.heap.size (LegC d p)).setRow (w1.heap.size + 1) (HoldC t c s)) = w3 at *
  clear hz0 hz1
  generalize hbl : w1.heap.size = bl at *
  generalize hbh : bl + 1 = bh at *
  clear hbl hbh
  refine (LegHoldI d p t c s sh w3 HIN0.out HF.out.1 HF.out.2.1).mono ?_
  rintro e w4 ⟨g, pg, k1, rfl, hg, hng, d4⟩
  have HG := hg
  have HFg := Lib.hid (hold_fits HF.out.1 hg.out)
  have HING4 := Lib.hid hng.leg
  have HCG := Lib.hid hng.1.2.1
  have HL4 := Lib.hid (HL0.out.kept d4)
  have HIN4 := Lib.hid (HIN0.out.kept d4)
  have HQ4 := Lib.hid (((d4).block _ (lt_heap HQ0.out)).trans HQ0.out)
  have D4 := Lib.hid (bt D0.out d4)
  clear hg hng d4
  clear x0 x1 x2 x3 x4 x5 x6 x7 x8 x9
  clear u0 u1 u2
  have hbXWA := legRowBelow w4 (LegC g pg)
  have hXWA : LegBx ((w4.alloc (.cells #[.string ⟨#[]⟩, .string ⟨#[]⟩, .string ⟨#[]⟩, .int .i64 0, .int .i64 0, .int .i64 0, .slice none 0 0, .slice none 0 0, .slice none 0 0, .slice none 0 0] 31)).setRow w4.heap.size (LegC g pg)) w4.heap.size 31 g pg := legRowBox w4 g pg
  have HL5 := Lib.hid (HL4.out.kept hbXWA)
  have HIN5 := Lib.hid (HIN4.out.kept hbXWA)
  have HING5 := Lib.hid (HING4.out.kept hbXWA)
  have HQ5 := Lib.hid (((hbXWA).block _ (lt_heap HQ4.out)).trans HQ4.out)
  have D5 := Lib.hid (bt D4.out hbXWA)
  have HX5 := Lib.hid hXWA
  clear hXWA hbXWA
  unfold LegV
  have y0 := HX5.out.c0
  have y1 := HX5.out.c1
  have y2 := HX5.out.c2
  have y3 := HX5.out.c3
  have y4 := HX5.out.c4
  have y5 := HX5.out.c5
  have y6 := HX5.out.c6
  have y7 := HX5.out.c7
  have y8 := HX5.out.c8
  have y9 := HX5.out.c9
  have x0 := HL5.out.c0
  have x1 := HL5.out.c1
  have x2 := HL5.out.c2
  have x3 := HL5.out.c3
  have x4 := HL5.out.c4
  have x5 := HL5.out.c5
  have x6 := HL5.out.c6
  have x7 := HL5.out.c7
  have x8 := HL5.out.c8
  have x9 := HL5.out.c9
  obtain ⟨u0, u1, u2⟩ := row3 HQ5.out
  go_wp2_with (first
    | (refine wpList_store_row rfl 31 _ _ rfl w4.heap.size (LegC g pg) rfl rfl 31 #[.string ⟨#[]⟩, .string ⟨#[]⟩, .string ⟨#[]⟩, .int .i64 0, .int .i64 0, .int .i64 0, .slice none 0 0, .slice none 0 0, .slice none 0 0, .slice none 0 0] (heap_alloc_new w4 _) legSize rfl (leg_one g pg) ?_)
    | fail)
  generalize (w4.alloc (.cells #[.string ⟨#[]⟩, .string ⟨#[]⟩, .string ⟨#[]⟩, .int .i64 0, .int .i64 0, .int .i64 0, .slice none 0 0, .slice none 0 0, .slice none 0 0, .slice none 0 0] 31)).setRow w4.heap.size (LegC g pg) = WA at *
  generalize w4.heap.size = bx at *
  refine (LegHoldS d p t c s sh WA HIN5.out HF.out.1 HF.out.2.2).mono ?_
  rintro e w5 ⟨g', q, k1', rfl, hg', hnq, d5⟩
  obtain ⟨e1, e2⟩ := holdIs_one HG.out hg'.out
  subst e1
  subst e2
  have HINQ5 := Lib.hid hnq.leg
  have HL7 := Lib.hid (HL5.out.kept d5)
  have HIN7 := Lib.hid (HIN5.out.kept d5)
  have HX7 := Lib.hid (HX5.out.kept d5)
  have HING7 := Lib.hid (HING5.out.kept d5)
  have HQ7 := Lib.hid (((d5).block _ (lt_heap HQ5.out)).trans HQ5.out)
  have D7 := Lib.hid (bt D5.out d5)
  clear hg' hnq d5
  clear x0 x1 x2 x3 x4 x5 x6 x7 x8 x9
  clear y0 y1 y2 y3 y4 y5 y6 y7 y8 y9
  clear u0 u1 u2
  have hbXw6 := legRowBelow w5 (LegC g q)
  have hXw6 : LegBx ((w5.alloc (.cells #[.string ⟨#[]⟩, .string ⟨#[]⟩, .string ⟨#[]⟩, .int .i64 0, .int .i64 0, .int .i64 0, .slice none 0 0, .slice none 0 0, .slice none 0 0, .slice none 0 0] 31)).setRow w5.heap.size (LegC g q)) w5.heap.size 31 g q := legRowBox w5 g q
  have HL6 := Lib.hid (HL7.out.kept hbXw6)
  have HIN6 := Lib.hid (HIN7.out.kept hbXw6)
  have HX6 := Lib.hid (HX7.out.kept hbXw6)
  have HING6 := Lib.hid (HING7.out.kept hbXw6)
  have HINQ6 := Lib.hid (HINQ5.out.kept hbXw6)
  have HQ6 := Lib.hid (((hbXw6).block _ (lt_heap HQ7.out)).trans HQ7.out)
  have D6 := Lib.hid (bt D7.out hbXw6)
  have HY6 := Lib.hid hXw6
  clear hXw6 hbXw6
  unfold LegV
  have y0 := HY6.out.c0
  have y1 := HY6.out.c1
  have y2 := HY6.out.c2
  have y3 := HY6.out.c3
  have y4 := HY6.out.c4
  have y5 := HY6.out.c5
  have y6 := HY6.out.c6
  have y7 := HY6.out.c7
  have y8 := HY6.out.c8
  have y9 := HY6.out.c9
  go_wp2_with (first
    | (refine wpList_store_row rfl 31 _ _ rfl w5.heap.size (LegC g q) rfl rfl 31 #[.string ⟨#[]⟩, .string ⟨#[]⟩, .string ⟨#[]⟩, .int .i64 0, .int .i64 0, .int .i64 0, .slice none 0 0, .slice none 0 0, .slice none 0 0, .slice none 0 0] (heap_alloc_new w5 _) legSize rfl (leg_one g q) ?_)
    | fail)
  generalize (w5.alloc (.cells #[.string ⟨#[]⟩, .string ⟨#[]⟩, .string ⟨#[]⟩, .int .i64 0, .int .i64 0, .int .i64 0, .slice none 0 0, .slice none 0 0, .slice none 0 0, .slice none 0 0] 31)).setRow w5.heap.size (LegC g q) = w6 at *
  clear y0 y1 y2 y3 y4 y5 y6 y7 y8 y9
  generalize w5.heap.size = by6 at *
  clear HL0 HL4 HL5 HL7 HIN0 HIN4 HIN5 HIN7 HQ0 HQ4 HQ5 HQ7 HX5 HX7 HING4 HING5 HING7 HINQ5 D0 D4 D5 D7
  obtain ⟨o, ho⟩ : ∃ o : Bool, o = true ↔ OkLeg d := by
    by_cases q : OkLeg d
    · exact ⟨true, fun _ => q, fun _ => rfl⟩
    · exact ⟨false, fun h => (by cases h), fun h => absurd h q⟩
  have HO := Lib.hid ho
  have zoo : (o != o) = false := by simp
  have zxx : (k1 != k1) = false := by simp
  clear ho
  go_upto_region 6 with fail
  refine wp_region_free' (by kernel_rfl) (fun _ W => Below w6.heap.size w6 W) (fun W W' => Below W.heap.size W W') (SHo d p g pg q k1 o) (by kernel_rfl) (fun i k v W W' h _ hb => h.kept hb) ((Below.refl _ _).drew) ?_
  apply Exists.intro
  apply And.intro
  · intro f
    simp only [over, List.set]
    exact rfl
  refine ⟨?hops6, ?hend6⟩
  case hops6 =>
    refine EachOp.cons ?_ (EachOp.cons ?_ (EachOp.cons ?_ (EachOp.cons ?_ (EachOp.cons ?_ (EachOp.cons ?_ (EachOp.cons ?_ (EachOp.cons ?_ (EachOp.cons ?_ (EachOp.cons ?_ (EachOp.cons ?_ (EachOp.cons ?_ (EachOp.cons ?_ (EachOp.cons ?_ (EachOp.cons ?_ (EachOp.cons ?_ (EachOp.nil))))))))))))))))
    · intro ff kk ww hkk hI hd QQ' hQ
      try dsimp only
      go_big_wp2_with fail
      refine hQ _ _ _ ?_ hI (Below.refl _ _) rfl
      first | rfl | (simp [upd]; done)
    · intro ff kk ww hkk hI hd QQ' hQ
      try dsimp only
      go_big_wp2_with fail
      refine hQ _ _ _ ?_ hI (Below.refl _ _) rfl
      first | rfl | (simp [upd]; done)
    · intro ff kk ww hkk hI hd QQ' hQ
      try dsimp only
      have c0' : ff 0 = _ := hd.get (n := 0) (by decide)
      have c1' : ff 1 = _ := hd.get (n := 1) (by decide)
      go_big_wp2_with fail
      refine hQ _ _ _ ?_ hI (Below.refl _ _) rfl
      first | rfl | (simp [upd, c0', c1', zxx]; done)
    · intro ff kk ww hkk hI hd QQ' hQ
      try dsimp only
      have c2' : ff 2 = _ := hd.get (n := 2) (by decide)
      go_big_wp2_with fail
      refine hQ _ _ _ ?_ hI (Below.refl _ _) rfl
      first | rfl | (simp [upd, c2']; done)
    · intro ff kk ww hkk hI hd QQ' hQ
      try dsimp only
      have qb := Lib.hid (HX6.out.kept hI)
      have y0 := qb.out.c0
      have y1 := qb.out.c1
      have y2 := qb.out.c2
      have y3 := qb.out.c3
      have y4 := qb.out.c4
      have y5 := qb.out.c5
      have y6 := qb.out.c6
      have y7 := qb.out.c7
      have y8 := qb.out.c8
      have y9 := qb.out.c9
      have c3' : ff 3 = _ := hd.get (n := 3) (by decide)
      go_big_wp2_with fail
      refine hQ _ _ _ ?_ hI (Below.refl _ _) rfl
      first | rfl | (simp [upd, c3', LegV_eq, LegC]; done)
    · intro ff kk ww hkk hI hd QQ' hQ
      try dsimp only
      have qb := Lib.hid (HY6.out.kept hI)
      have y0 := qb.out.c0
      have y1 := qb.out.c1
      have y2 := qb.out.c2
      have y3 := qb.out.c3
      have y4 := qb.out.c4
      have y5 := qb.out.c5
      have y6 := qb.out.c6
      have y7 := qb.out.c7
      have y8 := qb.out.c8
      have y9 := qb.out.c9
      have c3' : ff 3 = _ := hd.get (n := 3) (by decide)
      go_big_wp2_with fail
      refine hQ _ _ _ ?_ hI (Below.refl _ _) rfl
      first | rfl | (simp [upd, c3', LegV_eq, LegC]; done)
    · intro ff kk ww hkk hI hd QQ' hQ
      try dsimp only
      have c3' : ff 3 = _ := hd.get (n := 3) (by decide)
      have c4' : ff 4 = _ := hd.get (n := 4) (by decide)
      have c5' : ff 5 = _ := hd.get (n := 5) (by decide)
      go_big_wp2_with fail
      refine (wsLegS g pg q ww (HING6.out.kept hI) (HINQ6.out.kept hI) HFg.out).mono ?_
      rintro e wa ⟨rfl, da⟩
      go_big_wp2_with fail
      refine hQ _ _ _ ?_ (bt hI da) da rfl
      first | rfl | (simp [upd, c3', c4', c5']; done)
    · intro ff kk ww hkk hI hd QQ' hQ
      try dsimp only
      have c3' : ff 3 = _ := hd.get (n := 3) (by decide)
      have c6' : ff 6 = _ := hd.get (n := 6) (by decide)
      go_big_wp2_with fail
      refine hQ _ _ _ ?_ hI (Below.refl _ _) rfl
      first | rfl | (simp [upd, c3', c6']; done)
    · intro ff kk ww hkk hI hd QQ' hQ
      try dsimp only
      have c3' : ff 3 = _ := hd.get (n := 3) (by decide)
      have c7' : ff 7 = _ := hd.get (n := 7) (by decide)
      go_big_wp2_with fail
      refine hQ _ _ _ ?_ hI (Below.refl _ _) rfl
      first | rfl | (simp [upd, c3', c7']; done)
    · intro ff kk ww hkk hI hd QQ' hQ
      try dsimp only
      have c8' : ff 8 = _ := hd.get (n := 8) (by decide)
      go_big_wp2_with fail
      refine hQ _ _ _ ?_ hI (Below.refl _ _) rfl
      first | rfl | (simp [upd, c8']; done)
    · intro ff kk ww hkk hI hd QQ' hQ
      try dsimp only
      have qb := Lib.hid (HL6.out.kept hI)
      have y0 := qb.out.c0
      have y1 := qb.out.c1
      have y2 := qb.out.c2
      have y3 := qb.out.c3
      have y4 := qb.out.c4
      have y5 := qb.out.c5
      have y6 := qb.out.c6
      have y7 := qb.out.c7
      have y8 := qb.out.c8
      have y9 := qb.out.c9
      have c9' : ff 9 = _ := hd.get (n := 9) (by decide)
      go_big_wp2_with fail
      refine hQ _ _ _ ?_ hI (Below.refl _ _) rfl
      first | rfl | (simp [upd, c9', LegV_eq, LegC]; done)
    · intro ff kk ww hkk hI hd QQ' hQ
      try dsimp only
      have c9' : ff 9 = _ := hd.get (n := 9) (by decide)
      have c10' : ff 10 = _ := hd.get (n := 10) (by decide)
      go_big_wp2_with fail
      refine (det (okI d p ww (HIN6.out.kept hI) HF.out.1 HF.out.2.1) o HO.out).mono ?_
      rintro e wa ⟨rfl, da⟩
      go_big_wp2_with fail
      refine hQ _ _ _ ?_ (bt hI da) da rfl
      first | rfl | (simp [upd, c9', c10']; done)
    · intro ff kk ww hkk hI hd QQ' hQ
      try dsimp only
      have qb := Lib.hid (HL6.out.kept hI)
      have y0 := qb.out.c0
      have y1 := qb.out.c1
      have y2 := qb.out.c2
      have y3 := qb.out.c3
      have y4 := qb.out.c4
      have y5 := qb.out.c5
      have y6 := qb.out.c6
      have y7 := qb.out.c7
      have y8 := qb.out.c8
      have y9 := qb.out.c9
      have c9' : ff 9 = _ := hd.get (n := 9) (by decide)
      go_big_wp2_with fail
      refine hQ _ _ _ ?_ hI (Below.refl _ _) rfl
      first | rfl | (simp [upd, c9', LegV_eq, LegC]; done)
    · intro ff kk ww hkk hI hd QQ' hQ
      try dsimp only
      have c9' : ff 9 = _ := hd.get (n := 9) (by decide)
      have c12' : ff 12 = _ := hd.get (n := 12) (by decide)
      go_big_wp2_with fail
      refine (det (okM d p ww (HIN6.out.kept hI) HF.out.1) o HO.out).mono ?_
      rintro e wa ⟨rfl, da⟩
      go_big_wp2_with fail
      refine hQ _ _ _ ?_ (bt hI da) da rfl
      first | rfl | (simp [upd, c9', c12']; done)
    · intro ff kk ww hkk hI hd QQ' hQ
      try dsimp only
      have c9' : ff 9 = _ := hd.get (n := 9) (by decide)
      have c11' : ff 11 = _ := hd.get (n := 11) (by decide)
      have c13' : ff 13 = _ := hd.get (n := 13) (by decide)
      go_big_wp2_with fail
      refine hQ _ _ _ ?_ hI (Below.refl _ _) rfl
      first | rfl | (simp [upd, c9', c11', c13', zoo]; done)
    · intro ff kk ww hkk hI hd QQ' hQ
      try dsimp only
      have c9' : ff 9 = _ := hd.get (n := 9) (by decide)
      have c14' : ff 14 = _ := hd.get (n := 14) (by decide)
      go_big_wp2_with fail
      refine hQ _ _ _ ?_ hI (Below.refl _ _) rfl
      first | rfl | (simp [upd, c9', c14']; done)
  case hend6 =>
  intro ff kk w7 d7 hS
  try dsimp only
  have c15' : ff 15 = _ := hS 15 (by decide)
  rw [c15']
  clear c15' hS
  have HL8 := Lib.hid (HL6.out.kept d7)
  have HIN8 := Lib.hid (HIN6.out.kept d7)
  have HX8 := Lib.hid (HX6.out.kept d7)
  have HING8 := Lib.hid (HING6.out.kept d7)
  have HQ8 := Lib.hid (((d7).block _ (lt_heap HQ6.out)).trans HQ6.out)
  have D8 := Lib.hid (bt D6.out d7)
  clear d7 zoo zxx HL6 HIN6 HX6 HING6 HQ6 D6 HY6 HINQ6
  have x0 := HL8.out.c0
  have x1 := HL8.out.c1
  have x2 := HL8.out.c2
  have x3 := HL8.out.c3
  have x4 := HL8.out.c4
  have x5 := HL8.out.c5
  have x6 := HL8.out.c6
  have x7 := HL8.out.c7
  have x8 := HL8.out.c8
  have x9 := HL8.out.c9
  cases k1 with
  | false =>
    have y0 := HX8.out.c0
    have y1 := HX8.out.c1
    have y2 := HX8.out.c2
    have y3 := HX8.out.c3
    have y4 := HX8.out.c4
    have y5 := HX8.out.c5
    have y6 := HX8.out.c6
    have y7 := HX8.out.c7
    have y8 := HX8.out.c8
    have y9 := HX8.out.c9
    go_wp2_with fail
    refine (det (okM d p w7 HIN8.out HF.out.1) o HO.out).mono ?_
    rintro e w8 ⟨rfl, d8⟩
    clear x0 x1 x2 x3 x4 x5 x6 x7 x8 x9
    clear y0 y1 y2 y3 y4 y5 y6 y7 y8 y9
    have D9 := Lib.hid (bt D8.out d8)
    cases o with
    | false =>
      clear d8
      go_wp2
      go_ret
      exact ⟨rfl, D9.out⟩
    | true =>
      have HGD : Hid (g = d) := (HG.out.2 (HO.out.1 rfl)).2.2 rfl
      have HL9 := Lib.hid (HL8.out.kept d8)
      have HIN9 := Lib.hid (HIN8.out.kept d8)
      have HX9 := Lib.hid (HX8.out.kept d8)
      have HING9 := Lib.hid (HING8.out.kept d8)
      clear d8
      have e1 := HGD.out
      subst e1
      have x0 := HL9.out.c0
      have x1 := HL9.out.c1
      have x2 := HL9.out.c2
      have x3 := HL9.out.c3
      have x4 := HL9.out.c4
      have x5 := HL9.out.c5
      have x6 := HL9.out.c6
      have x7 := HL9.out.c7
      have x8 := HL9.out.c8
      have x9 := HL9.out.c9
      have y0 := HX9.out.c0
      have y1 := HX9.out.c1
      have y2 := HX9.out.c2
      have y3 := HX9.out.c3
      have y4 := HX9.out.c4
      have y5 := HX9.out.c5
      have y6 := HX9.out.c6
      have y7 := HX9.out.c7
      have y8 := HX9.out.c8
      have y9 := HX9.out.c9
      go_wp2_with fail
      refine (wsLegS _ pg p w8 HING9.out HIN9.out HF.out.1).mono ?_
      rintro e w9 ⟨rfl, d9⟩
      have D10 := Lib.hid (bt D9.out d9)
      clear d9
      go_wp2
      go_ret
      exact ⟨rfl, D10.out⟩
  | true =>
  have HOK : Hid (OkLeg d) := by
    refine Classical.byContradiction fun h => ?_
    have := (HG.out.1 h).2
    cases this
  have HOG : Hid (OkLeg g) := okLeg_ofHold HOK.out HG.out
  have HPUT : Hid (∃ k, HeldAt d t k ∧ CanPut d t c s sh ∧ g = putD d k t c s) := by
    obtain ⟨h1, h2, -⟩ := HG.out.2 HOK.out
    obtain ⟨k, hk, e⟩ := h2 rfl
    exact ⟨k, hk, h1.1 rfl, e⟩
  clear HO
  obtain ⟨k, hk, hcp, hge⟩ := HPUT.out
  have hroom := held_room HOK.out hk hcp
  rw [← hge] at hroom
  have hdp := drop_put (c := c) (s := s) hk hcp.2.1
  rw [← hge] at hdp
  have HDP := Lib.hid hdp
  obtain ⟨hc0, hc2, hr1, hr2, hr3⟩ := hroom
  clear hk hcp hge hdp HPUT
  obtain ⟨u0, u1, u2⟩ := row3 HQ8.out
  go_wp2_with fail
  refine (LegRoomI d p c w7 HIN8.out HF.out.1 HF.out.2.1).mono ?_
  rintro e w8 ⟨v1, rfl, hv1, d8⟩
  have e1 := hv1.out.1 ⟨HOK.out, hc0, hc2⟩
  clear x0 x1 x2 x3 x4 x5 x6 x7 x8 x9
  clear u0 u1 u2
  have HL9 := Lib.hid (HL8.out.kept d8)
  have HIN9 := Lib.hid (HIN8.out.kept d8)
  have HX9 := Lib.hid (HX8.out.kept d8)
  have HING9 := Lib.hid (HING8.out.kept d8)
  have HQ9 := Lib.hid (((d8).block _ (lt_heap HQ8.out)).trans HQ8.out)
  have D9 := Lib.hid (bt D8.out d8)
  clear hv1 d8 HL8 HIN8 HX8 HING8 HQ8 D8
  rw [← e1] at hr1 hr2 hr3
  have HV1 := Lib.hid e1
  clear e1
  have HBX : Hid (-100 ≤ v1 ∧ v1 ≤ 9 ∧ -9 ≤ s ∧ s ≤ 9) := by
    obtain ⟨k, hk, hcp, -⟩ := (show ∃ k, HeldAt d t k ∧ CanPut d t c s sh ∧ g = putD d k t c s from by
      obtain ⟨h1, h2, -⟩ := HG.out.2 HOK.out
      obtain ⟨k, hk, e⟩ := h2 rfl
      exact ⟨k, hk, h1.1 rfl, e⟩)
    have h1 := roomN_box HOK.out.sized.1 HOK.out.sized.2.1 HOK.out.sized.2.2.1 HOK.out.sized.2.2.2 (c.toNat + 1) (by omega)
    have h2 := hcp.2.2.1.2.2.1
    have h3 := HOK.out.2.1.1
    have := HV1.out
    refine Lib.hid ?_
    omega
  obtain ⟨u0, u1, u2⟩ := row3 HQ9.out
  have y0 := HX9.out.c0
  have y1 := HX9.out.c1
  have y2 := HX9.out.c2
  have y3 := HX9.out.c3
  have y4 := HX9.out.c4
  have y5 := HX9.out.c5
  have y6 := HX9.out.c6
  have y7 := HX9.out.c7
  have y8 := HX9.out.c8
  have y9 := HX9.out.c9
  rcases Int.lt_or_le s 0 with hs | hs
  · have zs : decide (s < 0) = true := decide_eq_true hs
    have em : max s 0 = 0 := by omega
    rw [em] at hr2 hr3
    go_wp2_with fail
    refine (LegRoomI g pg c w8 HING9.out HFg.out HCG.out).mono ?_
    rintro e wa ⟨v2, rfl, hv2, da⟩
    have e2 := hv2.out.1 ⟨HOG.out, hc0, hc2⟩
    clear y0 y1 y2 y3 y4 y5 y6 y7 y8 y9
    clear u0 u1 u2
    have HLA := Lib.hid (HL9.out.kept da)
    have HINA := Lib.hid (HIN9.out.kept da)
    have HXA := Lib.hid (HX9.out.kept da)
    have HINGA := Lib.hid (HING9.out.kept da)
    have HQA := Lib.hid (((da).block _ (lt_heap HQ9.out)).trans HQ9.out)
    have DA := Lib.hid (bt D9.out da)
    clear hv2 da
    rw [← e2] at hr1 hr2
    have HV2 := Lib.hid e2
    clear e2
    have y0 := HXA.out.c0
    have y1 := HXA.out.c1
    have y2 := HXA.out.c2
    have y3 := HXA.out.c3
    have y4 := HXA.out.c4
    have y5 := HXA.out.c5
    have y6 := HXA.out.c6
    have y7 := HXA.out.c7
    have y8 := HXA.out.c8
    have y9 := HXA.out.c9
    obtain ⟨u0, u1, u2⟩ := row3 HQA.out
    go_wp2_with fail
    refine (LegDropI g pg t wa HINGA.out HFg.out HCG.out).mono ?_
    rintro e wb ⟨gb, pb, rfl, hgb, hnb, db⟩
    have e3 : gb = d := (hgb.out.1 HOG.out).trans HDP.out
    subst e3
    clear y0 y1 y2 y3 y4 y5 y6 y7 y8 y9
    clear u0 u1 u2
    have HLB := Lib.hid (HLA.out.kept db)
    have HINB := Lib.hid (HINA.out.kept db)
    have HXB := Lib.hid (HXA.out.kept db)
    have HINGB := Lib.hid (HINGA.out.kept db)
    have HINBB := Lib.hid hnb.leg
    have DB := Lib.hid (bt DA.out db)
    clear hgb hnb db
    have hbXWD := legRowBelow wb (LegC gb pb)
    have hXWD : LegBx ((wb.alloc (.cells #[.string ⟨#[]⟩, .string ⟨#[]⟩, .string ⟨#[]⟩, .int .i64 0, .int .i64 0, .int .i64 0, .slice none 0 0, .slice none 0 0, .slice none 0 0, .slice none 0 0] 31)).setRow wb.heap.size (LegC gb pb)) wb.heap.size 31 gb pb := legRowBox wb gb pb
    have HLC := Lib.hid (HLB.out.kept hbXWD)
    have HINC := Lib.hid (HINB.out.kept hbXWD)
    have HXC := Lib.hid (HXB.out.kept hbXWD)
    have HINGC := Lib.hid (HINGB.out.kept hbXWD)
    have HINBC := Lib.hid (HINBB.out.kept hbXWD)
    have DC := Lib.hid (bt DB.out hbXWD)
    have HZC := Lib.hid hXWD
    clear hXWD hbXWD
    unfold LegV
    have z0 := HZC.out.c0
    have z1 := HZC.out.c1
    have z2 := HZC.out.c2
    have z3 := HZC.out.c3
    have z4 := HZC.out.c4
    have z5 := HZC.out.c5
    have z6 := HZC.out.c6
    have z7 := HZC.out.c7
    have z8 := HZC.out.c8
    have z9 := HZC.out.c9
    have y0 := HXC.out.c0
    have y1 := HXC.out.c1
    have y2 := HXC.out.c2
    have y3 := HXC.out.c3
    have y4 := HXC.out.c4
    have y5 := HXC.out.c5
    have y6 := HXC.out.c6
    have y7 := HXC.out.c7
    have y8 := HXC.out.c8
    have y9 := HXC.out.c9
    go_wp2_with (first
      | (refine wpList_store_row rfl 31 _ _ rfl wb.heap.size (LegC gb pb) rfl rfl 31 #[.string ⟨#[]⟩, .string ⟨#[]⟩, .string ⟨#[]⟩, .int .i64 0, .int .i64 0, .int .i64 0, .slice none 0 0, .slice none 0 0, .slice none 0 0, .slice none 0 0] (heap_alloc_new wb _) legSize rfl (leg_one gb pb) ?_)
      | fail)
    generalize (wb.alloc (.cells #[.string ⟨#[]⟩, .string ⟨#[]⟩, .string ⟨#[]⟩, .int .i64 0, .int .i64 0, .int .i64 0, .slice none 0 0, .slice none 0 0, .slice none 0 0, .slice none 0 0] 31)).setRow wb.heap.size (LegC gb pb) = WD at *
    generalize wb.heap.size = bz at *
    refine (det (okI g pg WD HINGC.out HFg.out HCG.out) true ⟨fun _ => HOG.out, fun _ => rfl⟩).mono ?_
    rintro e we ⟨rfl, de⟩
    clear y0 y1 y2 y3 y4 y5 y6 y7 y8 y9
    clear z0 z1 z2 z3 z4 z5 z6 z7 z8 z9
    have HLE := Lib.hid (HLC.out.kept de)
    have HINE := Lib.hid (HINC.out.kept de)
    have HZE := Lib.hid (HZC.out.kept de)
    have HINBE := Lib.hid (HINBC.out.kept de)
    have DE := Lib.hid (bt DC.out de)
    clear de
    have z1 : decide (v2 ≤ v1) = true := decide_eq_true hr1
    have ew : IntKind.i64.wrap (v1 - 0) = v1 - 0 := IntWalk.i64_in _ (by have := HBX.out; omega)
    have z2 : decide (v1 - 0 ≤ v2) = true := decide_eq_true (by omega)
    have z3 : decide (0 ≤ v1) = true := decide_eq_true (by omega)
    have ew0 : IntKind.i64.wrap v1 = v1 := IntWalk.i64_in _ (by have := HBX.out; omega)
    have z20 : decide (v1 ≤ v2) = true := decide_eq_true (by omega)
    clear hr1 hr2 hr3
    have x0 := HLE.out.c0
    have x1 := HLE.out.c1
    have x2 := HLE.out.c2
    have x3 := HLE.out.c3
    have x4 := HLE.out.c4
    have x5 := HLE.out.c5
    have x6 := HLE.out.c6
    have x7 := HLE.out.c7
    have x8 := HLE.out.c8
    have x9 := HLE.out.c9
    have z0 := HZE.out.c0
    have z1 := HZE.out.c1
    have z2 := HZE.out.c2
    have z3 := HZE.out.c3
    have z4 := HZE.out.c4
    have z5 := HZE.out.c5
    have z6 := HZE.out.c6
    have z7 := HZE.out.c7
    have z8 := HZE.out.c8
    have z9 := HZE.out.c9
    go_wp2_with fail
    refine (wsLegS gb pb p we HINBE.out HINE.out HF.out.1).mono ?_
    rintro e wf ⟨rfl, df⟩
    have DF := Lib.hid (bt DE.out df)
    clear df
    clear x0 x1 x2 x3 x4 x5 x6 x7 x8 x9
    clear z0 z1 z2 z3 z4 z5 z6 z7 z8 z9
    go_wp2
    go_ret
    exact ⟨rfl, DF.out⟩
  · have zs : decide (s < 0) = false := decide_eq_false (by omega)
    have em : max s 0 = s := by omega
    rw [em] at hr2 hr3
    go_wp2_with fail
    refine (LegRoomI g pg c w8 HING9.out HFg.out HCG.out).mono ?_
    rintro e wa ⟨v2, rfl, hv2, da⟩
    have e2 := hv2.out.1 ⟨HOG.out, hc0, hc2⟩
    clear y0 y1 y2 y3 y4 y5 y6 y7 y8 y9
    clear u0 u1 u2
    have HLA := Lib.hid (HL9.out.kept da)
    have HINA := Lib.hid (HIN9.out.kept da)
    have HXA := Lib.hid (HX9.out.kept da)
    have HINGA := Lib.hid (HING9.out.kept da)
    have HQA := Lib.hid (((da).block _ (lt_heap HQ9.out)).trans HQ9.out)
    have DA := Lib.hid (bt D9.out da)
    clear hv2 da
    rw [← e2] at hr1 hr2
    have HV2 := Lib.hid e2
    clear e2
    have y0 := HXA.out.c0
    have y1 := HXA.out.c1
    have y2 := HXA.out.c2
    have y3 := HXA.out.c3
    have y4 := HXA.out.c4
    have y5 := HXA.out.c5
    have y6 := HXA.out.c6
    have y7 := HXA.out.c7
    have y8 := HXA.out.c8
    have y9 := HXA.out.c9
    obtain ⟨u0, u1, u2⟩ := row3 HQA.out
    go_wp2_with fail
    refine (LegDropI g pg t wa HINGA.out HFg.out HCG.out).mono ?_
    rintro e wb ⟨gb, pb, rfl, hgb, hnb, db⟩
    have e3 : gb = d := (hgb.out.1 HOG.out).trans HDP.out
    subst e3
    clear y0 y1 y2 y3 y4 y5 y6 y7 y8 y9
    clear u0 u1 u2
    have HLB := Lib.hid (HLA.out.kept db)
    have HINB := Lib.hid (HINA.out.kept db)
    have HXB := Lib.hid (HXA.out.kept db)
    have HINGB := Lib.hid (HINGA.out.kept db)
    have HINBB := Lib.hid hnb.leg
    have DB := Lib.hid (bt DA.out db)
    clear hgb hnb db
    have hbXWD := legRowBelow wb (LegC gb pb)
    have hXWD : LegBx ((wb.alloc (.cells #[.string ⟨#[]⟩, .string ⟨#[]⟩, .string ⟨#[]⟩, .int .i64 0, .int .i64 0, .int .i64 0, .slice none 0 0, .slice none 0 0, .slice none 0 0, .slice none 0 0] 31)).setRow wb.heap.size (LegC gb pb)) wb.heap.size 31 gb pb := legRowBox wb gb pb
    have HLC := Lib.hid (HLB.out.kept hbXWD)
    have HINC := Lib.hid (HINB.out.kept hbXWD)
    have HXC := Lib.hid (HXB.out.kept hbXWD)
    have HINGC := Lib.hid (HINGB.out.kept hbXWD)
    have HINBC := Lib.hid (HINBB.out.kept hbXWD)
    have DC := Lib.hid (bt DB.out hbXWD)
    have HZC := Lib.hid hXWD
    clear hXWD hbXWD
    unfold LegV
    have z0 := HZC.out.c0
    have z1 := HZC.out.c1
    have z2 := HZC.out.c2
    have z3 := HZC.out.c3
    have z4 := HZC.out.c4
    have z5 := HZC.out.c5
    have z6 := HZC.out.c6
    have z7 := HZC.out.c7
    have z8 := HZC.out.c8
    have z9 := HZC.out.c9
    have y0 := HXC.out.c0
    have y1 := HXC.out.c1
    have y2 := HXC.out.c2
    have y3 := HXC.out.c3
    have y4 := HXC.out.c4
    have y5 := HXC.out.c5
    have y6 := HXC.out.c6
    have y7 := HXC.out.c7
    have y8 := HXC.out.c8
    have y9 := HXC.out.c9
    go_wp2_with (first
      | (refine wpList_store_row rfl 31 _ _ rfl wb.heap.size (LegC gb pb) rfl rfl 31 #[.string ⟨#[]⟩, .string ⟨#[]⟩, .string ⟨#[]⟩, .int .i64 0, .int .i64 0, .int .i64 0, .slice none 0 0, .slice none 0 0, .slice none 0 0, .slice none 0 0] (heap_alloc_new wb _) legSize rfl (leg_one gb pb) ?_)
      | fail)
    generalize (wb.alloc (.cells #[.string ⟨#[]⟩, .string ⟨#[]⟩, .string ⟨#[]⟩, .int .i64 0, .int .i64 0, .int .i64 0, .slice none 0 0, .slice none 0 0, .slice none 0 0, .slice none 0 0] 31)).setRow wb.heap.size (LegC gb pb) = WD at *
    generalize wb.heap.size = bz at *
    refine (det (okI g pg WD HINGC.out HFg.out HCG.out) true ⟨fun _ => HOG.out, fun _ => rfl⟩).mono ?_
    rintro e we ⟨rfl, de⟩
    clear y0 y1 y2 y3 y4 y5 y6 y7 y8 y9
    clear z0 z1 z2 z3 z4 z5 z6 z7 z8 z9
    have HLE := Lib.hid (HLC.out.kept de)
    have HINE := Lib.hid (HINC.out.kept de)
    have HZE := Lib.hid (HZC.out.kept de)
    have HINBE := Lib.hid (HINBC.out.kept de)
    have DE := Lib.hid (bt DC.out de)
    clear de
    have z1 : decide (v2 ≤ v1) = true := decide_eq_true hr1
    have ew : IntKind.i64.wrap (v1 - s) = v1 - s := IntWalk.i64_in _ (by have := HBX.out; omega)
    have z2 : decide (v1 - s ≤ v2) = true := decide_eq_true (by omega)
    have z3 : decide (s ≤ v1) = true := decide_eq_true (by omega)
    clear hr1 hr2 hr3
    have x0 := HLE.out.c0
    have x1 := HLE.out.c1
    have x2 := HLE.out.c2
    have x3 := HLE.out.c3
    have x4 := HLE.out.c4
    have x5 := HLE.out.c5
    have x6 := HLE.out.c6
    have x7 := HLE.out.c7
    have x8 := HLE.out.c8
    have x9 := HLE.out.c9
    have z0 := HZE.out.c0
    have z1 := HZE.out.c1
    have z2 := HZE.out.c2
    have z3 := HZE.out.c3
    have z4 := HZE.out.c4
    have z5 := HZE.out.c5
    have z6 := HZE.out.c6
    have z7 := HZE.out.c7
    have z8 := HZE.out.c8
    have z9 := HZE.out.c9
    go_wp2_with fail
    refine (wsLegS gb pb p we HINBE.out HINE.out HF.out.1).mono ?_
    rintro e wf ⟨rfl, df⟩
    have DF := Lib.hid (bt DE.out df)
    clear df
    clear x0 x1 x2 x3 x4 x5 x6 x7 x8 x9
    clear z0 z1 z2 z3 z4 z5 z6 z7 z8 z9
    go_wp2
    go_ret
    exact ⟨rfl, DF.out⟩

end Go.Proofs.Ytmlkjlipjkmcfaa
