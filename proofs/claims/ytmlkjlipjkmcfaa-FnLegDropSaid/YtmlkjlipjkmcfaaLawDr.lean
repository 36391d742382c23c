/-
  The law FnLegDrop's own walk.
-/
import Derived.Test.YtmlkjlipjkmcfaaDrawKeep
import Derived.Test.YtmlkjlipjkmcfaaDropFit
import Derived.Test.YtmlkjlipjkmcfaaLegDropS
namespace Go.Proofs.Ytmlkjlipjkmcfaa
open Go.RowKit
set_option linter.unusedVariables false
set_option linter.unusedSimpArgs false

def SDr (d : LegD) (p : LegP) (g : LegD) (pg : LegP) (y : Int) (o : Bool) (i : Nat) (W : World) (v : Value) : Prop := match i with
  | 0 => v = LegV g pg
  | 1 => v = LegV d p
  | 2 => v = .int .i64 y
  | 3 => Ls g W v
  | 4 => v = .bool true
  | 5 => v = .bool false
  | 6 => v = .bool false
  | 7 => v = LegV d p
  | 8 => v = .bool o
  | 9 => v = LegV d p
  | 10 => v = .bool o
  | 11 => v = .bool false
  | 12 => v = .bool false
  | _ => True
theorem SDr.kept {d : LegD} {p : LegP} {g : LegD} {pg : LegP} {y : Int} {o : Bool} {i : Nat} {W W' : World} {v : Value} (h : SDr d p g pg y o i W v) (hb : Below W.heap.size W W') : SDr d p g pg y o i W' v := by
  match i, h with
  | 0, h => exact h
  | 1, h => exact h
  | 2, h => exact h
  | 3, h => exact Ls.kept h hb
  | 4, h => exact h
  | 5, h => exact h
  | 6, h => exact h
  | 7, h => exact h
  | 8, h => exact h
  | 9, h => exact h
  | 10, h => exact h
  | 11, h => exact h
  | 12, h => exact h
  | i + 13, h => exact h
def SDr9 (d : LegD) (p : LegP) (g : LegD) (pg : LegP) (y : Int) (bl bx : Nat) (i : Nat) (W : World) (v : Value) : Prop := match i with
  | 0 => v = LegV g pg
  | 1 => v = .bool true
  | 2 => v = .bool true
  | 3 => v = .pointer (some ⟨bx, 7, none⟩)
  | 4 => v = .slice pg.aS g.nS pg.cS
  | 5 => v = .pointer (some ⟨bl, 7, none⟩)
  | 6 => v = .slice p.aS d.nS p.cS
  | 7 => v = .bool true
  | 8 => v = .bool true
  | 9 => v = .bool true
  | 10 => v = .pointer (some ⟨bx, 9, none⟩)
  | 11 => v = .slice pg.aH g.nH pg.cH
  | 12 => v = .int .i64 (g.nH : Int)
  | 13 => v = .pointer (some ⟨bl, 9, none⟩)
  | 14 => v = .slice p.aH d.nH p.cH
  | 15 => v = .int .i64 (d.nH : Int)
  | 16 => v = .int .i64 ((d.nH : Int) - 1)
  | 17 => v = .bool true
  | 18 => v = .bool true
  | 19 => v = .bool true
  | 20 => v = LegV g pg
  | 21 => v = .int .i64 y
  | 22 => Ls g W v
  | 23 => v = LegV g pg
  | 24 => v = .bool true
  | 25 => v = .bool true
  | 26 => v = .bool true
  | 27 => v = LegV g pg
  | 28 => v = .int .i64 y
  | 29 => Ls g W v
  | 30 => v = LegV g pg
  | 31 => v = .bool true
  | 32 => v = .bool true
  | 33 => v = .bool true
  | _ => True
theorem SDr9.kept {d : LegD} {p : LegP} {g : LegD} {pg : LegP} {y : Int} {bl bx : Nat} {i : Nat} {W W' : World} {v : Value} (h : SDr9 d p g pg y bl bx i W v) (hb : Below W.heap.size W W') : SDr9 d p g pg y bl bx i W' v := by
  match i, h with
  | 0, h => exact h
  | 1, h => exact h
  | 2, h => exact h
  | 3, h => exact h
  | 4, h => exact h
  | 5, h => exact h
  | 6, h => exact h
  | 7, h => exact h
  | 8, h => exact h
  | 9, h => exact h
  | 10, h => exact h
  | 11, h => exact h
  | 12, h => exact h
  | 13, h => exact h
  | 14, h => exact h
  | 15, h => exact h
  | 16, h => exact h
  | 17, h => exact h
  | 18, h => exact h
  | 19, h => exact h
  | 20, h => exact h
  | 21, h => exact h
  | 22, h => exact Ls.kept h hb
  | 23, h => exact h
  | 24, h => exact h
  | 25, h => exact h
  | 26, h => exact h
  | 27, h => exact h
  | 28, h => exact h
  | 29, h => exact Ls.kept h hb
  | 30, h => exact h
  | 31, h => exact h
  | 32, h => exact h
  | 33, h => exact h
  | i + 34, h => exact h
set_option maxRecDepth 100000 in
set_option maxHeartbeats 32000000 in
theorem lawLegDrop (a0 : Option Addr) (len cap : Nat) (z : List Int) (w : World) (w0 : IsRow .u8 w a0 len cap z) :
    Calls Try.prog 6 #[.slice a0 len cap] w fun e w' => e = .returned (.bool true) ∧ Below w.heap.size w w' := by
  by_cases hbig : 1048576 < len
  · go_enter Try.func6, Try.ntmps6
    go_wp2
    go_ret
    exact ⟨rfl, Below.refl _ _⟩
  go_enter Try.func6, Try.ntmps6
  go_wp2_with fail
  refine (drawDrop a0 len cap z _ w0).mono ?_
  rintro e w1 ⟨d, p, y, rfl, hfit, hin, -, hb1⟩
  clear w0
  have HF := hfit
  have HIN0 := Lib.hid hin
  have D0 := Lib.hid hb1
  clear hfit hin hb1
  have hbXWX := legRowBelow w1 (LegC d p)
  have hXWX : LegBx ((w1.alloc (.cells #[.string ⟨#[]⟩, .string ⟨#[]⟩, .string ⟨#[]⟩, .int .i64 0, .int .i64 0, .int .i64 0, .slice none 0 0, .slice none 0 0, .slice none 0 0, .slice none 0 0] 31)).setRow w1.heap.size (LegC d p)) w1.heap.size 31 d p := legRowBox w1 d p
  have HINX := Lib.hid (HIN0.out.kept hbXWX)
  have DX := Lib.hid (bt D0.out hbXWX)
  have HL0 := Lib.hid hXWX
  clear hXWX hbXWX
  unfold LegV
  have x0 := HL0.out.c0
  have x1 := HL0.out.c1
  have x2 := HL0.out.c2
  have x3 := HL0.out.c3
  have x4 := HL0.out.c4
  have x5 := HL0.out.c5
  have x6 := HL0.out.c6
  have x7 := HL0.out.c7
  have x8 := HL0.out.c8
  have x9 := HL0.out.c9
  go_wp2_with (first
    | (refine wpList_store_row rfl 31 _ _ rfl w1.heap.size (LegC d p) rfl rfl 31 #[.string ⟨#[]⟩, .string ⟨#[]⟩, .string ⟨#[]⟩, .int .i64 0, .int .i64 0, .int .i64 0, .slice none 0 0, .slice none 0 0, .slice none 0 0, .slice none 0 0] (heap_alloc_new w1 _) legSize rfl (leg_one d p) ?_)
    | fail)
  generalize (w1.alloc (.cells #[.string ⟨#[]⟩, .string ⟨#[]⟩, .string ⟨#[]⟩, .int .i64 0, .int .i64 0, .int .i64 0, .slice none 0 0, .slice none 0 0, .slice none 0 0, .slice none 0 0] 31)).setRow w1.heap.size (LegC d p) = WX at *
  refine (LegDropI d p y WX HINX.out HF.out.1 HF.out.2.1).mono ?_
  rintro e w2 ⟨g, pg, rfl, hg, hnew, d2⟩
  have HG := hg
  have HL2 := Lib.hid (HL0.out.kept d2)
  have HIN2 := Lib.hid (HINX.out.kept d2)
  have HING := Lib.hid hnew.leg
  have HCG := Lib.hid hnew.1.2.1
  have D2 := Lib.hid (bt DX.out d2)
  have HFg := Lib.hid (post_fits (fun h => okLeg_drop h y) hg.out)
  generalize w1.heap.size = bl at *
  obtain ⟨o, ho⟩ : ∃ o : Bool, o = true ↔ OkLeg d := by
    by_cases q : OkLeg d
    · exact ⟨true, fun _ => q, fun _ => rfl⟩
    · exact ⟨false, fun h => (by cases h), fun h => absurd h q⟩
  have HO := Lib.hid ho
  have zoo : (o != o) = false := by simp
  clear hg d2 ho hnew
  clear x0 x1 x2 x3 x4 x5 x6 x7 x8 x9
  have hbXw3 := legRowBelow w2 (LegC g pg)
  have hXw3 : LegBx ((w2.alloc (.cells #[.string ⟨#[]⟩, .string ⟨#[]⟩, .string ⟨#[]⟩, .int .i64 0, .int .i64 0, .int .i64 0, .slice none 0 0, .slice none 0 0, .slice none 0 0, .slice none 0 0] 31)).setRow w2.heap.size (LegC g pg)) w2.heap.size 31 g pg := legRowBox w2 g pg
  have HL1 := Lib.hid (HL2.out.kept hbXw3)
  have HIN1 := Lib.hid (HIN2.out.kept hbXw3)
  have HING1 := Lib.hid (HING.out.kept hbXw3)
  have D3 := Lib.hid (bt D2.out hbXw3)
  have HX1 := Lib.hid hXw3
  clear hXw3 hbXw3
  unfold LegV
  have x0 := HX1.out.c0
  have x1 := HX1.out.c1
  have x2 := HX1.out.c2
  have x3 := HX1.out.c3
  have x4 := HX1.out.c4
  have x5 := HX1.out.c5
  have x6 := HX1.out.c6
  have x7 := HX1.out.c7
  have x8 := HX1.out.c8
  have x9 := HX1.out.c9
  go_wp2_with (first
    | (refine wpList_store_row rfl 31 _ _ rfl w2.heap.size (LegC g pg) rfl rfl 31 #[.string ⟨#[]⟩, .string ⟨#[]⟩, .string ⟨#[]⟩, .int .i64 0, .int .i64 0, .int .i64 0, .slice none 0 0, .slice none 0 0, .slice none 0 0, .slice none 0 0] (heap_alloc_new w2 _) legSize rfl (leg_one g pg) ?_)
    | fail)
  generalize (w2.alloc (.cells #[.string ⟨#[]⟩, .string ⟨#[]⟩, .string ⟨#[]⟩, .int .i64 0, .int .i64 0, .int .i64 0, .slice none 0 0, .slice none 0 0, .slice none 0 0, .slice none 0 0] 31)).setRow w2.heap.size (LegC g pg) = w3 at *
  clear x0 x1 x2 x3 x4 x5 x6 x7 x8 x9
  generalize w2.heap.size = bx at *
  go_upto_region 5 with fail
  refine wp_region_free' (by kernel_rfl) (fun _ W => Below w3.heap.size w3 W) (fun W W' => Below W.heap.size W W') (SDr d p g pg y o) (by kernel_rfl) (fun i k v W W' h _ hb => h.kept hb) ((Below.refl _ _).drew) ?_
  apply Exists.intro
  apply And.intro
  · intro f
    simp only [over, List.set]
    exact rfl
  refine ⟨?hops5, ?hend5⟩
  case hops5 =>
    refine EachOp.cons ?_ (EachOp.cons ?_ (EachOp.cons ?_ (EachOp.cons ?_ (EachOp.cons ?_ (EachOp.cons ?_ (EachOp.cons ?_ (EachOp.cons ?_ (EachOp.cons ?_ (EachOp.cons ?_ (EachOp.cons ?_ (EachOp.cons ?_ (EachOp.cons ?_ (EachOp.nil)))))))))))))
    · intro ff kk ww hkk hI hd QQ' hQ
      try dsimp only
      have qb := Lib.hid (HX1.out.kept hI)
      have y0 := qb.out.c0
      have y1 := qb.out.c1
      have y2 := qb.out.c2
      have y3 := qb.out.c3
      have y4 := qb.out.c4
      have y5 := qb.out.c5
      have y6 := qb.out.c6
      have y7 := qb.out.c7
      have y8 := qb.out.c8
      have y9 := qb.out.c9
      go_big_wp2_with fail
      refine hQ _ _ _ ?_ hI (Below.refl _ _) rfl
      first | rfl | (simp [upd, LegV_eq, LegC]; done)
    · intro ff kk ww hkk hI hd QQ' hQ
      try dsimp only
      have qb := Lib.hid (HL1.out.kept hI)
      have y0 := qb.out.c0
      have y1 := qb.out.c1
      have y2 := qb.out.c2
      have y3 := qb.out.c3
      have y4 := qb.out.c4
      have y5 := qb.out.c5
      have y6 := qb.out.c6
      have y7 := qb.out.c7
      have y8 := qb.out.c8
      have y9 := qb.out.c9
      go_big_wp2_with fail
      refine hQ _ _ _ ?_ hI (Below.refl _ _) rfl
      first | rfl | (simp [upd, LegV_eq, LegC]; done)
    · intro ff kk ww hkk hI hd QQ' hQ
      try dsimp only
      go_big_wp2_with fail
      refine hQ _ _ _ ?_ hI (Below.refl _ _) rfl
      first | rfl | (simp [upd]; done)
    · intro ff kk ww hkk hI hd QQ' hQ
      try dsimp only
      have c1' : ff 1 = _ := hd.get (n := 1) (by decide)
      have c2' : ff 2 = _ := hd.get (n := 2) (by decide)
      go_big_wp2_with fail
      refine (LegDropM d p y ww (HIN1.out.kept hI) HF.out.1 HF.out.2.2).mono ?_
      rintro e wa ⟨g2, q2, rfl, hg2, hn2, da⟩
      obtain rfl : g = g2 := post_one HG.out hg2.out
      have hls : Ls g wa (LegV g q2) := ⟨q2, rfl, hn2.leg⟩
      go_big_wp2_with fail
      refine hQ _ _ wa ?_ (bt hI da) da hls
      first | rfl | (simp [upd, c1', c2']; done)
    · intro ff kk ww hkk hI hd QQ' hQ
      try dsimp only
      have c0' : ff 0 = _ := hd.get (n := 0) (by decide)
      obtain ⟨q, cq, hq⟩ : Ls g ww (ff 3) := hd.get (n := 3) (by decide)
      have cq' : ff 3 = _ := cq
      go_big_wp2_with fail
      refine (wsLegS g pg q ww (HING1.out.kept hI) hq HFg.out).mono ?_
      rintro e wa ⟨rfl, da⟩
      go_big_wp2_with fail
      refine hQ _ _ _ ?_ (bt hI da) da rfl
      first | rfl | (simp [upd, c0', cq']; done)
    · intro ff kk ww hkk hI hd QQ' hQ
      try dsimp only
      have c4' : ff 4 = _ := hd.get (n := 4) (by decide)
      go_big_wp2_with fail
      refine hQ _ _ _ ?_ hI (Below.refl _ _) rfl
      first | rfl | (simp [upd, c4']; done)
    · intro ff kk ww hkk hI hd QQ' hQ
      try dsimp only
      have c5' : ff 5 = _ := hd.get (n := 5) (by decide)
      go_big_wp2_with fail
      refine hQ _ _ _ ?_ hI (Below.refl _ _) rfl
      first | rfl | (simp [upd, c5']; done)
    · intro ff kk ww hkk hI hd QQ' hQ
      try dsimp only
      have qb := Lib.hid (HL1.out.kept hI)
      have y0 := qb.out.c0
      have y1 := qb.out.c1
      have y2 := qb.out.c2
      have y3 := qb.out.c3
      have y4 := qb.out.c4
      have y5 := qb.out.c5
      have y6 := qb.out.c6
      have y7 := qb.out.c7
      have y8 := qb.out.c8
      have y9 := qb.out.c9
      have c6' : ff 6 = _ := hd.get (n := 6) (by decide)
      go_big_wp2_with fail
      refine hQ _ _ _ ?_ hI (Below.refl _ _) rfl
      first | rfl | (simp [upd, c6', LegV_eq, LegC]; done)
    · intro ff kk ww hkk hI hd QQ' hQ
      try dsimp only
      have c6' : ff 6 = _ := hd.get (n := 6) (by decide)
      have c7' : ff 7 = _ := hd.get (n := 7) (by decide)
      go_big_wp2_with fail
      refine (det (okI d p ww (HIN1.out.kept hI) HF.out.1 HF.out.2.1) o HO.out).mono ?_
      rintro e wa ⟨rfl, da⟩
      go_big_wp2_with fail
      refine hQ _ _ _ ?_ (bt hI da) da rfl
      first | rfl | (simp [upd, c6', c7']; done)
    · intro ff kk ww hkk hI hd QQ' hQ
      try dsimp only
      have qb := Lib.hid (HL1.out.kept hI)
      have y0 := qb.out.c0
      have y1 := qb.out.c1
      have y2 := qb.out.c2
      have y3 := qb.out.c3
      have y4 := qb.out.c4
      have y5 := qb.out.c5
      have y6 := qb.out.c6
      have y7 := qb.out.c7
      have y8 := qb.out.c8
      have y9 := qb.out.c9
      have c6' : ff 6 = _ := hd.get (n := 6) (by decide)
      go_big_wp2_with fail
      refine hQ _ _ _ ?_ hI (Below.refl _ _) rfl
      first | rfl | (simp [upd, c6', LegV_eq, LegC]; done)
    · intro ff kk ww hkk hI hd QQ' hQ
      try dsimp only
      have c6' : ff 6 = _ := hd.get (n := 6) (by decide)
      have c9' : ff 9 = _ := hd.get (n := 9) (by decide)
      go_big_wp2_with fail
      refine (det (okM d p ww (HIN1.out.kept hI) HF.out.1) o HO.out).mono ?_
      rintro e wa ⟨rfl, da⟩
      go_big_wp2_with fail
      refine hQ _ _ _ ?_ (bt hI da) da rfl
      first | rfl | (simp [upd, c6', c9']; done)
    · intro ff kk ww hkk hI hd QQ' hQ
      try dsimp only
      have c6' : ff 6 = _ := hd.get (n := 6) (by decide)
      have c8' : ff 8 = _ := hd.get (n := 8) (by decide)
      have c10' : ff 10 = _ := hd.get (n := 10) (by decide)
      go_big_wp2_with fail
      refine hQ _ _ _ ?_ hI (Below.refl _ _) rfl
      first | rfl | (simp [upd, c6', c8', c10', zoo]; done)
    · intro ff kk ww hkk hI hd QQ' hQ
      try dsimp only
      have c6' : ff 6 = _ := hd.get (n := 6) (by decide)
      have c11' : ff 11 = _ := hd.get (n := 11) (by decide)
      go_big_wp2_with fail
      refine hQ _ _ _ ?_ hI (Below.refl _ _) rfl
      first | rfl | (simp [upd, c6', c11']; done)
  case hend5 =>
  intro ff kk w4 d4 hS
  try dsimp only
  have c12' : ff 12 = _ := hS 12 (by decide)
  rw [c12']
  clear c12' hS
  have HL4 := Lib.hid (HL1.out.kept d4)
  have HX4 := Lib.hid (HX1.out.kept d4)
  have HIN4 := Lib.hid (HIN1.out.kept d4)
  have HING4 := Lib.hid (HING1.out.kept d4)
  have D4 := Lib.hid (bt D3.out d4)
  clear d4
  have x0 := HL4.out.c0
  have x1 := HL4.out.c1
  have x2 := HL4.out.c2
  have x3 := HL4.out.c3
  have x4 := HL4.out.c4
  have x5 := HL4.out.c5
  have x6 := HL4.out.c6
  have x7 := HL4.out.c7
  have x8 := HL4.out.c8
  have x9 := HL4.out.c9
  go_wp2_with fail
  refine (det (okM d p w4 HIN4.out HF.out.1) o HO.out).mono ?_
  rintro e w5 ⟨rfl, d5⟩
  have D5 := Lib.hid (bt D4.out d5)
  have HL5 := Lib.hid (HL4.out.kept d5)
  have HX5 := Lib.hid (HX4.out.kept d5)
  have HIN5 := Lib.hid (HIN4.out.kept d5)
  have HING5 := Lib.hid (HING4.out.kept d5)
  clear d5
  clear x0 x1 x2 x3 x4 x5 x6 x7 x8 x9
  clear HL0 HL2 HL1 HL4 HX1 HX4 HIN0 HIN2 HIN1 HIN4 HING HING1 HING4
  cases o with
  | false =>
    have hz : g = zeroD := HG.out.2 (fun h => by have := HO.out.2 h; cases this)
    have hcap : g.cap = 0 := by rw [hz]; rfl
    have x5 := HX5.out.c5
    rw [hcap] at x5
    clear hz hcap
    go_wp2
    go_ret
    exact ⟨rfl, D5.out⟩
  | true =>
  have HOK : Hid (OkLeg d) := HO.out.1 rfl
  have HGE : Hid (g = dropD d y) := HG.out.1 HOK.out
  have HOG : Hid (OkLeg g) := by
    have h := okLeg_drop HOK.out y
    rw [← HGE.out] at h
    exact h
  have HGO : Hid (∀ i, i < g.nH → g.t i ≠ y) := by
    have h := drop_gone HOK.out.2.2.1 y
    rw [← HGE.out] at h
    exact h
  have HSS : Hid (g.S = d.S ∧ g.nS = d.nS ∧ d.nH - 1 ≤ g.nH) := by
    have h := drop_S d y
    rw [← HGE.out] at h
    exact h
  clear HO zoo
  go_upto_region 9 with fail
  refine wp_region_free' (by kernel_rfl) (fun _ W => Below w5.heap.size w5 W) (fun W W' => Below W.heap.size W W') (SDr9 d p g pg y bl bx) (by kernel_rfl) (fun i k v W W' h _ hb => h.kept hb) ((Below.refl _ _).drew) ?_
  apply Exists.intro
  apply And.intro
  · intro f
    simp only [over, List.set]
    exact rfl
  refine ⟨?hops9, ?hend9⟩
  case hops9 =>
    refine EachOp.cons ?_ (EachOp.cons ?_ (EachOp.cons ?_ (EachOp.cons ?_ (EachOp.cons ?_ (EachOp.cons ?_ (EachOp.cons ?_ (EachOp.cons ?_ (EachOp.cons ?_ (EachOp.cons ?_ (EachOp.cons ?_ (EachOp.cons ?_ (EachOp.cons ?_ (EachOp.cons ?_ (EachOp.cons ?_ (EachOp.cons ?_ (EachOp.cons ?_ (EachOp.cons ?_ (EachOp.cons ?_ (EachOp.cons ?_ (EachOp.cons ?_ (EachOp.cons ?_ (EachOp.cons ?_ (EachOp.cons ?_ (EachOp.cons ?_ (EachOp.cons ?_ (EachOp.cons ?_ (EachOp.cons ?_ (EachOp.cons ?_ (EachOp.cons ?_ (EachOp.cons ?_ (EachOp.cons ?_ (EachOp.cons ?_ (EachOp.cons ?_ (EachOp.nil))))))))))))))))))))))))))))))))))
    · intro ff kk ww hkk hI hd QQ' hQ
      try dsimp only
      have qb := Lib.hid (HX5.out.kept hI)
      have y0 := qb.out.c0
      have y1 := qb.out.c1
      have y2 := qb.out.c2
      have y3 := qb.out.c3
      have y4 := qb.out.c4
      have y5 := qb.out.c5
      have y6 := qb.out.c6
      have y7 := qb.out.c7
      have y8 := qb.out.c8
      have y9 := qb.out.c9
      go_big_wp2_with fail
      refine hQ _ _ _ ?_ hI (Below.refl _ _) rfl
      first | rfl | (simp [upd, LegV_eq, LegC]; done)
    · intro ff kk ww hkk hI hd QQ' hQ
      try dsimp only
      have c0' : ff 0 = _ := hd.get (n := 0) (by decide)
      go_big_wp2_with fail
      refine (det (okI g pg ww (HING5.out.kept hI) HFg.out HCG.out) true ⟨fun _ => HOG.out, fun _ => rfl⟩).mono ?_
      rintro e wa ⟨rfl, da⟩
      go_big_wp2_with fail
      refine hQ _ _ _ ?_ (bt hI da) da rfl
      first | rfl | (simp [upd, c0']; done)
    · intro ff kk ww hkk hI hd QQ' hQ
      try dsimp only
      have c1' : ff 1 = _ := hd.get (n := 1) (by decide)
      go_big_wp2_with fail
      refine hQ _ _ _ ?_ hI (Below.refl _ _) rfl
      first | rfl | (simp [upd, c1']; done)
    · intro ff kk ww hkk hI hd QQ' hQ
      try dsimp only
      have c2' : ff 2 = _ := hd.get (n := 2) (by decide)
      go_big_wp2_with fail
      refine hQ _ _ _ ?_ hI (Below.refl _ _) rfl
      first | rfl | (simp [upd, c2']; done)
    · intro ff kk ww hkk hI hd QQ' hQ
      try dsimp only
      have y7 : ww.cell? ⟨bx, 7, none⟩ = _ := (HX5.out.kept hI).c7
      have c2' : ff 2 = _ := hd.get (n := 2) (by decide)
      have c3' : ff 3 = _ := hd.get (n := 3) (by decide)
      go_big_wp2_with fail
      refine hQ _ _ _ ?_ hI (Below.refl _ _) rfl
      first | rfl | (simp [upd, c2', c3']; done)
    · intro ff kk ww hkk hI hd QQ' hQ
      try dsimp only
      have c2' : ff 2 = _ := hd.get (n := 2) (by decide)
      go_big_wp2_with fail
      refine hQ _ _ _ ?_ hI (Below.refl _ _) rfl
      first | rfl | (simp [upd, c2']; done)
    · intro ff kk ww hkk hI hd QQ' hQ
      try dsimp only
      have y7 : ww.cell? ⟨bl, 7, none⟩ = _ := (HL5.out.kept hI).c7
      have c2' : ff 2 = _ := hd.get (n := 2) (by decide)
      have c5' : ff 5 = _ := hd.get (n := 5) (by decide)
      go_big_wp2_with fail
      refine hQ _ _ _ ?_ hI (Below.refl _ _) rfl
      first | rfl | (simp [upd, c2', c5']; done)
    · intro ff kk ww hkk hI hd QQ' hQ
      try dsimp only
      have hn1 := (HING5.out.kept hI).2.1
      have hn2 := (HIN5.out.kept hI).2.1
      rw [HSS.out.1, HSS.out.2.1] at hn1
      have hnS := HSS.out.2.1
      have c2' : ff 2 = _ := hd.get (n := 2) (by decide)
      have c4' : ff 4 = _ := hd.get (n := 4) (by decide)
      have c6' : ff 6 = _ := hd.get (n := 6) (by decide)
      rw [hnS] at c4'
      go_big_wp2_with fail
      refine (wsIntsS pg.aS p.aS d.nS _ _ d.S ww hn1 hn2 HF.out.1.2.2.2.2.1).mono ?_
      rintro e wa ⟨rfl, dq⟩
      have da := drew_below (B := ww.heap.size) dq
      go_big_wp2_with fail
      refine hQ _ _ _ ?_ (bt hI da) da rfl
      first | rfl | (simp [upd, c2', c4', c6', hnS]; done)
    · intro ff kk ww hkk hI hd QQ' hQ
      try dsimp only
      have c2' : ff 2 = _ := hd.get (n := 2) (by decide)
      have c7' : ff 7 = _ := hd.get (n := 7) (by decide)
      go_big_wp2_with fail
      refine hQ _ _ _ ?_ hI (Below.refl _ _) rfl
      first | rfl | (simp [upd, c2', c7']; done)
    · intro ff kk ww hkk hI hd QQ' hQ
      try dsimp only
      have c8' : ff 8 = _ := hd.get (n := 8) (by decide)
      go_big_wp2_with fail
      refine hQ _ _ _ ?_ hI (Below.refl _ _) rfl
      first | rfl | (simp [upd, c8']; done)
    · intro ff kk ww hkk hI hd QQ' hQ
      try dsimp only
      have c9' : ff 9 = _ := hd.get (n := 9) (by decide)
      go_big_wp2_with fail
      refine hQ _ _ _ ?_ hI (Below.refl _ _) rfl
      first | rfl | (simp [upd, c9']; done)
    · intro ff kk ww hkk hI hd QQ' hQ
      try dsimp only
      have y9 : ww.cell? ⟨bx, 9, none⟩ = _ := (HX5.out.kept hI).c9
      have c9' : ff 9 = _ := hd.get (n := 9) (by decide)
      have c10' : ff 10 = _ := hd.get (n := 10) (by decide)
      go_big_wp2_with fail
      refine hQ _ _ _ ?_ hI (Below.refl _ _) rfl
      first | rfl | (simp [upd, c9', c10']; done)
    · intro ff kk ww hkk hI hd QQ' hQ
      try dsimp only
      have c9' : ff 9 = _ := hd.get (n := 9) (by decide)
      have c11' : ff 11 = _ := hd.get (n := 11) (by decide)
      go_big_wp2_with fail
      refine hQ _ _ _ ?_ hI (Below.refl _ _) rfl
      first | rfl | (simp [upd, c9', c11']; done)
    · intro ff kk ww hkk hI hd QQ' hQ
      try dsimp only
      have c9' : ff 9 = _ := hd.get (n := 9) (by decide)
      go_big_wp2_with fail
      refine hQ _ _ _ ?_ hI (Below.refl _ _) rfl
      first | rfl | (simp [upd, c9']; done)
    · intro ff kk ww hkk hI hd QQ' hQ
      try dsimp only
      have y9 : ww.cell? ⟨bl, 9, none⟩ = _ := (HL5.out.kept hI).c9
      have c9' : ff 9 = _ := hd.get (n := 9) (by decide)
      have c13' : ff 13 = _ := hd.get (n := 13) (by decide)
      go_big_wp2_with fail
      refine hQ _ _ _ ?_ hI (Below.refl _ _) rfl
      first | rfl | (simp [upd, c9', c13']; done)
    · intro ff kk ww hkk hI hd QQ' hQ
      try dsimp only
      have c9' : ff 9 = _ := hd.get (n := 9) (by decide)
      have c14' : ff 14 = _ := hd.get (n := 14) (by decide)
      go_big_wp2_with fail
      refine hQ _ _ _ ?_ hI (Below.refl _ _) rfl
      first | rfl | (simp [upd, c9', c14']; done)
    · intro ff kk ww hkk hI hd QQ' hQ
      try dsimp only
      have ew : IntKind.i64.wrap ((d.nH : Int) - 1) = (d.nH : Int) - 1 := IntWalk.i64_in _ (by have := HF.out.1.2.2.2.2.2.2; omega)
      have c9' : ff 9 = _ := hd.get (n := 9) (by decide)
      have c15' : ff 15 = _ := hd.get (n := 15) (by decide)
      go_big_wp2_with fail
      refine hQ _ _ _ ?_ hI (Below.refl _ _) rfl
      first | rfl | (simp [upd, c9', c15', ew]; done)
    · intro ff kk ww hkk hI hd QQ' hQ
      try dsimp only
      have ez : decide ((d.nH : Int) - 1 ≤ (g.nH : Int)) = true := decide_eq_true (by have := HSS.out.2.2; omega)
      have c9' : ff 9 = _ := hd.get (n := 9) (by decide)
      have c12' : ff 12 = _ := hd.get (n := 12) (by decide)
      have c16' : ff 16 = _ := hd.get (n := 16) (by decide)
      go_big_wp2_with fail
      refine hQ _ _ _ ?_ hI (Below.refl _ _) rfl
      first | rfl | (simp [upd, c9', c12', c16', ez]; done)
    · intro ff kk ww hkk hI hd QQ' hQ
      try dsimp only
      have c9' : ff 9 = _ := hd.get (n := 9) (by decide)
      have c17' : ff 17 = _ := hd.get (n := 17) (by decide)
      go_big_wp2_with fail
      refine hQ _ _ _ ?_ hI (Below.refl _ _) rfl
      first | rfl | (simp [upd, c9', c17']; done)
    · intro ff kk ww hkk hI hd QQ' hQ
      try dsimp only
      have c18' : ff 18 = _ := hd.get (n := 18) (by decide)
      go_big_wp2_with fail
      refine hQ _ _ _ ?_ hI (Below.refl _ _) rfl
      first | rfl | (simp [upd, c18']; done)
    · intro ff kk ww hkk hI hd QQ' hQ
      try dsimp only
      have qb := Lib.hid (HX5.out.kept hI)
      have y0 := qb.out.c0
      have y1 := qb.out.c1
      have y2 := qb.out.c2
      have y3 := qb.out.c3
      have y4 := qb.out.c4
      have y5 := qb.out.c5
      have y6 := qb.out.c6
      have y7 := qb.out.c7
      have y8 := qb.out.c8
      have y9 := qb.out.c9
      have c19' : ff 19 = _ := hd.get (n := 19) (by decide)
      go_big_wp2_with fail
      refine hQ _ _ _ ?_ hI (Below.refl _ _) rfl
      first | rfl | (simp [upd, c19', LegV_eq, LegC]; done)
    · intro ff kk ww hkk hI hd QQ' hQ
      try dsimp only
      have c19' : ff 19 = _ := hd.get (n := 19) (by decide)
      go_big_wp2_with fail
      refine hQ _ _ _ ?_ hI (Below.refl _ _) rfl
      first | rfl | (simp [upd, c19']; done)
    · intro ff kk ww hkk hI hd QQ' hQ
      try dsimp only
      have c19' : ff 19 = _ := hd.get (n := 19) (by decide)
      have c20' : ff 20 = _ := hd.get (n := 20) (by decide)
      have c21' : ff 21 = _ := hd.get (n := 21) (by decide)
      go_big_wp2_with fail
      refine (LegDropI g pg y ww (HING5.out.kept hI) HFg.out HCG.out).mono ?_
      rintro e wa ⟨g2, q2, rfl, hg2, hn2, da⟩
      obtain rfl : g2 = g := (hg2.out.1 HOG.out).trans (drop_none HGO.out)
      have hls : Ls g2 wa (LegV g2 q2) := ⟨q2, rfl, hn2.leg⟩
      go_big_wp2_with fail
      refine hQ _ _ wa ?_ (bt hI da) da hls
      first | rfl | (simp [upd, c19', c20', c21']; done)
    · intro ff kk ww hkk hI hd QQ' hQ
      try dsimp only
      have qb := Lib.hid (HX5.out.kept hI)
      have y0 := qb.out.c0
      have y1 := qb.out.c1
      have y2 := qb.out.c2
      have y3 := qb.out.c3
      have y4 := qb.out.c4
      have y5 := qb.out.c5
      have y6 := qb.out.c6
      have y7 := qb.out.c7
      have y8 := qb.out.c8
      have y9 := qb.out.c9
      have c19' : ff 19 = _ := hd.get (n := 19) (by decide)
      go_big_wp2_with fail
      refine hQ _ _ _ ?_ hI (Below.refl _ _) rfl
      first | rfl | (simp [upd, c19', LegV_eq, LegC]; done)
    · intro ff kk ww hkk hI hd QQ' hQ
      try dsimp only
      have c19' : ff 19 = _ := hd.get (n := 19) (by decide)
      have c23' : ff 23 = _ := hd.get (n := 23) (by decide)
      obtain ⟨q, cq, hq⟩ : Ls g ww (ff 22) := hd.get (n := 22) (by decide)
      have cq' : ff 22 = _ := cq
      go_big_wp2_with fail
      refine (wsLegS g q pg ww hq (HING5.out.kept hI) HFg.out).mono ?_
      rintro e wa ⟨rfl, da⟩
      go_big_wp2_with fail
      refine hQ _ _ _ ?_ (bt hI da) da rfl
      first | rfl | (simp [upd, c23', cq', c19']; done)
    · intro ff kk ww hkk hI hd QQ' hQ
      try dsimp only
      have c19' : ff 19 = _ := hd.get (n := 19) (by decide)
      have c24' : ff 24 = _ := hd.get (n := 24) (by decide)
      go_big_wp2_with fail
      refine hQ _ _ _ ?_ hI (Below.refl _ _) rfl
      first | rfl | (simp [upd, c19', c24']; done)
    · intro ff kk ww hkk hI hd QQ' hQ
      try dsimp only
      have c25' : ff 25 = _ := hd.get (n := 25) (by decide)
      go_big_wp2_with fail
      refine hQ _ _ _ ?_ hI (Below.refl _ _) rfl
      first | rfl | (simp [upd, c25']; done)
    · intro ff kk ww hkk hI hd QQ' hQ
      try dsimp only
      have qb := Lib.hid (HX5.out.kept hI)
      have y0 := qb.out.c0
      have y1 := qb.out.c1
      have y2 := qb.out.c2
      have y3 := qb.out.c3
      have y4 := qb.out.c4
      have y5 := qb.out.c5
      have y6 := qb.out.c6
      have y7 := qb.out.c7
      have y8 := qb.out.c8
      have y9 := qb.out.c9
      have c26' : ff 26 = _ := hd.get (n := 26) (by decide)
      go_big_wp2_with fail
      refine hQ _ _ _ ?_ hI (Below.refl _ _) rfl
      first | rfl | (simp [upd, c26', LegV_eq, LegC]; done)
    · intro ff kk ww hkk hI hd QQ' hQ
      try dsimp only
      have c26' : ff 26 = _ := hd.get (n := 26) (by decide)
      go_big_wp2_with fail
      refine hQ _ _ _ ?_ hI (Below.refl _ _) rfl
      first | rfl | (simp [upd, c26']; done)
    · intro ff kk ww hkk hI hd QQ' hQ
      try dsimp only
      have c26' : ff 26 = _ := hd.get (n := 26) (by decide)
      have c27' : ff 27 = _ := hd.get (n := 27) (by decide)
      have c28' : ff 28 = _ := hd.get (n := 28) (by decide)
      go_big_wp2_with fail
      refine (LegKeepI g pg y ww (HING5.out.kept hI) HFg.out HCG.out).mono ?_
      rintro e wa ⟨g2, q2, rfl, hg2, hn2, da⟩
      obtain rfl : g2 = g := (hg2.out.1 HOG.out).trans (keep_none HGO.out)
      have hls : Ls g2 wa (LegV g2 q2) := ⟨q2, rfl, hn2.leg⟩
      go_big_wp2_with fail
      refine hQ _ _ wa ?_ (bt hI da) da hls
      first | rfl | (simp [upd, c26', c27', c28']; done)
    · intro ff kk ww hkk hI hd QQ' hQ
      try dsimp only
      have qb := Lib.hid (HX5.out.kept hI)
      have y0 := qb.out.c0
      have y1 := qb.out.c1
      have y2 := qb.out.c2
      have y3 := qb.out.c3
      have y4 := qb.out.c4
      have y5 := qb.out.c5
      have y6 := qb.out.c6
      have y7 := qb.out.c7
      have y8 := qb.out.c8
      have y9 := qb.out.c9
      have c26' : ff 26 = _ := hd.get (n := 26) (by decide)
      go_big_wp2_with fail
      refine hQ _ _ _ ?_ hI (Below.refl _ _) rfl
      first | rfl | (simp [upd, c26', LegV_eq, LegC]; done)
    · intro ff kk ww hkk hI hd QQ' hQ
      try dsimp only
      have c26' : ff 26 = _ := hd.get (n := 26) (by decide)
      have c30' : ff 30 = _ := hd.get (n := 30) (by decide)
      obtain ⟨q, cq, hq⟩ : Ls g ww (ff 29) := hd.get (n := 29) (by decide)
      have cq' : ff 29 = _ := cq
      go_big_wp2_with fail
      refine (wsLegS g q pg ww hq (HING5.out.kept hI) HFg.out).mono ?_
      rintro e wa ⟨rfl, da⟩
      go_big_wp2_with fail
      refine hQ _ _ _ ?_ (bt hI da) da rfl
      first | rfl | (simp [upd, c30', cq', c26']; done)
    · intro ff kk ww hkk hI hd QQ' hQ
      try dsimp only
      have c26' : ff 26 = _ := hd.get (n := 26) (by decide)
      have c31' : ff 31 = _ := hd.get (n := 31) (by decide)
      go_big_wp2_with fail
      refine hQ _ _ _ ?_ hI (Below.refl _ _) rfl
      first | rfl | (simp [upd, c26', c31']; done)
    · intro ff kk ww hkk hI hd QQ' hQ
      try dsimp only
      have c32' : ff 32 = _ := hd.get (n := 32) (by decide)
      go_big_wp2_with fail
      refine hQ _ _ _ ?_ hI (Below.refl _ _) rfl
      first | rfl | (simp [upd, c32']; done)
  case hend9 =>
  intro ff kk w6 d6 hS
  try dsimp only
  have c33' : ff 33 = _ := hS 33 (by decide)
  rw [c33']
  have D6 := Lib.hid (bt D5.out d6)
  clear c33' hS d6
  go_wp2
  go_ret
  exact ⟨rfl, D6.out⟩

end Go.Proofs.Ytmlkjlipjkmcfaa
