/-
  The law FnLegBid's own walk.
-/
import Derived.Test.YtmlkjlipjkmcfaaDrawBid
import Derived.Test.YtmlkjlipjkmcfaaHoldFit
import Derived.Test.YtmlkjlipjkmcfaaLegHoldI
namespace Go.Proofs.Ytmlkjlipjkmcfaa
open Go.RowKit
set_option linter.unusedVariables false
set_option linter.unusedSimpArgs false

theorem Deps.get {S : Nat → World → Value → Prop} {f : Nat → Value} {w : World} : ∀ {l : List Nat}, Deps S f w l → ∀ {n : Nat}, n ∈ l → S n w (f n)
  | [], _, _, h => by cases h
  | m :: l, hd, n, h => by
    rcases List.mem_cons.1 h with e | e
    · subst e; exact hd.1
    · exact Deps.get hd.2 e
def SBid (d : LegD) (p : LegP) (b : Int) (o : Bool) (i : Nat) (W : World) (v : Value) : Prop := match i with
  | 0 => v = .int .i64 b
  | 1 => v = LegV d p
  | 2 => v = .int .i64 b
  | 3 => v = .bool false
  | 4 => v = .bool false
  | 5 => v = LegV d p
  | 6 => v = .bool o
  | 7 => v = LegV d p
  | 8 => v = .bool o
  | 9 => v = .bool false
  | 10 => v = .bool false
  | _ => True
theorem SBid.kept {d : LegD} {p : LegP} {b : Int} {o : Bool} {i : Nat} {W W' : World} {v : Value} (h : SBid d p b o i W v) (hb : Below W.heap.size W W') : SBid d p b o i W' v := by
  match i, h with
  | 0, h => exact h
  | 1, h => exact h
  | 2, h => exact h
  | 3, h => exact h
  | 4, h => exact h
  | 5, h => exact h
  | 6, h => exact h
  | 7, h => exact h
  | 8, h => exact h
  | 9, h => exact h
  | 10, h => exact h
  | i + 11, h => exact h
set_option maxRecDepth 100000 in
set_option maxHeartbeats 16000000 in
theorem lawLegBid (a0 : Option Addr) (len cap : Nat) (z : List Int) (w : World) (w0 : IsRow .u8 w a0 len cap z) :
    Calls Try.prog 8 #[.slice a0 len cap] w fun e w' => e = .returned (.bool true) ∧ Below w.heap.size w w' := by
  by_cases hbig : 1048576 < len
  · go_enter Try.func8, Try.ntmps8
    go_wp2
    go_ret
    exact ⟨rfl, Below.refl _ _⟩
  go_enter Try.func8, Try.ntmps8
  go_wp2_with fail
  refine (drawBid a0 len cap z _ w0).mono ?_
  rintro e w1 ⟨d, p, rfl, hfit, hin, hb1⟩
  clear w0
  have HF := hfit
  have HIN0 := Lib.hid hin
  have D0 := Lib.hid hb1
  clear hfit hin hb1
  have hbXWX := legRowBelow w1 (LegC d p)
  have hXWX : LegBx ((w1.alloc (.cells #[.string ⟨#[]⟩, .string ⟨#[]⟩, .string ⟨#[]⟩, .int .i64 0, .int .i64 0, .int .i64 0, .slice none 0 0, .slice none 0 0, .slice none 0 0, .slice none 0 0] 31)).setRow w1.heap.size (LegC d p)) w1.heap.size 31 d p := legRowBox w1 d p
  have HINX := Lib.hid (HIN0.out.kept hbXWX)
  have DX := Lib.hid (bt D0.out hbXWX)
  have HX0 := Lib.hid hXWX
  clear hXWX hbXWX
  unfold LegV
  have x0 := HX0.out.c0
  have x1 := HX0.out.c1
  have x2 := HX0.out.c2
  have x3 := HX0.out.c3
  have x4 := HX0.out.c4
  have x5 := HX0.out.c5
  have x6 := HX0.out.c6
  have x7 := HX0.out.c7
  have x8 := HX0.out.c8
  have x9 := HX0.out.c9
  go_wp2_with (first
    | (refine wpList_store_row rfl 31 _ _ rfl w1.heap.size (LegC d p) rfl rfl 31 #[.string ⟨#[]⟩, .string ⟨#[]⟩, .string ⟨#[]⟩, .int .i64 0, .int .i64 0, .int .i64 0, .slice none 0 0, .slice none 0 0, .slice none 0 0, .slice none 0 0] (heap_alloc_new w1 _) legSize rfl (leg_one d p) ?_)
    | fail)
  generalize (w1.alloc (.cells #[.string ⟨#[]⟩, .string ⟨#[]⟩, .string ⟨#[]⟩, .int .i64 0, .int .i64 0, .int .i64 0, .slice none 0 0, .slice none 0 0, .slice none 0 0, .slice none 0 0] 31)).setRow w1.heap.size (LegC d p) = WX at *
  refine (LegBidI d p WX HINX.out HF.out.1 HF.out.2.1).mono ?_
  rintro e w2 ⟨v, rfl, hv, d2⟩
  have HV := hv
  have HX1 := Lib.hid (HX0.out.kept d2)
  have HIN1 := Lib.hid (HINX.out.kept d2)
  have D2 := Lib.hid (bt DX.out d2)
  obtain ⟨o, ho⟩ : ∃ o : Bool, o = true ↔ OkLeg d := by
    by_cases q : OkLeg d
    · exact ⟨true, fun _ => q, fun _ => rfl⟩
    · exact ⟨false, fun h => (by cases h), fun h => absurd h q⟩
  have HO := Lib.hid ho
  have zvv : (v != v) = false := by simp
  have zoo : (o != o) = false := by simp
  clear hv d2 ho
  clear x0 x1 x2 x3 x4 x5 x6 x7 x8 x9
  go_upto_region 5 with fail
  refine wp_region_free' (by kernel_rfl) (fun _ W => Below w2.heap.size w2 W) (fun W W' => Below W.heap.size W W') (SBid d p v o) (by kernel_rfl) (fun i k v W W' h _ hb => h.kept hb) ((Below.refl _ _).drew) ?_
  apply Exists.intro
  apply And.intro
  · intro f
    simp only [over, List.set]
    exact rfl
  refine ⟨?hops5, ?hend5⟩
  case hops5 =>
    refine EachOp.cons ?_ (EachOp.cons ?_ (EachOp.cons ?_ (EachOp.cons ?_ (EachOp.cons ?_ (EachOp.cons ?_ (EachOp.cons ?_ (EachOp.cons ?_ (EachOp.cons ?_ (EachOp.cons ?_ (EachOp.cons ?_ (EachOp.nil)))))))))))
    · intro ff kk ww hkk hI hd QQ' hQ
      try dsimp only
      go_big_wp2_with fail
      refine hQ _ _ _ ?_ hI (Below.refl _ _) rfl
      first | rfl | (simp [upd]; done)
    · intro ff kk ww hkk hI hd QQ' hQ
      try dsimp only
      have qb := Lib.hid (HX1.out.kept hI)
      have y0 := qb.out.c0
      have y1 := qb.out.c1
      have y2 := qb.out.c2
      have y3 := qb.out.c3
      have y4 := qb.out.c4
      have y5 := qb.out.c5
      have y6 := qb.out.c6
      have y7 := qb.out.c7
      have y8 := qb.out.c8
      have y9 := qb.out.c9
      go_big_wp2_with fail
      refine hQ _ _ _ ?_ hI (Below.refl _ _) rfl
      first | rfl | (simp [upd, LegV_eq, LegC]; done)
    · intro ff kk ww hkk hI hd QQ' hQ
      try dsimp only
      have c1' : ff 1 = _ := hd.get (n := 1) (by decide)
      go_big_wp2_with fail
      refine (LegBidM d p ww (HIN1.out.kept hI) HF.out.1).mono ?_
      rintro e wa ⟨vv, rfl, hvv, da⟩
      obtain rfl : v = vv := IsBid.one HV.out hvv.out
      go_big_wp2_with fail
      refine hQ _ _ _ ?_ (bt hI da) da rfl
      first | rfl | (simp [upd, c1']; done)
    · intro ff kk ww hkk hI hd QQ' hQ
      try dsimp only
      have c0' : ff 0 = _ := hd.get (n := 0) (by decide)
      have c2' : ff 2 = _ := hd.get (n := 2) (by decide)
      go_big_wp2_with fail
      refine hQ _ _ _ ?_ hI (Below.refl _ _) rfl
      first | rfl | (simp [upd, c0', c2', zvv]; done)
    · intro ff kk ww hkk hI hd QQ' hQ
      try dsimp only
      have c3' : ff 3 = _ := hd.get (n := 3) (by decide)
      go_big_wp2_with fail
      refine hQ _ _ _ ?_ hI (Below.refl _ _) rfl
      first | rfl | (simp [upd, c3']; done)
    · intro ff kk ww hkk hI hd QQ' hQ
      try dsimp only
      have qb := Lib.hid (HX1.out.kept hI)
      have y0 := qb.out.c0
      have y1 := qb.out.c1
      have y2 := qb.out.c2
      have y3 := qb.out.c3
      have y4 := qb.out.c4
      have y5 := qb.out.c5
      have y6 := qb.out.c6
      have y7 := qb.out.c7
      have y8 := qb.out.c8
      have y9 := qb.out.c9
      have c4' : ff 4 = _ := hd.get (n := 4) (by decide)
      go_big_wp2_with fail
      refine hQ _ _ _ ?_ hI (Below.refl _ _) rfl
      first | rfl | (simp [upd, c4', LegV_eq, LegC]; done)
    · intro ff kk ww hkk hI hd QQ' hQ
      try dsimp only
      have c4' : ff 4 = _ := hd.get (n := 4) (by decide)
      have c5' : ff 5 = _ := hd.get (n := 5) (by decide)
      go_big_wp2_with fail
      refine (det (okI d p ww (HIN1.out.kept hI) HF.out.1 HF.out.2.1) o HO.out).mono ?_
      rintro e wa ⟨rfl, da⟩
      go_big_wp2_with fail
      refine hQ _ _ _ ?_ (bt hI da) da rfl
      first | rfl | (simp [upd, c4', c5']; done)
    · intro ff kk ww hkk hI hd QQ' hQ
      try dsimp only
      have qb := Lib.hid (HX1.out.kept hI)
      have y0 := qb.out.c0
      have y1 := qb.out.c1
      have y2 := qb.out.c2
      have y3 := qb.out.c3
      have y4 := qb.out.c4
      have y5 := qb.out.c5
      have y6 := qb.out.c6
      have y7 := qb.out.c7
      have y8 := qb.out.c8
      have y9 := qb.out.c9
      have c4' : ff 4 = _ := hd.get (n := 4) (by decide)
      go_big_wp2_with fail
      refine hQ _ _ _ ?_ hI (Below.refl _ _) rfl
      first | rfl | (simp [upd, c4', LegV_eq, LegC]; done)
    · intro ff kk ww hkk hI hd QQ' hQ
      try dsimp only
      have c4' : ff 4 = _ := hd.get (n := 4) (by decide)
      have c7' : ff 7 = _ := hd.get (n := 7) (by decide)
      go_big_wp2_with fail
      refine (det (okM d p ww (HIN1.out.kept hI) HF.out.1) o HO.out).mono ?_
      rintro e wa ⟨rfl, da⟩
      go_big_wp2_with fail
      refine hQ _ _ _ ?_ (bt hI da) da rfl
      first | rfl | (simp [upd, c4', c7']; done)
    · intro ff kk ww hkk hI hd QQ' hQ
      try dsimp only
      have c4' : ff 4 = _ := hd.get (n := 4) (by decide)
      have c6' : ff 6 = _ := hd.get (n := 6) (by decide)
      have c8' : ff 8 = _ := hd.get (n := 8) (by decide)
      go_big_wp2_with fail
      refine hQ _ _ _ ?_ hI (Below.refl _ _) rfl
      first | rfl | (simp [upd, c4', c6', c8', zoo]; done)
    · intro ff kk ww hkk hI hd QQ' hQ
      try dsimp only
      have c4' : ff 4 = _ := hd.get (n := 4) (by decide)
      have c9' : ff 9 = _ := hd.get (n := 9) (by decide)
      go_big_wp2_with fail
      refine hQ _ _ _ ?_ hI (Below.refl _ _) rfl
      first | rfl | (simp [upd, c4', c9']; done)
  case hend5 =>
  intro ff kk w3 d3 hS
  try dsimp only
  have c10' : ff 10 = _ := hS 10 (by decide)
  rw [c10']
  clear c10' hS
  have HX3 := Lib.hid (HX1.out.kept d3)
  have HIN3 := Lib.hid (HIN1.out.kept d3)
  have D3 := Lib.hid (bt D2.out d3)
  clear d3
  have x0 := HX3.out.c0
  have x1 := HX3.out.c1
  have x2 := HX3.out.c2
  have x3 := HX3.out.c3
  have x4 := HX3.out.c4
  have x5 := HX3.out.c5
  have x6 := HX3.out.c6
  have x7 := HX3.out.c7
  have x8 := HX3.out.c8
  have x9 := HX3.out.c9
  go_wp2_with fail
  refine (LegHoldI d p 50 0 1 1000000000 w3 HIN3.out HF.out.1 HF.out.2.1).mono ?_
  rintro e w4 ⟨g, pg, b2, rfl, hg, newg, d4⟩
  have HG := hg
  have HINg := Lib.hid newg.leg
  have HSg := Lib.hid newg.1.2.1
  have D4 := Lib.hid (bt D3.out d4)
  clear hg newg d4
  clear x0 x1 x2 x3 x4 x5 x6 x7 x8 x9
  have z1 : decide (0 ≤ v) = true := decide_eq_true (bid_nn HV.out)
  cases b2 with
  | false =>
    have hbXWY := legRowBelow w4 (LegC g pg)
    have hXWY : LegBx ((w4.alloc (.cells #[.string ⟨#[]⟩, .string ⟨#[]⟩, .string ⟨#[]⟩, .int .i64 0, .int .i64 0, .int .i64 0, .slice none 0 0, .slice none 0 0, .slice none 0 0, .slice none 0 0] 31)).setRow w4.heap.size (LegC g pg)) w4.heap.size 31 g pg := legRowBox w4 g pg
    have HINY := Lib.hid (HINg.out.kept hbXWY)
    have DY := Lib.hid (bt D4.out hbXWY)
    have HY0 := Lib.hid hXWY
    clear hXWY hbXWY
    unfold LegV
    have x0 := HY0.out.c0
    have x1 := HY0.out.c1
    have x2 := HY0.out.c2
    have x3 := HY0.out.c3
    have x4 := HY0.out.c4
    have x5 := HY0.out.c5
    have x6 := HY0.out.c6
    have x7 := HY0.out.c7
    have x8 := HY0.out.c8
    have x9 := HY0.out.c9
    go_wp2_with (first
      | (refine wpList_store_row rfl 31 _ _ rfl w4.heap.size (LegC g pg) rfl rfl 31 #[.string ⟨#[]⟩, .string ⟨#[]⟩, .string ⟨#[]⟩, .int .i64 0, .int .i64 0, .int .i64 0, .slice none 0 0, .slice none 0 0, .slice none 0 0, .slice none 0 0] (heap_alloc_new w4 _) legSize rfl (leg_one g pg) ?_)
      | fail)
    generalize (w4.alloc (.cells #[.string ⟨#[]⟩, .string ⟨#[]⟩, .string ⟨#[]⟩, .int .i64 0, .int .i64 0, .int .i64 0, .slice none 0 0, .slice none 0 0, .slice none 0 0, .slice none 0 0] 31)).setRow w4.heap.size (LegC g pg) = WY at *
    go_ret
    exact ⟨rfl, DY.out⟩
  | true =>
    have hbXWY := legRowBelow w4 (LegC g pg)
    have hXWY : LegBx ((w4.alloc (.cells #[.string ⟨#[]⟩, .string ⟨#[]⟩, .string ⟨#[]⟩, .int .i64 0, .int .i64 0, .int .i64 0, .slice none 0 0, .slice none 0 0, .slice none 0 0, .slice none 0 0] 31)).setRow w4.heap.size (LegC g pg)) w4.heap.size 31 g pg := legRowBox w4 g pg
    have HINY := Lib.hid (HINg.out.kept hbXWY)
    have DY := Lib.hid (bt D4.out hbXWY)
    have HY0 := Lib.hid hXWY
    clear hXWY hbXWY
    unfold LegV
    have x0 := HY0.out.c0
    have x1 := HY0.out.c1
    have x2 := HY0.out.c2
    have x3 := HY0.out.c3
    have x4 := HY0.out.c4
    have x5 := HY0.out.c5
    have x6 := HY0.out.c6
    have x7 := HY0.out.c7
    have x8 := HY0.out.c8
    have x9 := HY0.out.c9
    go_wp2_with (first
      | (refine wpList_store_row rfl 31 _ _ rfl w4.heap.size (LegC g pg) rfl rfl 31 #[.string ⟨#[]⟩, .string ⟨#[]⟩, .string ⟨#[]⟩, .int .i64 0, .int .i64 0, .int .i64 0, .slice none 0 0, .slice none 0 0, .slice none 0 0, .slice none 0 0] (heap_alloc_new w4 _) legSize rfl (leg_one g pg) ?_)
      | fail)
    generalize (w4.alloc (.cells #[.string ⟨#[]⟩, .string ⟨#[]⟩, .string ⟨#[]⟩, .int .i64 0, .int .i64 0, .int .i64 0, .slice none 0 0, .slice none 0 0, .slice none 0 0, .slice none 0 0] 31)).setRow w4.heap.size (LegC g pg) = WY at *
    refine (LegBidI g pg WY HINY.out (fits_ofHold HF.out.1 HG.out) HSg.out).mono ?_
    rintro e w5 ⟨u, rfl, hu, d5⟩
    have p2 := (bid_more HG.out HV.out hu.out).2 rfl
    have z2 : decide (v ≤ u) = true := decide_eq_true p2
    have D5 := Lib.hid (bt DY.out d5)
    clear d5 hu
    go_wp2
    go_ret
    exact ⟨rfl, D5.out⟩

end Go.Proofs.Ytmlkjlipjkmcfaa
