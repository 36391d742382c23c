/-
  The law FnLegKeep's own walk.
-/
import Derived.Test.YtmlkjlipjkmcfaaDrawKeep
import Derived.Test.YtmlkjlipjkmcfaaDropFit
import Derived.Test.YtmlkjlipjkmcfaaLegKeepS
namespace Go.Proofs.Ytmlkjlipjkmcfaa
open Go.RowKit
set_option linter.unusedVariables false
set_option linter.unusedSimpArgs false

def SKq (d : LegD) (p : LegP) (g : LegD) (pg : LegP) (y : Int) (o : Bool) (i : Nat) (W : World) (v : Value) : Prop := match i with
  | 0 => v = LegV g pg
  | 1 => v = LegV d p
  | 2 => v = .int .i64 y
  | 3 => Ls g W v
  | 4 => v = .bool true
  | 5 => v = .bool false
  | 6 => v = .bool false
  | 7 => v = LegV d p
  | 8 => v = .bool o
  | 9 => v = LegV d p
  | 10 => v = .bool o
  | 11 => v = .bool false
  | 12 => v = .bool false
  | _ => True
theorem SKq.kept {d : LegD} {p : LegP} {g : LegD} {pg : LegP} {y : Int} {o : Bool} {i : Nat} {W W' : World} {v : Value} (h : SKq d p g pg y o i W v) (hb : Below W.heap.size W W') : SKq d p g pg y o i W' v := by
  match i, h with
  | 0, h => exact h
  | 1, h => exact h
  | 2, h => exact h
  | 3, h => exact Ls.kept h hb
  | 4, h => exact h
  | 5, h => exact h
  | 6, h => exact h
  | 7, h => exact h
  | 8, h => exact h
  | 9, h => exact h
  | 10, h => exact h
  | 11, h => exact h
  | 12, h => exact h
  | i + 13, h => exact h
set_option maxRecDepth 100000 in
set_option maxHeartbeats 32000000 in
theorem lawLegKeep (a0 : Option Addr) (len cap : Nat) (z : List Int) (w : World) (w0 : IsRow .u8 w a0 len cap z) :
    Calls Try.prog 5 #[.slice a0 len cap] w fun e w' => e = .returned (.bool true) ∧ Below w.heap.size w w' := by
  by_cases hbig : 1048576 < len
  · go_enter Try.func5, Try.ntmps5
    go_wp2
    go_ret
    exact ⟨rfl, Below.refl _ _⟩
  go_enter Try.func5, Try.ntmps5
  go_wp2_with fail
  refine (drawKeep a0 len cap z _ w0).mono ?_
  rintro e w1 ⟨d, p, y, rfl, hfit, hin, -, hb1⟩
  clear w0
  have HF := hfit
  have HIN0 := Lib.hid hin
  have D0 := Lib.hid hb1
  clear hfit hin hb1
  have hbXWX := legRowBelow w1 (LegC d p)
  have hXWX : LegBx ((w1.alloc (.cells #[.string ⟨#[]⟩, .string ⟨#[]⟩, .string ⟨#[]⟩, .int .i64 0, .int .i64 0, .int .i64 0, .slice none 0 0, .slice none 0 0, .slice none 0 0, .slice none 0 0] 31)).setRow w1.heap.size (LegC d p)) w1.heap.size 31 d p := legRowBox w1 d p
  have HINX := Lib.hid (HIN0.out.kept hbXWX)
  have DX := Lib.hid (bt D0.out hbXWX)
  have HL0 := Lib.hid hXWX
  clear hXWX hbXWX
  unfold LegV
  have x0 := HL0.out.c0
  have x1 := HL0.out.c1
  have x2 := HL0.out.c2
  have x3 := HL0.out.c3
  have x4 := HL0.out.c4
  have x5 := HL0.out.c5
  have x6 := HL0.out.c6
  have x7 := HL0.out.c7
  have x8 := HL0.out.c8
  have x9 := HL0.out.c9
  go_wp2_with (first
    | (refine wpList_store_row rfl 31 _ _ rfl w1.heap.size (LegC d p) rfl rfl 31 #[.string ⟨#[]⟩, .string ⟨#[]⟩, .string ⟨#[]⟩, .int .i64 0, .int .i64 0, .int .i64 0, .slice none 0 0, .slice none 0 0, .slice none 0 0, .slice none 0 0] (heap_alloc_new w1 _) legSize rfl (leg_one d p) ?_)
    | fail)
  generalize (w1.alloc (.cells #[.string ⟨#[]⟩, .string ⟨#[]⟩, .string ⟨#[]⟩, .int .i64 0, .int .i64 0, .int .i64 0, .slice none 0 0, .slice none 0 0, .slice none 0 0, .slice none 0 0] 31)).setRow w1.heap.size (LegC d p) = WX at *
  refine (LegKeepI d p y WX HINX.out HF.out.1 HF.out.2.1).mono ?_
  rintro e w2 ⟨g, pg, rfl, hg, hnew, d2⟩
  have HG := hg
  have HL2 := Lib.hid (HL0.out.kept d2)
  have HIN2 := Lib.hid (HINX.out.kept d2)
  have HING := Lib.hid hnew.leg
  have HCG := Lib.hid hnew.1.2.1
  have D2 := Lib.hid (bt DX.out d2)
  have HFg := Lib.hid (post_fits (fun h => okLeg_keep h y) hg.out)
  generalize w1.heap.size = bl at *
  obtain ⟨o, ho⟩ : ∃ o : Bool, o = true ↔ OkLeg d := by
    by_cases q : OkLeg d
    · exact ⟨true, fun _ => q, fun _ => rfl⟩
    · exact ⟨false, fun h => (by cases h), fun h => absurd h q⟩
  have HO := Lib.hid ho
  have zoo : (o != o) = false := by simp
  clear hg d2 ho hnew
  clear x0 x1 x2 x3 x4 x5 x6 x7 x8 x9
  have hbXw3 := legRowBelow w2 (LegC g pg)
  have hXw3 : LegBx ((w2.alloc (.cells #[.string ⟨#[]⟩, .string ⟨#[]⟩, .string ⟨#[]⟩, .int .i64 0, .int .i64 0, .int .i64 0, .slice none 0 0, .slice none 0 0, .slice none 0 0, .slice none 0 0] 31)).setRow w2.heap.size (LegC g pg)) w2.heap.size 31 g pg := legRowBox w2 g pg
  have HL1 := Lib.hid (HL2.out.kept hbXw3)
  have HIN1 := Lib.hid (HIN2.out.kept hbXw3)
  have HING1 := Lib.hid (HING.out.kept hbXw3)
  have D3 := Lib.hid (bt D2.out hbXw3)
  have HX1 := Lib.hid hXw3
  clear hXw3 hbXw3
  unfold LegV
  have x0 := HX1.out.c0
  have x1 := HX1.out.c1
  have x2 := HX1.out.c2
  have x3 := HX1.out.c3
  have x4 := HX1.out.c4
  have x5 := HX1.out.c5
  have x6 := HX1.out.c6
  have x7 := HX1.out.c7
  have x8 := HX1.out.c8
  have x9 := HX1.out.c9
  go_wp2_with (first
    | (refine wpList_store_row rfl 31 _ _ rfl w2.heap.size (LegC g pg) rfl rfl 31 #[.string ⟨#[]⟩, .string ⟨#[]⟩, .string ⟨#[]⟩, .int .i64 0, .int .i64 0, .int .i64 0, .slice none 0 0, .slice none 0 0, .slice none 0 0, .slice none 0 0] (heap_alloc_new w2 _) legSize rfl (leg_one g pg) ?_)
    | fail)
  generalize (w2.alloc (.cells #[.string ⟨#[]⟩, .string ⟨#[]⟩, .string ⟨#[]⟩, .int .i64 0, .int .i64 0, .int .i64 0, .slice none 0 0, .slice none 0 0, .slice none 0 0, .slice none 0 0] 31)).setRow w2.heap.size (LegC g pg) = w3 at *
  clear x0 x1 x2 x3 x4 x5 x6 x7 x8 x9
  generalize w2.heap.size = bx at *
  go_upto_region 5 with fail
  refine wp_region_free' (by kernel_rfl) (fun _ W => Below w3.heap.size w3 W) (fun W W' => Below W.heap.size W W') (SKq d p g pg y o) (by kernel_rfl) (fun i k v W W' h _ hb => h.kept hb) ((Below.refl _ _).drew) ?_
  apply Exists.intro
  apply And.intro
  · intro f
    simp only [over, List.set]
    exact rfl
  refine ⟨?hops5, ?hend5⟩
  case hops5 =>
    refine EachOp.cons ?_ (EachOp.cons ?_ (EachOp.cons ?_ (EachOp.cons ?_ (EachOp.cons ?_ (EachOp.cons ?_ (EachOp.cons ?_ (EachOp.cons ?_ (EachOp.cons ?_ (EachOp.cons ?_ (EachOp.cons ?_ (EachOp.cons ?_ (EachOp.cons ?_ (EachOp.nil)))))))))))))
    · intro ff kk ww hkk hI hd QQ' hQ
      try dsimp only
      have qb := Lib.hid (HX1.out.kept hI)
      have y0 := qb.out.c0
      have y1 := qb.out.c1
      have y2 := qb.out.c2
      have y3 := qb.out.c3
      have y4 := qb.out.c4
      have y5 := qb.out.c5
      have y6 := qb.out.c6
      have y7 := qb.out.c7
      have y8 := qb.out.c8
      have y9 := qb.out.c9
      go_big_wp2_with fail
      refine hQ _ _ _ ?_ hI (Below.refl _ _) rfl
      first | rfl | (simp [upd, LegV_eq, LegC]; done)
    · intro ff kk ww hkk hI hd QQ' hQ
      try dsimp only
      have qb := Lib.hid (HL1.out.kept hI)
      have y0 := qb.out.c0
      have y1 := qb.out.c1
      have y2 := qb.out.c2
      have y3 := qb.out.c3
      have y4 := qb.out.c4
      have y5 := qb.out.c5
      have y6 := qb.out.c6
      have y7 := qb.out.c7
      have y8 := qb.out.c8
      have y9 := qb.out.c9
      go_big_wp2_with fail
      refine hQ _ _ _ ?_ hI (Below.refl _ _) rfl
      first | rfl | (simp [upd, LegV_eq, LegC]; done)
    · intro ff kk ww hkk hI hd QQ' hQ
      try dsimp only
      go_big_wp2_with fail
      refine hQ _ _ _ ?_ hI (Below.refl _ _) rfl
      first | rfl | (simp [upd]; done)
    · intro ff kk ww hkk hI hd QQ' hQ
      try dsimp only
      have c1' : ff 1 = _ := hd.get (n := 1) (by decide)
      have c2' : ff 2 = _ := hd.get (n := 2) (by decide)
      go_big_wp2_with fail
      refine (LegKeepM d p y ww (HIN1.out.kept hI) HF.out.1 HF.out.2.2).mono ?_
      rintro e wa ⟨g2, q2, rfl, hg2, hn2, da⟩
      obtain rfl : g = g2 := post_one HG.out hg2.out
      have hls : Ls g wa (LegV g q2) := ⟨q2, rfl, hn2.leg⟩
      go_big_wp2_with fail
      refine hQ _ _ wa ?_ (bt hI da) da hls
      first | rfl | (simp [upd, c1', c2']; done)
    · intro ff kk ww hkk hI hd QQ' hQ
      try dsimp only
      have c0' : ff 0 = _ := hd.get (n := 0) (by decide)
      obtain ⟨q, cq, hq⟩ : Ls g ww (ff 3) := hd.get (n := 3) (by decide)
      have cq' : ff 3 = _ := cq
      go_big_wp2_with fail
      refine (wsLegS g pg q ww (HING1.out.kept hI) hq HFg.out).mono ?_
      rintro e wa ⟨rfl, da⟩
      go_big_wp2_with fail
      refine hQ _ _ _ ?_ (bt hI da) da rfl
      first | rfl | (simp [upd, c0', cq']; done)
    · intro ff kk ww hkk hI hd QQ' hQ
      try dsimp only
      have c4' : ff 4 = _ := hd.get (n := 4) (by decide)
      go_big_wp2_with fail
      refine hQ _ _ _ ?_ hI (Below.refl _ _) rfl
      first | rfl | (simp [upd, c4']; done)
    · intro ff kk ww hkk hI hd QQ' hQ
      try dsimp only
      have c5' : ff 5 = _ := hd.get (n := 5) (by decide)
      go_big_wp2_with fail
      refine hQ _ _ _ ?_ hI (Below.refl _ _) rfl
      first | rfl | (simp [upd, c5']; done)
    · intro ff kk ww hkk hI hd QQ' hQ
      try dsimp only
      have qb := Lib.hid (HL1.out.kept hI)
      have y0 := qb.out.c0
      have y1 := qb.out.c1
      have y2 := qb.out.c2
      have y3 := qb.out.c3
      have y4 := qb.out.c4
      have y5 := qb.out.c5
      have y6 := qb.out.c6
      have y7 := qb.out.c7
      have y8 := qb.out.c8
      have y9 := qb.out.c9
      have c6' : ff 6 = _ := hd.get (n := 6) (by decide)
      go_big_wp2_with fail
      refine hQ _ _ _ ?_ hI (Below.refl _ _) rfl
      first | rfl | (simp [upd, c6', LegV_eq, LegC]; done)
    · intro ff kk ww hkk hI hd QQ' hQ
      try dsimp only
      have c6' : ff 6 = _ := hd.get (n := 6) (by decide)
      have c7' : ff 7 = _ := hd.get (n := 7) (by decide)
      go_big_wp2_with fail
      refine (det (okI d p ww (HIN1.out.kept hI) HF.out.1 HF.out.2.1) o HO.out).mono ?_
      rintro e wa ⟨rfl, da⟩
      go_big_wp2_with fail
      refine hQ _ _ _ ?_ (bt hI da) da rfl
      first | rfl | (simp [upd, c6', c7']; done)
    · intro ff kk ww hkk hI hd QQ' hQ
      try dsimp only
      have qb := Lib.hid (HL1.out.kept hI)
      have y0 := qb.out.c0
      have y1 := qb.out.c1
      have y2 := qb.out.c2
      have y3 := qb.out.c3
      have y4 := qb.out.c4
      have y5 := qb.out.c5
      have y6 := qb.out.c6
      have y7 := qb.out.c7
      have y8 := qb.out.c8
      have y9 := qb.out.c9
      have c6' : ff 6 = _ := hd.get (n := 6) (by decide)
      go_big_wp2_with fail
      refine hQ _ _ _ ?_ hI (Below.refl _ _) rfl
      first | rfl | (simp [upd, c6', LegV_eq, LegC]; done)
    · intro ff kk ww hkk hI hd QQ' hQ
      try dsimp only
      have c6' : ff 6 = _ := hd.get (n := 6) (by decide)
      have c9' : ff 9 = _ := hd.get (n := 9) (by decide)
      go_big_wp2_with fail
      refine (det (okM d p ww (HIN1.out.kept hI) HF.out.1) o HO.out).mono ?_
      rintro e wa ⟨rfl, da⟩
      go_big_wp2_with fail
      refine hQ _ _ _ ?_ (bt hI da) da rfl
      first | rfl | (simp [upd, c6', c9']; done)
    · intro ff kk ww hkk hI hd QQ' hQ
      try dsimp only
      have c6' : ff 6 = _ := hd.get (n := 6) (by decide)
      have c8' : ff 8 = _ := hd.get (n := 8) (by decide)
      have c10' : ff 10 = _ := hd.get (n := 10) (by decide)
      go_big_wp2_with fail
      refine hQ _ _ _ ?_ hI (Below.refl _ _) rfl
      first | rfl | (simp [upd, c6', c8', c10', zoo]; done)
    · intro ff kk ww hkk hI hd QQ' hQ
      try dsimp only
      have c6' : ff 6 = _ := hd.get (n := 6) (by decide)
      have c11' : ff 11 = _ := hd.get (n := 11) (by decide)
      go_big_wp2_with fail
      refine hQ _ _ _ ?_ hI (Below.refl _ _) rfl
      first | rfl | (simp [upd, c6', c11']; done)
  case hend5 =>
  intro ff kk w4 d4 hS
  try dsimp only
  have c12' : ff 12 = _ := hS 12 (by decide)
  rw [c12']
  clear c12' hS
  have HL4 := Lib.hid (HL1.out.kept d4)
  have HX4 := Lib.hid (HX1.out.kept d4)
  have HIN4 := Lib.hid (HIN1.out.kept d4)
  have HING4 := Lib.hid (HING1.out.kept d4)
  have D4 := Lib.hid (bt D3.out d4)
  clear d4
  have x0 := HL4.out.c0
  have x1 := HL4.out.c1
  have x2 := HL4.out.c2
  have x3 := HL4.out.c3
  have x4 := HL4.out.c4
  have x5 := HL4.out.c5
  have x6 := HL4.out.c6
  have x7 := HL4.out.c7
  have x8 := HL4.out.c8
  have x9 := HL4.out.c9
  go_wp2_with fail
  refine (det (okM d p w4 HIN4.out HF.out.1) o HO.out).mono ?_
  rintro e w5 ⟨rfl, d5⟩
  have D5 := Lib.hid (bt D4.out d5)
  have HL5 := Lib.hid (HL4.out.kept d5)
  have HX5 := Lib.hid (HX4.out.kept d5)
  have HIN5 := Lib.hid (HIN4.out.kept d5)
  have HING5 := Lib.hid (HING4.out.kept d5)
  clear d5
  clear x0 x1 x2 x3 x4 x5 x6 x7 x8 x9
  clear HL0 HL2 HL1 HL4 HX1 HX4 HIN0 HIN2 HIN1 HIN4 HING HING1 HING4
  cases o with
  | false =>
    have hz : g = zeroD := HG.out.2 (fun h => by have := HO.out.2 h; cases this)
    have hcap : g.cap = 0 := by rw [hz]; rfl
    have x5 := HX5.out.c5
    rw [hcap] at x5
    clear hz hcap
    go_wp2
    go_ret
    exact ⟨rfl, D5.out⟩
  | true =>
  have HOK : Hid (OkLeg d) := HO.out.1 rfl
  have HGE : Hid (g = keepD d y) := HG.out.1 HOK.out
  have HOG : Hid (OkLeg g) := by
    have h := okLeg_keep HOK.out y
    rw [← HGE.out] at h
    exact h
  have HGO : Hid (∀ i, i < g.nH → g.t i ≠ y) := by
    have h := keep_gone HOK.out.2.2.1 y
    rw [← HGE.out] at h
    exact h
  have HSUM : Hid (sumF (fun i => g.S i - d.S i) 3 = lastH d.t d.s y d.nH) := by
    have h := keep_sum HOK.out y
    rw [← HGE.out] at h
    exact h
  have HBX : Hid (∀ n, n ≤ 3 → -9 * n ≤ sumF (fun i => g.S i - d.S i) n ∧ sumF (fun i => g.S i - d.S i) n ≤ 9 * n) := sumF_box (fun i hi => by
    have h1 := sold_box HOK.out i hi
    have h2 := sold_box HOG.out i hi
    omega)
  have HSB : Hid (∀ i, i < 3 → (0 ≤ d.S i ∧ d.S i ≤ 9) ∧ (0 ≤ g.S i ∧ g.S i ≤ 9)) := fun i hi => ⟨sold_box HOK.out i hi, sold_box HOG.out i hi⟩
  have HNS : Hid (g.nS = 3 ∧ d.nS = 3) := ⟨HOG.out.2.1.2.2.1, HOK.out.2.1.2.2.1⟩
  have HNH : Hid (d.nH ≤ 6 ∧ g.nH ≤ 6) := ⟨HOK.out.2.2.1.1, HOG.out.2.2.1.1⟩
  clear HO zoo
  obtain ⟨bS, oS, eS, -, hcS⟩ := Nums.cells HING5.out.2.1 (by rw [HNS.out.1]; omega)
  obtain ⟨bT, oT, eT, -, hcT⟩ := Nums.cells HIN5.out.2.1 (by rw [HNS.out.2]; omega)
  have HCS := Lib.hid hcS
  have HCT := Lib.hid hcT
  have x7 := HX5.out.c7
  have y7 := HL5.out.c7
  rw [eS, HNS.out.1] at x7
  rw [eT, HNS.out.2] at y7
  clear hcS hcT eS eT
  go_wp2_with fail
  go_loopw [6, 7] (fun v i wr => ∃ m : Nat, m ≤ 3 ∧ v = .int .i64 (sumF (fun i => g.S i - d.S i) m) ∧ i = .int .i64 m ∧ ∃ q, wr = w5.drewN q) (fun _ i _ => 3 - (intOf i).toNat)
  case atStart => exact ⟨0, by omega, rfl, rfl, 0, rfl⟩
  case round =>
    obtain ⟨m, hm, rfl, rfl, q, rfl⟩ := hrel
    rcases Nat.lt_or_ge m 3 with hlt | hge
    · have c1 := HCS.out m (by rw [HNS.out.1]; omega)
      have c2 := HCT.out m (by rw [HNS.out.2]; omega)
      have hb1 := HBX.out m (by omega)
      have hb2 := HSB.out m hlt
      have hnx : Hid (sumF (fun i => g.S i - d.S i) m + (g.S m - d.S m) = sumF (fun i => g.S i - d.S i) (m + 1)) := rfl
      have k1 : (m : Int) < 3 := by omega
      have k0 : (0 : Int) ≤ m := by omega
      generalize g.S m = u1 at *
      generalize d.S m = u2 at *
      generalize sumF (fun i => g.S i - d.S i) m = A at *
      have e1 : IntKind.i64.wrap (A + u1) = A + u1 := IntWalk.i64_in _ (by omega)
      have e2 : IntKind.i64.wrap (A + u1 - u2) = A + u1 - u2 := IntWalk.i64_in _ (by omega)
      go_wp2_with fail
      go_quiet (fail)
      go_wp2
      go_roundw
      case rel => exact ⟨m + 1, by omega, by rw [← hnx.out]; first | rfl | (congr 1; omega), by go_num, _, rfl⟩
      case measure => simp [intOf]; omega
    · obtain rfl : m = 3 := by omega
      rw [HSUM.out]
      clear x7 y7 hm hge
      have x9 := HX5.out.c9
      have y9 := HL5.out.c9
      generalize hA : lastH d.t d.s y d.nH = A at *
      have HA := Lib.hid hA
      clear hA
      go_wp2_with fail
      go_loopw [8, 9] (fun v i wr => ∃ n : Nat, n ≤ d.nH ∧ v = .int .i64 (lastH d.t d.s y n) ∧ i = .int .i64 n ∧ wr = w5.drewN q) (fun _ i _ => d.nH - (intOf i).toNat)
      case atStart => exact ⟨0, Nat.zero_le _, rfl, rfl, rfl⟩
      case round =>
        obtain ⟨n, hn, rfl, rfl, rfl⟩ := hrel
        have hb6 := HNH.out.1
        rcases Nat.lt_or_ge n d.nH with hlt | hge
        · obtain ⟨bH, oH, eH, -, hcH⟩ := Holds.cells HIN5.out.2.2.2 (by omega)
          obtain ⟨c1, c2, c3⟩ := hcH n hlt
          have n1 : (n : Int) < d.nH := by omega
          have n0 : (0 : Int) ≤ n := by omega
          rw [eH] at y9
          clear hcH eH
          have hnx : Hid (lastH d.t d.s y (n + 1) = if d.t n = y then d.s n else lastH d.t d.s y n) := rfl
          generalize d.t n = u1 at *
          generalize d.c n = u2 at *
          generalize d.s n = u3 at *
          generalize lastH d.t d.s y n = u4 at *
          by_cases hx : u1 = y
          · subst hx
            go_wp2
            go_roundw
            case rel => exact ⟨n + 1, by omega, by rw [hnx.out, if_pos rfl], by go_num, (by first | rfl | trivial)⟩
            case measure => simp [intOf]; omega
          · have zx : (u1 == y) = false := by simpa using hx
            have zx2 : decide (u1 = y) = false := decide_eq_false hx
            go_wp2
            go_roundw
            case rel => exact ⟨n + 1, by omega, by rw [hnx.out, if_neg hx], by go_num, (by first | rfl | trivial)⟩
            case measure => simp [intOf]; omega
        · obtain rfl : n = d.nH := by omega
          rw [HA.out]
          go_wp2_with fail
          go_loopw [10] (fun i wr => ∃ n : Nat, n ≤ g.nH ∧ i = .int .i64 n ∧ wr = w5.drewN q) (fun i _ => g.nH - (intOf i).toNat)
          case atStart => exact ⟨0, Nat.zero_le _, rfl, rfl⟩
          case round =>
            obtain ⟨n, hn2, rfl, rfl⟩ := hrel
            have hb7 := HNH.out.2
            rcases Nat.lt_or_ge n g.nH with hlt2 | hge2
            · obtain ⟨bH, oH, eH, -, hcH⟩ := Holds.cells HING5.out.2.2.2 (by omega)
              obtain ⟨c1, c2, c3⟩ := hcH n hlt2
              have n1 : (n : Int) < g.nH := by omega
              have n0 : (0 : Int) ≤ n := by omega
              have hx := HGO.out n hlt2
              rw [eH] at x9
              clear hcH eH
              generalize g.t n = u1 at *
              have zx : (u1 == y) = false := by simpa using hx
              have zx2 : decide (u1 = y) = false := decide_eq_false hx
              go_wp2
              go_roundw
              case rel => exact ⟨n + 1, by omega, by go_num, (by first | rfl | trivial)⟩
              case measure => simp [intOf]; omega
            · obtain rfl : n = g.nH := by omega
              have x0 := HX5.out.c0
              have x1 := HX5.out.c1
              have x2 := HX5.out.c2
              have x3 := HX5.out.c3
              have x4 := HX5.out.c4
              have x5 := HX5.out.c5
              have x6 := HX5.out.c6
              have x7 := HX5.out.c7
              have x8 := HX5.out.c8
              have x9 := HX5.out.c9
              go_wp2_with fail
              refine (det (okI g pg (w5.drewN q) (HING5.out.kept (belowN (Below.refl _ _) _)) HFg.out HCG.out) true ⟨fun _ => HOG.out, fun _ => rfl⟩).mono ?_
              rintro e w6 ⟨rfl, d6⟩
              have D6 := Lib.hid (bt (belowN D5.out q) d6)
              clear d6
              go_wp2
              go_ret
              exact ⟨rfl, D6.out⟩

end Go.Proofs.Ytmlkjlipjkmcfaa
