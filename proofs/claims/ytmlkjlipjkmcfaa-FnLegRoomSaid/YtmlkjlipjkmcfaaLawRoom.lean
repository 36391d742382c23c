/-
  The law FnLegRoom's own walk.
-/
import Derived.Test.YtmlkjlipjkmcfaaDrawRoom
import Derived.Test.YtmlkjlipjkmcfaaHoldFit
namespace Go.Proofs.Ytmlkjlipjkmcfaa
open Go.RowKit
set_option linter.unusedVariables false
set_option linter.unusedSimpArgs false

theorem wsInS (x a b : Int) (w : World) : Calls Try.prog 33 #[.int .i64 x, .int .i64 a, .int .i64 b] w fun e w' => e = .returned (.bool (decide (a ≤ x ∧ x ≤ b))) ∧ Below w.heap.size w w' := by
  by_cases h : a ≤ x
  · have z0 : decide (a ≤ x) = true := decide_eq_true h
    by_cases k : x ≤ b
    · have z1 : decide (x ≤ b) = true := decide_eq_true k
      have z2 : decide (a ≤ x ∧ x ≤ b) = true := decide_eq_true ⟨h, k⟩
      go_enter Try.func33, Try.ntmps33
      go_wp2
      go_ret
      exact ⟨by first | rfl | (rw [z2]; rfl), by first | exact Below.refl _ _ | exact belowN (Below.refl _ _) _⟩
    · have z1 : decide (x ≤ b) = false := decide_eq_false k
      have z2 : decide (a ≤ x ∧ x ≤ b) = false := decide_eq_false (fun q => k q.2)
      go_enter Try.func33, Try.ntmps33
      go_wp2
      go_ret
      exact ⟨by first | rfl | (rw [z2]; rfl), by first | exact Below.refl _ _ | exact belowN (Below.refl _ _) _⟩
  · have z0 : decide (a ≤ x) = false := decide_eq_false h
    have z2 : decide (a ≤ x ∧ x ≤ b) = false := decide_eq_false (fun q => h q.1)
    go_enter Try.func33, Try.ntmps33
    go_wp2
    go_ret
    exact ⟨by first | rfl | (rw [z2]; rfl), by first | exact Below.refl _ _ | exact belowN (Below.refl _ _) _⟩
def SRm (d : LegD) (p : LegP) (kc r : Int) (o : Bool) (i : Nat) (W : World) (v : Value) : Prop := match i with
  | 0 => v = .int .i64 r
  | 1 => v = LegV d p
  | 2 => v = .int .i64 kc
  | 3 => v = .int .i64 r
  | 4 => v = .bool false
  | 5 => v = .bool false
  | 6 => v = LegV d p
  | 7 => v = .bool o
  | 8 => v = LegV d p
  | 9 => v = .bool o
  | 10 => v = .bool false
  | 11 => v = .bool false
  | _ => True
theorem SRm.kept {d : LegD} {p : LegP} {kc r : Int} {o : Bool} {i : Nat} {W W' : World} {v : Value} (h : SRm d p kc r o i W v) (hb : Below W.heap.size W W') : SRm d p kc r o i W' v := by
  match i, h with
  | 0, h => exact h
  | 1, h => exact h
  | 2, h => exact h
  | 3, h => exact h
  | 4, h => exact h
  | 5, h => exact h
  | 6, h => exact h
  | 7, h => exact h
  | 8, h => exact h
  | 9, h => exact h
  | 10, h => exact h
  | 11, h => exact h
  | i + 12, h => exact h
set_option maxRecDepth 100000 in
set_option maxHeartbeats 16000000 in
theorem lawLegRoom (a0 : Option Addr) (len cap : Nat) (z : List Int) (w : World) (w0 : IsRow .u8 w a0 len cap z) :
    Calls Try.prog 7 #[.slice a0 len cap] w fun e w' => e = .returned (.bool true) ∧ Below w.heap.size w w' := by
  by_cases hbig : 1048576 < len
  · go_enter Try.func7, Try.ntmps7
    go_wp2
    go_ret
    exact ⟨rfl, Below.refl _ _⟩
  go_enter Try.func7, Try.ntmps7
  go_wp2_with fail
  refine (drawRoom a0 len cap z _ w0).mono ?_
  rintro e w1 ⟨d, p, kc, rfl, hfit, hin, -, hb1⟩
  clear w0
  have HF := hfit
  have HIN0 := Lib.hid hin
  have D0 := Lib.hid hb1
  clear hfit hin hb1
  have hbXWX := legRowBelow w1 (LegC d p)
  have hXWX : LegBx ((w1.alloc (.cells #[.string ⟨#[]⟩, .string ⟨#[]⟩, .string ⟨#[]⟩, .int .i64 0, .int .i64 0, .int .i64 0, .slice none 0 0, .slice none 0 0, .slice none 0 0, .slice none 0 0] 31)).setRow w1.heap.size (LegC d p)) w1.heap.size 31 d p := legRowBox w1 d p
  have HINX := Lib.hid (HIN0.out.kept hbXWX)
  have DX := Lib.hid (bt D0.out hbXWX)
  have HX0 := Lib.hid hXWX
  clear hXWX hbXWX
  unfold LegV
  have x0 := HX0.out.c0
  have x1 := HX0.out.c1
  have x2 := HX0.out.c2
  have x3 := HX0.out.c3
  have x4 := HX0.out.c4
  have x5 := HX0.out.c5
  have x6 := HX0.out.c6
  have x7 := HX0.out.c7
  have x8 := HX0.out.c8
  have x9 := HX0.out.c9
  go_wp2_with (first
    | (refine wpList_store_row rfl 31 _ _ rfl w1.heap.size (LegC d p) rfl rfl 31 #[.string ⟨#[]⟩, .string ⟨#[]⟩, .string ⟨#[]⟩, .int .i64 0, .int .i64 0, .int .i64 0, .slice none 0 0, .slice none 0 0, .slice none 0 0, .slice none 0 0] (heap_alloc_new w1 _) legSize rfl (leg_one d p) ?_)
    | fail)
  generalize (w1.alloc (.cells #[.string ⟨#[]⟩, .string ⟨#[]⟩, .string ⟨#[]⟩, .int .i64 0, .int .i64 0, .int .i64 0, .slice none 0 0, .slice none 0 0, .slice none 0 0, .slice none 0 0] 31)).setRow w1.heap.size (LegC d p) = WX at *
  refine (LegRoomI d p kc WX HINX.out HF.out.1 HF.out.2.1).mono ?_
  rintro e w2 ⟨v, rfl, hv, d2⟩
  have HV := hv
  have HX1 := Lib.hid (HX0.out.kept d2)
  have HIN1 := Lib.hid (HINX.out.kept d2)
  have D2 := Lib.hid (bt DX.out d2)
  obtain ⟨o, ho⟩ : ∃ o : Bool, o = true ↔ OkLeg d := by
    by_cases q : OkLeg d
    · exact ⟨true, fun _ => q, fun _ => rfl⟩
    · exact ⟨false, fun h => (by cases h), fun h => absurd h q⟩
  have HO := Lib.hid ho
  have zvv : (v != v) = false := by simp
  have zoo : (o != o) = false := by simp
  clear hv d2 ho
  clear x0 x1 x2 x3 x4 x5 x6 x7 x8 x9
  go_upto_region 5 with fail
  refine wp_region_free' (by kernel_rfl) (fun _ W => Below w2.heap.size w2 W) (fun W W' => Below W.heap.size W W') (SRm d p kc v o) (by kernel_rfl) (fun i k v W W' h _ hb => h.kept hb) ((Below.refl _ _).drew) ?_
  apply Exists.intro
  apply And.intro
  · intro f
    simp only [over, List.set]
    exact rfl
  refine ⟨?hops5, ?hend5⟩
  case hops5 =>
    refine EachOp.cons ?_ (EachOp.cons ?_ (EachOp.cons ?_ (EachOp.cons ?_ (EachOp.cons ?_ (EachOp.cons ?_ (EachOp.cons ?_ (EachOp.cons ?_ (EachOp.cons ?_ (EachOp.cons ?_ (EachOp.cons ?_ (EachOp.cons ?_ (EachOp.nil))))))))))))
    · intro ff kk ww hkk hI hd QQ' hQ
      try dsimp only
      go_big_wp2_with fail
      refine hQ _ _ _ ?_ hI (Below.refl _ _) rfl
      first | rfl | (simp [upd]; done)
    · intro ff kk ww hkk hI hd QQ' hQ
      try dsimp only
      have qb := Lib.hid (HX1.out.kept hI)
      have y0 := qb.out.c0
      have y1 := qb.out.c1
      have y2 := qb.out.c2
      have y3 := qb.out.c3
      have y4 := qb.out.c4
      have y5 := qb.out.c5
      have y6 := qb.out.c6
      have y7 := qb.out.c7
      have y8 := qb.out.c8
      have y9 := qb.out.c9
      go_big_wp2_with fail
      refine hQ _ _ _ ?_ hI (Below.refl _ _) rfl
      first | rfl | (simp [upd, LegV_eq, LegC]; done)
    · intro ff kk ww hkk hI hd QQ' hQ
      try dsimp only
      go_big_wp2_with fail
      refine hQ _ _ _ ?_ hI (Below.refl _ _) rfl
      first | rfl | (simp [upd]; done)
    · intro ff kk ww hkk hI hd QQ' hQ
      try dsimp only
      have c1' : ff 1 = _ := hd.get (n := 1) (by decide)
      have c2' : ff 2 = _ := hd.get (n := 2) (by decide)
      go_big_wp2_with fail
      refine (LegRoomM d p kc ww (HIN1.out.kept hI) HF.out.1).mono ?_
      rintro e wa ⟨vv, rfl, hvv, da⟩
      obtain rfl : v = vv := IsRoom.one HV.out hvv.out
      go_big_wp2_with fail
      refine hQ _ _ _ ?_ (bt hI da) da rfl
      first | rfl | (simp [upd, c1', c2']; done)
    · intro ff kk ww hkk hI hd QQ' hQ
      try dsimp only
      have c0' : ff 0 = _ := hd.get (n := 0) (by decide)
      have c3' : ff 3 = _ := hd.get (n := 3) (by decide)
      go_big_wp2_with fail
      refine hQ _ _ _ ?_ hI (Below.refl _ _) rfl
      first | rfl | (simp [upd, c0', c3', zvv]; done)
    · intro ff kk ww hkk hI hd QQ' hQ
      try dsimp only
      have c4' : ff 4 = _ := hd.get (n := 4) (by decide)
      go_big_wp2_with fail
      refine hQ _ _ _ ?_ hI (Below.refl _ _) rfl
      first | rfl | (simp [upd, c4']; done)
    · intro ff kk ww hkk hI hd QQ' hQ
      try dsimp only
      have qb := Lib.hid (HX1.out.kept hI)
      have y0 := qb.out.c0
      have y1 := qb.out.c1
      have y2 := qb.out.c2
      have y3 := qb.out.c3
      have y4 := qb.out.c4
      have y5 := qb.out.c5
      have y6 := qb.out.c6
      have y7 := qb.out.c7
      have y8 := qb.out.c8
      have y9 := qb.out.c9
      have c5' : ff 5 = _ := hd.get (n := 5) (by decide)
      go_big_wp2_with fail
      refine hQ _ _ _ ?_ hI (Below.refl _ _) rfl
      first | rfl | (simp [upd, c5', LegV_eq, LegC]; done)
    · intro ff kk ww hkk hI hd QQ' hQ
      try dsimp only
      have c5' : ff 5 = _ := hd.get (n := 5) (by decide)
      have c6' : ff 6 = _ := hd.get (n := 6) (by decide)
      go_big_wp2_with fail
      refine (det (okI d p ww (HIN1.out.kept hI) HF.out.1 HF.out.2.1) o HO.out).mono ?_
      rintro e wa ⟨rfl, da⟩
      go_big_wp2_with fail
      refine hQ _ _ _ ?_ (bt hI da) da rfl
      first | rfl | (simp [upd, c5', c6']; done)
    · intro ff kk ww hkk hI hd QQ' hQ
      try dsimp only
      have qb := Lib.hid (HX1.out.kept hI)
      have y0 := qb.out.c0
      have y1 := qb.out.c1
      have y2 := qb.out.c2
      have y3 := qb.out.c3
      have y4 := qb.out.c4
      have y5 := qb.out.c5
      have y6 := qb.out.c6
      have y7 := qb.out.c7
      have y8 := qb.out.c8
      have y9 := qb.out.c9
      have c5' : ff 5 = _ := hd.get (n := 5) (by decide)
      go_big_wp2_with fail
      refine hQ _ _ _ ?_ hI (Below.refl _ _) rfl
      first | rfl | (simp [upd, c5', LegV_eq, LegC]; done)
    · intro ff kk ww hkk hI hd QQ' hQ
      try dsimp only
      have c5' : ff 5 = _ := hd.get (n := 5) (by decide)
      have c8' : ff 8 = _ := hd.get (n := 8) (by decide)
      go_big_wp2_with fail
      refine (det (okM d p ww (HIN1.out.kept hI) HF.out.1) o HO.out).mono ?_
      rintro e wa ⟨rfl, da⟩
      go_big_wp2_with fail
      refine hQ _ _ _ ?_ (bt hI da) da rfl
      first | rfl | (simp [upd, c5', c8']; done)
    · intro ff kk ww hkk hI hd QQ' hQ
      try dsimp only
      have c5' : ff 5 = _ := hd.get (n := 5) (by decide)
      have c7' : ff 7 = _ := hd.get (n := 7) (by decide)
      have c9' : ff 9 = _ := hd.get (n := 9) (by decide)
      go_big_wp2_with fail
      refine hQ _ _ _ ?_ hI (Below.refl _ _) rfl
      first | rfl | (simp [upd, c5', c7', c9', zoo]; done)
    · intro ff kk ww hkk hI hd QQ' hQ
      try dsimp only
      have c5' : ff 5 = _ := hd.get (n := 5) (by decide)
      have c10' : ff 10 = _ := hd.get (n := 10) (by decide)
      go_big_wp2_with fail
      refine hQ _ _ _ ?_ hI (Below.refl _ _) rfl
      first | rfl | (simp [upd, c5', c10']; done)
  case hend5 =>
  intro ff kk w3 d3 hS
  try dsimp only
  have c11' : ff 11 = _ := hS 11 (by decide)
  rw [c11']
  clear c11' hS
  have HX3 := Lib.hid (HX1.out.kept d3)
  have HIN3 := Lib.hid (HIN1.out.kept d3)
  have D3 := Lib.hid (bt D2.out d3)
  clear d3
  have x0 := HX3.out.c0
  have x1 := HX3.out.c1
  have x2 := HX3.out.c2
  have x3 := HX3.out.c3
  have x4 := HX3.out.c4
  have x5 := HX3.out.c5
  have x6 := HX3.out.c6
  have x7 := HX3.out.c7
  have x8 := HX3.out.c8
  have x9 := HX3.out.c9
  go_wp2_with fail
  refine (det (okM d p w3 HIN3.out HF.out.1) o HO.out).mono ?_
  rintro e w4 ⟨rfl, d4⟩
  have D4 := Lib.hid (bt D3.out d4)
  have HX4 := Lib.hid (HX3.out.kept d4)
  have HIN4 := Lib.hid (HIN3.out.kept d4)
  clear d4
  clear x0 x1 x2 x3 x4 x5 x6 x7 x8 x9
  cases o with
  | false =>
    have v0 : v = 0 := HV.out.2 (fun h => by have := HO.out.2 h.1; cases this)
    subst v0
    go_wp2
    go_ret
    exact ⟨rfl, D4.out⟩
  | true =>
  have HOK : Hid (OkLeg d) := HO.out.1 rfl
  clear HO
  go_wp2_with fail
  refine (wsInS kc 0 2 w4).mono ?_
  rintro e w5 ⟨rfl, d5⟩
  have D5 := Lib.hid (bt D4.out d5)
  have HX5 := Lib.hid (HX4.out.kept d5)
  have HIN5 := Lib.hid (HIN4.out.kept d5)
  clear d5
  by_cases hk : 0 ≤ kc ∧ kc ≤ 2
  rotate_left
  · have v0 : v = 0 := HV.out.2 (fun h => hk h.2)
    subst v0
    have z5 : decide (0 ≤ kc ∧ kc ≤ 2) = false := decide_eq_false hk
    go_wp2
    go_ret
    exact ⟨rfl, D5.out⟩
  have z5 : decide (0 ≤ kc ∧ kc ≤ 2) = true := decide_eq_true hk
  have VV : Hid (v = roomN d (kc.toNat + 1)) := HV.out.1 ⟨HOK.out, hk⟩
  obtain ⟨c, rfl⟩ := Int.eq_ofNat_of_zero_le hk.1
  have hc : c ≤ 2 := by omega
  clear hk
  have hnL : Hid (d.nL = 3) := HOK.out.2.1.2.1
  obtain ⟨bL, oL, eL, hbL, hcL⟩ := Nums.cells HIN5.out.1 (by have := hnL.out; omega)
  have cL := hcL c (by have := hnL.out; omega)
  have y6 := HX5.out.c6
  rw [eL, hnL.out] at y6
  have k0 : (0 : Int) ≤ (c : Int) := by omega
  have k1 : (c : Int) < 3 := by omega
  have z5c : decide ((c : Int) ≤ 2) = true := decide_eq_true (by omega)
  have z5n : decide (c ≤ 2) = true := decide_eq_true (by omega)
  clear hcL eL hbL
  go_wp2_with fail
  refine (wsInS v 0 (d.L c) w5).mono ?_
  rintro e w6 ⟨rfl, d6⟩
  have D6 := Lib.hid (bt D5.out d6)
  have HX6 := Lib.hid (HX5.out.kept d6)
  have HIN6 := Lib.hid (HIN5.out.kept d6)
  clear d6 cL y6
  have z6 : decide (0 ≤ v ∧ v ≤ d.L c) = true := decide_eq_true (by
    have h1 := VV.out
    rw [Int.toNat_natCast] at h1
    rw [h1]
    exact ⟨HOK.out.room0 _ (by omega), room_le_lim HOK.out hc⟩)
  cases c with
  | zero =>
    go_wp2
    go_ret
    exact ⟨rfl, D6.out⟩
  | succ c =>
    have z7 : (((c + 1 : Nat) : Int) == 0) = false := by simp; omega
    have z8 : decide (((c + 1 : Nat) : Int) = 0) = false := decide_eq_false (by omega)
    have zs : IntKind.i64.wrap (((c + 1 : Nat) : Int) - 1) = (c : Int) := by rw [IntWalk.i64_in _ (by omega)]; omega
    have x0 := HX6.out.c0
    have x1 := HX6.out.c1
    have x2 := HX6.out.c2
    have x3 := HX6.out.c3
    have x4 := HX6.out.c4
    have x5 := HX6.out.c5
    have x6 := HX6.out.c6
    have x7 := HX6.out.c7
    have x8 := HX6.out.c8
    have x9 := HX6.out.c9
    go_wp2_with fail
    refine (LegRoomI d p c w6 HIN6.out HF.out.1 HF.out.2.1).mono ?_
    rintro e w7 ⟨u, rfl, hu, d7⟩
    have D7 := Lib.hid (bt D6.out d7)
    have z9 : decide (v ≤ u) = true := decide_eq_true (by
      have h1 := VV.out
      rw [Int.toNat_natCast] at h1
      have h2 := hu.out.1 ⟨HOK.out, by omega, by omega⟩
      rw [Int.toNat_natCast] at h2
      rw [h1, h2]
      exact room_next d c)
    clear d7 hu
    clear x0 x1 x2 x3 x4 x5 x6 x7 x8 x9
    go_wp2
    go_ret
    exact ⟨rfl, D7.out⟩

end Go.Proofs.Ytmlkjlipjkmcfaa
