/-
  The leg and the class that are drawn for how many seats can be had.
-/
import Derived.Test.YtmlkjlipjkmcfaaDrawReg
namespace Go.Proofs.Ytmlkjlipjkmcfaa
open Go.RowKit
set_option linter.unusedVariables false
set_option linter.unusedSimpArgs false

def SRoom (b r : Nat) (i : Nat) (W : World) (v : Value) : Prop := match i with
  | 0 => v = .pointer (some ⟨b, 0, none⟩)
  | 1 => Ls3 b W v
  | 2 => v = .pointer (some ⟨b, 0, none⟩)
  | 3 => ∃ x : Int, 0 ≤ x ∧ x < 3 ∧ v = .int .i64 x
  | 4 => Ns3 b 3 W v
  | 5 => v = .pointer (some ⟨b, 0, none⟩)
  | 6 => ∃ x : Int, 0 ≤ x ∧ x < 12 ∧ v = .int .i64 x
  | 7 => ∃ x : Int, 0 ≤ x ∧ x < 34 ∧ v = .int .i64 x
  | 8 => ∃ x : Int, 0 ≤ x ∧ x < 3 ∧ v = .int .i64 x
  | 9 => Pt3 b 3 W v
  | 10 => ∃ x : Int, v = .int .i64 x
  | 11 => True
  | 12 => ∃ x : Int, v = .int .i64 x
  | _ => True
theorem SRoom.kept {b r i : Nat} {W W' : World} {v : Value} (h : SRoom b r i W v) (hg : GrB b W W') : SRoom b r i W' v := by
  match i, h with
  | 0, h => exact h
  | 1, h => exact Ls3.kept h hg
  | 2, h => exact h
  | 3, h => exact h
  | 4, h => exact Ns3.kept h hg
  | 5, h => exact h
  | 6, h => exact h
  | 7, h => exact h
  | 8, h => exact h
  | 9, h => exact Pt3.kept h hg
  | 10, h => exact h
  | 11, h => exact h
  | 12, h => exact h
  | i + 13, h => exact h
set_option maxRecDepth 100000 in
set_option maxHeartbeats 8000000 in
theorem drawRoom (a0 : Option Addr) (len cap : Nat) (z : List Int) (w : World) (w0 : IsRow .u8 w a0 len cap z) :
    Calls Try.prog 31 #[.slice a0 len cap] w (DrawnClass w) := by
  have hR := LegRes.zero (w.heap.size + 1) w
  have hb1 : Below w.heap.size w (w.alloc (.cells #[.string ⟨#[]⟩, .string ⟨#[]⟩, .string ⟨#[]⟩, .int .i64 0, .int .i64 0, .int .i64 0, .slice none 0 0, .slice none 0 0, .slice none 0 0, .slice none 0 0] 31)) := (Below.refl _ _).alloc (Nat.le_refl _) _
  have hsz : (w.alloc (.cells #[.string ⟨#[]⟩, .string ⟨#[]⟩, .string ⟨#[]⟩, .int .i64 0, .int .i64 0, .int .i64 0, .slice none 0 0, .slice none 0 0, .slice none 0 0, .slice none 0 0] 31)).heap.size = w.heap.size + 1 := by simp
  have HB1 := Lib.hid hb1
  have HR := Lib.hid hR
  have HSZ := Lib.hid hsz
  clear hb1 hR hsz
  go_enter Try.func31, Try.ntmps31
  go_wp2_with fail
  generalize w.alloc (.cells #[.string ⟨#[]⟩, .string ⟨#[]⟩, .string ⟨#[]⟩, .int .i64 0, .int .i64 0, .int .i64 0, .slice none 0 0, .slice none 0 0, .slice none 0 0, .slice none 0 0] 31) = w1 at *
  refine (openedB a0 len cap z w w1 w0 HB1.out).mono ?_
  rintro e w2 ⟨rfl, hrd, hb2, hs2⟩
  clear w0
  rw [HSZ.out] at hrd
  have HI : Hid (IReg w w.heap.size (w.heap.size + 1) w.heap.size 0 w2) := ⟨⟨0, Nat.zero_le _, hrd⟩, HB1.out.trans (hb2.mono (by rw [HSZ.out]; omega)), HR.out.below hb2, by omega, Nat.le_refl _, Nat.le_refl _⟩
  rw [HSZ.out]
  clear hrd hb2 hs2
  generalize hrr : w.heap.size = r at HI ⊢
  generalize hbb : r + 1 = b at HI ⊢
  have hBr : r ≤ r := Nat.le_refl r
  have hB0 := Lib.hid hrr
  clear hrr hbb
  go_upto_region 2 with fail
  refine wp_region_free' (by kernel_rfl) (IReg w r b r) (fun W W' => GrB b W W') (SRoom b r) (by kernel_rfl) (fun i k v W W' h _ hg => h.kept hg) (HI.out.below ((Below.refl _ _).drew)) ?_
  apply Exists.intro
  apply And.intro
  · intro f
    simp only [over, List.set]
    exact rfl
  refine ⟨?hops, ?hend⟩
  case hops =>
    refine EachOp.cons ?_ (EachOp.cons ?_ (EachOp.cons ?_ (EachOp.cons ?_ (EachOp.cons ?_ (EachOp.cons ?_ (EachOp.cons ?_ (EachOp.cons ?_ (EachOp.cons ?_ (EachOp.cons ?_ (EachOp.cons ?_ (EachOp.cons ?_ (EachOp.cons ?_ (EachOp.nil)))))))))))))
    · intro ff kk ww hkk hI hd QQ' hQ
      try dsimp only
      have hkk2 : kk < 13 := hkk
      go_big_wp2_with fail
      refine hQ _ _ _ ?_ hI.id (GrB.id _) rfl
      first | rfl | (simp [upd]; done)
    · intro ff kk ww hkk hI hd QQ' hQ
      try dsimp only
      have hkk2 : kk < 13 := hkk
      have c0 : ff 0 = _ := hd.get (n := 0) (by decide)
      obtain ⟨qq, hqq, hrq⟩ := hI.1
      have hrl := hI.2.2.1.lt
      have hbl := hrq.le.2
      go_big_wp2_with fail
      refine (anyLeg r b qq ww hrq (by omega)).mono ?_
      rintro e wp ⟨d, p, rfl, hfp, hip, hop, hlp, hrp, hgp⟩
      have hI' := hI.gr hgp (hrp.mono (by omega))
      have ho3 : LegOffB b d p := fun x hx => hlp x (by omega)
      clear hrp hrq
      go_big_wp2_with fail
      refine hQ _ _ wp ?_ hI' (.b hgp) ⟨d, p, rfl, hfp, hip, ho3⟩
      first | rfl | (simp [upd, c0]; done)
    · intro ff kk ww hkk hI hd QQ' hQ
      try dsimp only
      have hkk2 : kk < 13 := hkk
      go_big_wp2_with fail
      refine hQ _ _ _ ?_ hI.id (GrB.id _) rfl
      first | rfl | (simp [upd]; done)
    · intro ff kk ww hkk hI hd QQ' hQ
      try dsimp only
      have hkk2 : kk < 13 := hkk
      have c2 : ff 2 = _ := hd.get (n := 2) (by decide)
      obtain ⟨qq, hqq, hrq⟩ := hI.1
      go_big_wp2_with fail
      refine (pick r b qq 3 ww hrq (by omega) (by omega) (by omega)).mono ?_
      rintro e wp ⟨xp, lp, up, rfl, hrp, hgp, -⟩
      have hI' := hI.gr hgp ⟨_, (by omega), hrp⟩
      clear hrp hrq
      go_big_wp2_with fail
      refine hQ _ _ wp ?_ hI' (.b hgp) ⟨xp, lp, up, rfl⟩
      first | rfl | (simp [upd, c2]; done)
    · intro ff kk ww hkk hI hd QQ' hQ
      try dsimp only
      have hkk2 : kk < 13 := hkk
      obtain ⟨x3, l3, u3, c3⟩ := hd.get (n := 3) (by decide)
      have c3' : ff 3 = _ := c3
      have hgx := World.grownBy_alloc ww (.cells #[.int .i64 x3, .int .i64 (-1), .int .i64 3] 3) (some b)
      have hI' := hI.alloc (.cells #[.int .i64 x3, .int .i64 (-1), .int .i64 3] 3)
      have hl1 := hI.1.lt
      have hl2 := hI.2.2.1.lt
      go_big_wp2_with fail
      refine hQ _ _ _ ?_ hI' (.b hgx) ⟨ww.heap.size, rfl, by omega, [x3, -1, 3], rfl, heap_alloc_new ww _⟩
      first | rfl | (simp [upd, c3']; done)
    · intro ff kk ww hkk hI hd QQ' hQ
      try dsimp only
      have hkk2 : kk < 13 := hkk
      go_big_wp2_with fail
      refine hQ _ _ _ ?_ hI.id (GrB.id _) rfl
      first | rfl | (simp [upd]; done)
    · intro ff kk ww hkk hI hd QQ' hQ
      try dsimp only
      have hkk2 : kk < 13 := hkk
      have c5 : ff 5 = _ := hd.get (n := 5) (by decide)
      obtain ⟨qq, hqq, hrq⟩ := hI.1
      go_big_wp2_with fail
      refine (pick r b qq 12 ww hrq (by omega) (by omega) (by omega)).mono ?_
      rintro e wp ⟨xp, lp, up, rfl, hrp, hgp, -⟩
      have hI' := hI.gr hgp ⟨_, (by omega), hrp⟩
      clear hrp hrq
      go_big_wp2_with fail
      refine hQ _ _ wp ?_ hI' (.b hgp) ⟨xp, lp, up, rfl⟩
      first | rfl | (simp [upd, c5]; done)
    · intro ff kk ww hkk hI hd QQ' hQ
      try dsimp only
      have hkk2 : kk < 13 := hkk
      obtain ⟨y, m0, m1, c6⟩ := hd.get (n := 6) (by decide)
      have c6' : ff 6 = _ := c6
      have ew : IntKind.i64.wrap (y * 3) = y * 3 := IntWalk.i64_in _ (by omega)
      go_big_wp2_with fail
      refine hQ _ _ _ ?_ hI.id (GrB.id _) ⟨y * 3, by omega, by omega, rfl⟩
      first | rfl | (simp [upd, c6', ew]; done)
    · intro ff kk ww hkk hI hd QQ' hQ
      try dsimp only
      have hkk2 : kk < 13 := hkk
      obtain ⟨y, m0, m1, c7⟩ := hd.get (n := 7) (by decide)
      have c7' : ff 7 = _ := c7
      have mt : y.tdiv 12 = y / 12 := Int.tdiv_eq_ediv_of_nonneg m0
      have mw : IntKind.i64.wrap (y / 12) = y / 12 := IntWalk.i64_in _ (by omega)
      have m2 : 0 ≤ y / 12 ∧ y / 12 < 3 := by omega
      go_big_wp2_with fail
      refine hQ _ _ _ ?_ hI.id (GrB.id _) ⟨y / 12, m2.1, m2.2, rfl⟩
      first | rfl | (simp [upd, c7', mt, mw]; done)
    · intro ff kk ww hkk hI hd QQ' hQ
      try dsimp only
      have hkk2 : kk < 13 := hkk
      obtain ⟨lb, c4, hlb, vs, hvl, hz⟩ := hd.get (n := 4) (by decide)
      obtain ⟨jj, hj0, hj1, c8⟩ := hd.get (n := 8) (by decide)
      obtain ⟨j, rfl⟩ := Int.eq_ofNat_of_zero_le hj0
      have hj : j < 3 := by omega
      have c4' : ff 4 = _ := c4
      have c8' : ff 8 = _ := c8
      have k1 : (j : Int) < 3 := by omega
      have k0 : (0 : Int) ≤ j := by omega
      go_big_wp2_with fail
      refine hQ _ _ _ ?_ hI.id (GrB.id _) ⟨lb, j, hj, rfl, hlb, vs, hvl, hz⟩
      first | rfl | (simp [upd, c4', c8']; done)
    · intro ff kk ww hkk hI hd QQ' hQ
      try dsimp only
      have hkk2 : kk < 13 := hkk
      obtain ⟨lb, j, hj, c9, hlb, vs, hvl, hz⟩ := hd.get (n := 9) (by decide)
      have c9' : ff 9 = _ := c9
      obtain ⟨yv, hy⟩ : ∃ yv, ww.cell? ⟨lb, j, none⟩ = some (.int .i64 yv) := ⟨_, pt_cell hvl hj hz⟩
      go_big_wp2_with fail
      refine hQ _ _ _ ?_ hI.id (GrB.id _) ⟨yv, rfl⟩
      first | rfl | (simp [upd, c9']; done)
    · intro ff kk ww hkk hI hd QQ' hQ
      try dsimp only
      have hkk2 : kk < 13 := hkk
      obtain ⟨d, p, c1, hf, hi, ho⟩ := hd.get (n := 1) (by decide)
      have c1' : ff 1 = _ := c1
      have hI' := hI.row hf hi ho
      obtain ⟨d0, p0, hbx, -⟩ := hI.2.2.1
      have hbx' : ww.heap[r]? = some (.cells (LegC d0 p0) 31 (0, 0)) := hbx
      rw [c1']
      unfold LegV
      go_big_wp2_with (first
        | (refine wpList_store_row rfl 31 _ _ rfl r (LegC d p) rfl rfl 31 (LegC d0 p0) hbx' legSize rfl (leg_one d p) ?_)
        | fail)
      refine hQ _ undef _ ?_ hI' ⟨r, by have := hI.2.2.2; omega, grown_setRow ww r _⟩ trivial
      first | rfl | (simp [upd, c1', LegV]; done)
    · intro ff kk ww hkk hI hd QQ' hQ
      try dsimp only
      have hkk2 : kk < 13 := hkk
      obtain ⟨y, c10⟩ := hd.get (n := 10) (by decide)
      have c10' : ff 10 = _ := c10
      go_big_wp2_with fail
      refine hQ _ _ _ ?_ hI.id (GrB.id _) ⟨y, rfl⟩
      first | rfl | (simp [upd, c10']; done)
  case hend =>
  intro ff kk ww hI hS
  try dsimp only
  obtain ⟨y, c12⟩ := hS 12 (by decide)
  have c12' : ff 12 = _ := c12
  obtain ⟨d, p, hbx, hf, hi, ho⟩ := hI.2.2.1
  have hpost : Hid (DrawnClass w (.returned (.tuple #[LegV d p, .int .i64 y])) ww) := ⟨d, p, y, rfl, hf, hi, fun x hx => ho x (by have := hI.2.2.2; omega), hI.2.1⟩
  have hbx' : Hid (LegBx ww r 31 d p) := hbx
  rw [c12']
  clear hS hI hf hi ho c12 c12' hbx
  have v0 := hbx'.out.c0
  have v1 := hbx'.out.c1
  have v2 := hbx'.out.c2
  have v3 := hbx'.out.c3
  have v4 := hbx'.out.c4
  have v5 := hbx'.out.c5
  have v6 := hbx'.out.c6
  have v7 := hbx'.out.c7
  have v8 := hbx'.out.c8
  have v9 := hbx'.out.c9
  go_wp2_with fail
  refine bodyPost_ret (v := .tuple #[LegV d p, .int .i64 y]) ?_ rfl hpost.out
  rw [LegV_eq]
  unfold LegC
  simp [results, Try.f31, go_sem, v0, v1, v2, v3, v4, v5, v6, v7, v8, v9]

end Go.Proofs.Ytmlkjlipjkmcfaa
