/-
  The leg and the transaction that are drawn for what is kept, or let go.
-/
import Derived.Test.YtmlkjlipjkmcfaaDrawReg
namespace Go.Proofs.Ytmlkjlipjkmcfaa
open Go.RowKit
set_option linter.unusedVariables false
set_option linter.unusedSimpArgs false

/-- Between the operations, the leg itself in a block of its own. -/
def IKp (w0 : World) (B b r lb : Nat) (d : LegD) (p : LegP) (k : Nat) (W : World) : Prop := IReg w0 B b r k W ∧ LegBx W lb 31 d p ∧ LegIn W d p ∧ (b < lb ∧ LegOffB b d p)
theorem IKp.id {w0 : World} {B b r lb : Nat} {d : LegD} {p : LegP} {k : Nat} {W : World} (h : IKp w0 B b r lb d p k W) : IKp w0 B b r lb d p (k + 1) W := ⟨h.1.id, h.2⟩
theorem IKp.gr {w0 : World} {B b r lb : Nat} {d : LegD} {p : LegP} {k : Nat} {W W' : World} (h : IKp w0 B b r lb d p k W) (hg : W.grownBy W' (some b)) (hr : RdTo B (400 * (k + 1) + 400) b W') : IKp w0 B b r lb d p (k + 1) W' :=
  ⟨h.1.gr hg hr, (GrB.b hg).block h.2.2.2.1 h.2.1, h.2.2.1.grB h.2.2.2.2 (.b hg), h.2.2.2⟩
theorem IKp.row {w0 : World} {B b r lb : Nat} {d : LegD} {p : LegP} {k : Nat} {W : World} (h : IKp w0 B b r lb d p k W) (hf : Hid (SFit d p)) : IKp w0 B b r lb d p (k + 1) (W.setRow r (LegC d p)) := by
  have hg : GrB b W (W.setRow r (LegC d p)) := ⟨r, by have := h.1.2.2.2; omega, grown_setRow W r _⟩
  exact ⟨h.1.row hf h.2.2.1 h.2.2.2.2, hg.block h.2.2.2.1 h.2.1, h.2.2.1.grB h.2.2.2.2 hg, h.2.2.2⟩
theorem IKp.below {w0 : World} {B b r lb : Nat} {d : LegD} {p : LegP} {k : Nat} {W W' : World} (h : IKp w0 B b r lb d p k W) (hb : Below W.heap.size W W') : IKp w0 B b r lb d p k W' :=
  ⟨h.1.below hb, h.2.1.kept hb, h.2.2.1.kept hb, h.2.2.2⟩
theorem holds_cell {W : World} {bH oH n : Nat} {a : Option Addr} {t c s : Nat → Int} (h : Holds W a n t c s) (e : a = some ⟨bH, oH, none⟩) (i : Nat) (hi : i < n) : W.cell? ⟨bH, oH + i * 3, none⟩ = some (.int .i64 (t i)) := by
  rcases h with h | ⟨b, off, h1, h2, h3⟩
  · omega
  · rw [e] at h1
    cases h1
    exact (h3 i hi).1
def SKpA (b lb bH oH : Nat) (d : LegD) (p : LegP) (i : Nat) (W : World) (v : Value) : Prop := match i with
  | 0 => v = LegV d p
  | 1 => v = .pointer (some ⟨lb, 9, none⟩)
  | 2 => v = .slice (some ⟨bH, oH, none⟩) d.nH p.cH
  | 3 => v = .pointer (some ⟨b, 0, none⟩)
  | 4 => v = .pointer (some ⟨lb, 9, none⟩)
  | 5 => v = .slice (some ⟨bH, oH, none⟩) d.nH p.cH
  | 6 => v = .int .i64 (d.nH : Int)
  | 7 => ∃ x : Nat, x < d.nH ∧ v = .int .i64 (x : Int)
  | 8 => ∃ x : Nat, x < d.nH ∧ v = .pointer (some ⟨bH, oH + x * 3, none⟩)
  | 9 => ∃ x : Nat, x < d.nH ∧ v = .pointer (some ⟨bH, oH + x * 3, none⟩)
  | 10 => ∃ y : Int, v = .int .i64 y
  | 11 => True
  | 12 => ∃ y : Int, v = .int .i64 y
  | _ => True
def SKpB (b : Nat) (d : LegD) (p : LegP) (i : Nat) (W : World) (v : Value) : Prop := match i with
  | 0 => v = LegV d p
  | 1 => v = .pointer (some ⟨b, 0, none⟩)
  | 2 => ∃ y : Int, v = .int .i64 y
  | 3 => True
  | 4 => ∃ y : Int, v = .int .i64 y
  | _ => True
set_option maxRecDepth 100000 in
set_option maxHeartbeats 8000000 in
theorem drawKeep (a0 : Option Addr) (len cap : Nat) (z : List Int) (w : World) (w0 : IsRow .u8 w a0 len cap z) :
    Calls Try.prog 25 #[.slice a0 len cap] w (DrawnClass w) := by
  have hR := LegRes.zero (w.heap.size + 1) w
  have hb1 : Below w.heap.size w (w.alloc (.cells #[.string ⟨#[]⟩, .string ⟨#[]⟩, .string ⟨#[]⟩, .int .i64 0, .int .i64 0, .int .i64 0, .slice none 0 0, .slice none 0 0, .slice none 0 0, .slice none 0 0] 31)) := (Below.refl _ _).alloc (Nat.le_refl _) _
  have hsz : (w.alloc (.cells #[.string ⟨#[]⟩, .string ⟨#[]⟩, .string ⟨#[]⟩, .int .i64 0, .int .i64 0, .int .i64 0, .slice none 0 0, .slice none 0 0, .slice none 0 0, .slice none 0 0] 31)).heap.size = w.heap.size + 1 := by simp
  have HB1 := Lib.hid hb1
  have HR := Lib.hid hR
  have HSZ := Lib.hid hsz
  clear hb1 hR hsz
  go_enter Try.func25, Try.ntmps25
  go_wp2_with fail
  generalize w.alloc (.cells #[.string ⟨#[]⟩, .string ⟨#[]⟩, .string ⟨#[]⟩, .int .i64 0, .int .i64 0, .int .i64 0, .slice none 0 0, .slice none 0 0, .slice none 0 0, .slice none 0 0] 31) = w1 at *
  refine (openedB a0 len cap z w w1 w0 HB1.out).mono ?_
  rintro e w2 ⟨rfl, hrd, hb2, hs2⟩
  clear w0
  rw [HSZ.out] at hrd
  have HI : Hid (IReg w w.heap.size (w.heap.size + 1) w.heap.size 0 w2) := ⟨⟨0, Nat.zero_le _, hrd⟩, HB1.out.trans (hb2.mono (by rw [HSZ.out]; omega)), HR.out.below hb2, by omega, Nat.le_refl _, Nat.le_refl _⟩
  have HRD := Lib.hid hrd
  rw [HSZ.out]
  clear hrd hb2 hs2
  generalize hrr : w.heap.size = r at HI HRD ⊢
  generalize hbb : r + 1 = b at HI HRD ⊢
  have HBB := Lib.hid hbb
  clear hrr hbb
  go_wp2_with fail
  have hrl := HI.out.2.2.1.lt
  have hbl := HRD.out.le.2
  refine (anyLeg r b 0 w2 HRD.out (by omega)).mono ?_
  rintro e w3 ⟨d, p, rfl, hfit, hin, hoff, hlow, hrd3, hg3⟩
  have HF := hfit
  have ho3 : Hid (LegOffB b d p) := fun x hx => hlow x (by omega)
  have HI3 : Hid (IReg w r b r 0 w3) := ⟨hrd3.mono (by omega), HI.out.2.1.grown hg3 HI.out.2.1.size (fun k e => by cases e; have := HI.out.2.2.2; omega), HI.out.2.2.1.far hg3 (Nat.le_refl _) (by have := HI.out.2.2.2; omega), HI.out.2.2.2⟩
  have HIN3 := Lib.hid hin
  have HS3 : Hid (r < w3.heap.size ∧ b < w3.heap.size) := ⟨Nat.lt_of_lt_of_le hrl hg3.size, Nat.lt_of_lt_of_le hbl hg3.size⟩
  clear hfit hoff hlow hrd3 hg3 hin hrl hbl
  have hbXWX := legRowBelow w3 (LegC d p)
  have hXWX : LegBx ((w3.alloc (.cells #[.string ⟨#[]⟩, .string ⟨#[]⟩, .string ⟨#[]⟩, .int .i64 0, .int .i64 0, .int .i64 0, .slice none 0 0, .slice none 0 0, .slice none 0 0, .slice none 0 0] 31)).setRow w3.heap.size (LegC d p)) w3.heap.size 31 d p := legRowBox w3 d p
  have HK : Hid (IKp w r b r w3.heap.size d p 0 ((w3.alloc (.cells #[.string ⟨#[]⟩, .string ⟨#[]⟩, .string ⟨#[]⟩, .int .i64 0, .int .i64 0, .int .i64 0, .slice none 0 0, .slice none 0 0, .slice none 0 0, .slice none 0 0] 31)).setRow w3.heap.size (LegC d p))) := ⟨HI3.out.below hbXWX, hXWX, HIN3.out.kept hbXWX, HS3.out.2, ho3.out⟩
  have HX := Lib.hid hXWX
  clear hXWX hbXWX
  unfold LegV
  have x0 := HX.out.c0
  have x1 := HX.out.c1
  have x2 := HX.out.c2
  have x3 := HX.out.c3
  have x4 := HX.out.c4
  have x5 := HX.out.c5
  have x6 := HX.out.c6
  have x7 := HX.out.c7
  have x8 := HX.out.c8
  have x9 := HX.out.c9
  have HN0 : Hid (0 < d.nH ∨ d.nH = 0) := Nat.eq_zero_or_pos d.nH |>.symm
  rcases HN0.out with hN | hN
  · have HN := Lib.hid hN
    have z0 : decide ((0 : Int) < (d.nH : Int)) = true := decide_eq_true (by omega)
    have z0n : decide (0 < d.nH) = true := decide_eq_true hN
    obtain ⟨bH, oH, hE, -, -⟩ := Holds.cells HK.out.2.2.1.2.2.2 hN
    have HE := Lib.hid hE
    clear hE hN
    go_wp2_with (first
      | (refine wpList_store_row rfl 31 _ _ rfl w3.heap.size (LegC d p) rfl rfl 31 #[.string ⟨#[]⟩, .string ⟨#[]⟩, .string ⟨#[]⟩, .int .i64 0, .int .i64 0, .int .i64 0, .slice none 0 0, .slice none 0 0, .slice none 0 0, .slice none 0 0] (heap_alloc_new w3 _) legSize rfl (leg_one d p) ?_)
      | fail)
    generalize (w3.alloc (.cells #[.string ⟨#[]⟩, .string ⟨#[]⟩, .string ⟨#[]⟩, .int .i64 0, .int .i64 0, .int .i64 0, .slice none 0 0, .slice none 0 0, .slice none 0 0, .slice none 0 0] 31)).setRow w3.heap.size (LegC d p) = WX at *
    obtain ⟨qq, hqq, hrq⟩ := HK.out.1.1
    refine (pick r b qq 3 WX hrq (by omega) (by omega) (by omega)).mono ?_
    rintro e w4 ⟨xp, lp, up, rfl, hrp, hgp, -⟩
    have HK4 : Hid (IKp w r b r w3.heap.size d p 1 w4) := HK.out.gr hgp ⟨_, (by omega), hrp⟩
    clear hrp hrq hgp hqq
    clear x0 x1 x2 x3 x4 x5 x6 x7 x8 x9
    generalize w3.heap.size = lb at *
    rcases Int.lt_or_le 0 xp with hx | hx
    · have z1 : decide (0 < xp) = true := decide_eq_true hx
      go_upto_region 4 with fail
      refine wp_region_free' (by kernel_rfl) (fun k W => IKp w r b r lb d p (k + 1) W) (fun _ _ => True) (SKpA b lb bH oH d p) (by kernel_rfl) (fun i k v W W' h _ _ => h) (HK4.out.below ((Below.refl _ _).drew)) ?_
      apply Exists.intro
      apply And.intro
      · intro f
        simp only [over, List.set]
        exact rfl
      refine ⟨?hopsA, ?hendA⟩
      case hopsA =>
        refine EachOp.cons ?_ (EachOp.cons ?_ (EachOp.cons ?_ (EachOp.cons ?_ (EachOp.cons ?_ (EachOp.cons ?_ (EachOp.cons ?_ (EachOp.cons ?_ (EachOp.cons ?_ (EachOp.cons ?_ (EachOp.cons ?_ (EachOp.cons ?_ (EachOp.cons ?_ (EachOp.nil)))))))))))))
        · intro ff kk ww hkk hI hd QQ' hQ
          try dsimp only
          have hkk2 : kk < 13 := hkk
          have qb := Lib.hid hI.2.1
          have y0 := qb.out.c0
          have y1 := qb.out.c1
          have y2 := qb.out.c2
          have y3 := qb.out.c3
          have y4 := qb.out.c4
          have y5 := qb.out.c5
          have y6 := qb.out.c6
          have y7 := qb.out.c7
          have y8 := qb.out.c8
          have y9 := qb.out.c9
          go_big_wp2_with fail
          refine hQ _ _ _ ?_ hI.id trivial rfl
          first | rfl | (simp [upd, LegV_eq, LegC]; done)
        · intro ff kk ww hkk hI hd QQ' hQ
          try dsimp only
          have hkk2 : kk < 13 := hkk
          go_big_wp2_with fail
          refine hQ _ _ _ ?_ hI.id trivial rfl
          first | rfl | (simp [upd]; done)
        · intro ff kk ww hkk hI hd QQ' hQ
          try dsimp only
          have hkk2 : kk < 13 := hkk
          have c1 : ff 1 = _ := hd.get (n := 1) (by decide)
          have x9 : ww.cell? ⟨lb, 9, none⟩ = some (.slice (some ⟨bH, oH, none⟩) d.nH p.cH) := by rw [← HE.out]; exact hI.2.1.c9
          go_big_wp2_with fail
          refine hQ _ _ _ ?_ hI.id trivial rfl
          first | rfl | (simp [upd, c1]; done)
        · intro ff kk ww hkk hI hd QQ' hQ
          try dsimp only
          have hkk2 : kk < 13 := hkk
          go_big_wp2_with fail
          refine hQ _ _ _ ?_ hI.id trivial rfl
          first | rfl | (simp [upd]; done)
        · intro ff kk ww hkk hI hd QQ' hQ
          try dsimp only
          have hkk2 : kk < 13 := hkk
          go_big_wp2_with fail
          refine hQ _ _ _ ?_ hI.id trivial rfl
          first | rfl | (simp [upd]; done)
        · intro ff kk ww hkk hI hd QQ' hQ
          try dsimp only
          have hkk2 : kk < 13 := hkk
          have c4 : ff 4 = _ := hd.get (n := 4) (by decide)
          have x9 : ww.cell? ⟨lb, 9, none⟩ = some (.slice (some ⟨bH, oH, none⟩) d.nH p.cH) := by rw [← HE.out]; exact hI.2.1.c9
          go_big_wp2_with fail
          refine hQ _ _ _ ?_ hI.id trivial rfl
          first | rfl | (simp [upd, c4]; done)
        · intro ff kk ww hkk hI hd QQ' hQ
          try dsimp only
          have hkk2 : kk < 13 := hkk
          have c5 : ff 5 = _ := hd.get (n := 5) (by decide)
          go_big_wp2_with fail
          refine hQ _ _ _ ?_ hI.id trivial rfl
          first | rfl | (simp [upd, c5]; done)
        · intro ff kk ww hkk hI hd QQ' hQ
          try dsimp only
          have hkk2 : kk < 13 := hkk
          have c3 : ff 3 = _ := hd.get (n := 3) (by decide)
          have c6' : ff 6 = _ := hd.get (n := 6) (by decide)
          have h0 := HN.out
          have h1 := HF.out.1.2.2.2.2.2.2
          obtain ⟨qq, hqq, hrq⟩ := hI.1.1
          go_big_wp2_with fail
          refine (pick r b qq (d.nH : Int) ww hrq (by omega) (by omega) (by omega)).mono ?_
          rintro e wp ⟨xp, lp, up, rfl, hrp, hgp, -⟩
          obtain ⟨ip, rfl⟩ := Int.eq_ofNat_of_zero_le lp
          have hI' := hI.gr hgp ⟨_, (by omega), hrp⟩
          clear hrp hrq
          go_big_wp2_with fail
          refine hQ _ _ wp ?_ hI' trivial ⟨ip, by omega, rfl⟩
          first | rfl | (simp [upd, c3, c6']; done)
        · intro ff kk ww hkk hI hd QQ' hQ
          try dsimp only
          have hkk2 : kk < 13 := hkk
          have c2 : ff 2 = _ := hd.get (n := 2) (by decide)
          obtain ⟨x, hx, c7⟩ := hd.get (n := 7) (by decide)
          have c7' : ff 7 = _ := c7
          have k1 : (x : Int) < d.nH := by omega
          have k0 : (0 : Int) ≤ x := by omega
          go_big_wp2_with fail
          refine hQ _ _ _ ?_ hI.id trivial ⟨x, hx, rfl⟩
          first | rfl | (simp [upd, c2, c7']; done)
        · intro ff kk ww hkk hI hd QQ' hQ
          try dsimp only
          have hkk2 : kk < 13 := hkk
          obtain ⟨x, hx, c8⟩ := hd.get (n := 8) (by decide)
          have c8' : ff 8 = _ := c8
          go_big_wp2_with fail
          refine hQ _ _ _ ?_ hI.id trivial ⟨x, hx, rfl⟩
          first | rfl | (simp [upd, c8']; done)
        · intro ff kk ww hkk hI hd QQ' hQ
          try dsimp only
          have hkk2 : kk < 13 := hkk
          obtain ⟨x, hx, c9⟩ := hd.get (n := 9) (by decide)
          have c9' : ff 9 = _ := c9
          have hy := holds_cell hI.2.2.1.2.2.2 HE.out x hx
          go_big_wp2_with fail
          refine hQ _ _ _ ?_ hI.id trivial ⟨d.t x, rfl⟩
          first | rfl | (simp [upd, c9']; done)
        · intro ff kk ww hkk hI hd QQ' hQ
          try dsimp only
          have hkk2 : kk < 13 := hkk
          have c0' : ff 0 = _ := hd.get (n := 0) (by decide)
          have hI' := hI.row HF
          obtain ⟨d0, p0, hbx, -⟩ := hI.1.2.2.1
          have hbx' : ww.heap[r]? = some (.cells (LegC d0 p0) 31 (0, 0)) := hbx
          rw [c0']
          unfold LegV
          go_big_wp2_with (first
            | (refine wpList_store_row rfl 31 _ _ rfl r (LegC d p) rfl rfl 31 (LegC d0 p0) hbx' legSize rfl (leg_one d p) ?_)
            | fail)
          refine hQ _ undef _ ?_ hI' trivial trivial
          first | rfl | (simp [upd, c0', LegV]; done)
        · intro ff kk ww hkk hI hd QQ' hQ
          try dsimp only
          have hkk2 : kk < 13 := hkk
          obtain ⟨y, c10⟩ := hd.get (n := 10) (by decide)
          have c10' : ff 10 = _ := c10
          go_big_wp2_with fail
          refine hQ _ _ _ ?_ hI.id trivial ⟨y, rfl⟩
          first | rfl | (simp [upd, c10']; done)
      case hendA =>
      intro ff kk ww hI hS
      try dsimp only
      obtain ⟨y, cz⟩ := hS 12 (by decide)
      have cz' : ff 12 = _ := cz
      obtain ⟨d2, p2, hbx, hf, hi, ho⟩ := hI.1.2.2.1
      have hpost : Hid (DrawnClass w (.returned (.tuple #[LegV d2 p2, .int .i64 y])) ww) := ⟨d2, p2, y, rfl, hf, hi, fun x hx => ho x (by have := hI.1.2.2.2; omega), hI.1.2.1⟩
      have hbx' : Hid (LegBx ww r 31 d2 p2) := hbx
      rw [cz']
      clear hS hI hf hi ho cz cz' hbx
      have v0 := hbx'.out.c0
      have v1 := hbx'.out.c1
      have v2 := hbx'.out.c2
      have v3 := hbx'.out.c3
      have v4 := hbx'.out.c4
      have v5 := hbx'.out.c5
      have v6 := hbx'.out.c6
      have v7 := hbx'.out.c7
      have v8 := hbx'.out.c8
      have v9 := hbx'.out.c9
      go_wp2_with fail
      refine bodyPost_ret (v := .tuple #[LegV d2 p2, .int .i64 y]) ?_ rfl hpost.out
      rw [LegV_eq]
      unfold LegC
      simp [results, Try.f25, go_sem, v0, v1, v2, v3, v4, v5, v6, v7, v8, v9]

    · have z1 : decide (0 < xp) = false := decide_eq_false (by omega)
      go_upto_region 5 with fail
      refine wp_region_free' (by kernel_rfl) (fun k W => IKp w r b r lb d p (k + 1) W) (fun _ _ => True) (SKpB b d p) (by kernel_rfl) (fun i k v W W' h _ _ => h) (HK4.out.below ((Below.refl _ _).drew)) ?_
      apply Exists.intro
      apply And.intro
      · intro f
        simp only [over, List.set]
        exact rfl
      refine ⟨?hopsB, ?hendB⟩
      case hopsB =>
        refine EachOp.cons ?_ (EachOp.cons ?_ (EachOp.cons ?_ (EachOp.cons ?_ (EachOp.cons ?_ (EachOp.nil)))))
        · intro ff kk ww hkk hI hd QQ' hQ
          try dsimp only
          have hkk2 : kk < 5 := hkk
          have qb := Lib.hid hI.2.1
          have y0 := qb.out.c0
          have y1 := qb.out.c1
          have y2 := qb.out.c2
          have y3 := qb.out.c3
          have y4 := qb.out.c4
          have y5 := qb.out.c5
          have y6 := qb.out.c6
          have y7 := qb.out.c7
          have y8 := qb.out.c8
          have y9 := qb.out.c9
          go_big_wp2_with fail
          refine hQ _ _ _ ?_ hI.id trivial rfl
          first | rfl | (simp [upd, LegV_eq, LegC]; done)
        · intro ff kk ww hkk hI hd QQ' hQ
          try dsimp only
          have hkk2 : kk < 5 := hkk
          go_big_wp2_with fail
          refine hQ _ _ _ ?_ hI.id trivial rfl
          first | rfl | (simp [upd]; done)
        · intro ff kk ww hkk hI hd QQ' hQ
          try dsimp only
          have hkk2 : kk < 5 := hkk
          have c1 : ff 1 = _ := hd.get (n := 1) (by decide)
          obtain ⟨qq, hqq, hrq⟩ := hI.1.1
          go_big_wp2_with fail
          refine (pick r b qq 10 ww hrq (by omega) (by omega) (by omega)).mono ?_
          rintro e wp ⟨xp, lp, up, rfl, hrp, hgp, -⟩
          have hI' := hI.gr hgp ⟨_, (by omega), hrp⟩
          clear hrp hrq
          go_big_wp2_with fail
          refine hQ _ _ wp ?_ hI' trivial ⟨xp, rfl⟩
          first | rfl | (simp [upd, c1]; done)
        · intro ff kk ww hkk hI hd QQ' hQ
          try dsimp only
          have hkk2 : kk < 5 := hkk
          have c0' : ff 0 = _ := hd.get (n := 0) (by decide)
          have hI' := hI.row HF
          obtain ⟨d0, p0, hbx, -⟩ := hI.1.2.2.1
          have hbx' : ww.heap[r]? = some (.cells (LegC d0 p0) 31 (0, 0)) := hbx
          rw [c0']
          unfold LegV
          go_big_wp2_with (first
            | (refine wpList_store_row rfl 31 _ _ rfl r (LegC d p) rfl rfl 31 (LegC d0 p0) hbx' legSize rfl (leg_one d p) ?_)
            | fail)
          refine hQ _ undef _ ?_ hI' trivial trivial
          first | rfl | (simp [upd, c0', LegV]; done)
        · intro ff kk ww hkk hI hd QQ' hQ
          try dsimp only
          have hkk2 : kk < 5 := hkk
          obtain ⟨y, c2⟩ := hd.get (n := 2) (by decide)
          have c2' : ff 2 = _ := c2
          go_big_wp2_with fail
          refine hQ _ _ _ ?_ hI.id trivial ⟨y, rfl⟩
          first | rfl | (simp [upd, c2']; done)
      case hendB =>
      intro ff kk ww hI hS
      try dsimp only
      obtain ⟨y, cz⟩ := hS 4 (by decide)
      have cz' : ff 4 = _ := cz
      obtain ⟨d2, p2, hbx, hf, hi, ho⟩ := hI.1.2.2.1
      have hpost : Hid (DrawnClass w (.returned (.tuple #[LegV d2 p2, .int .i64 y])) ww) := ⟨d2, p2, y, rfl, hf, hi, fun x hx => ho x (by have := hI.1.2.2.2; omega), hI.1.2.1⟩
      have hbx' : Hid (LegBx ww r 31 d2 p2) := hbx
      rw [cz']
      clear hS hI hf hi ho cz cz' hbx
      have v0 := hbx'.out.c0
      have v1 := hbx'.out.c1
      have v2 := hbx'.out.c2
      have v3 := hbx'.out.c3
      have v4 := hbx'.out.c4
      have v5 := hbx'.out.c5
      have v6 := hbx'.out.c6
      have v7 := hbx'.out.c7
      have v8 := hbx'.out.c8
      have v9 := hbx'.out.c9
      go_wp2_with fail
      refine bodyPost_ret (v := .tuple #[LegV d2 p2, .int .i64 y]) ?_ rfl hpost.out
      rw [LegV_eq]
      unfold LegC
      simp [results, Try.f25, go_sem, v0, v1, v2, v3, v4, v5, v6, v7, v8, v9]

  · have z0 : decide ((0 : Int) < (d.nH : Int)) = false := decide_eq_false (by omega)
    have z0n : decide (0 < d.nH) = false := decide_eq_false (by omega)
    have HN := Lib.hid hN
    clear hN
    go_wp2_with (first
      | (refine wpList_store_row rfl 31 _ _ rfl w3.heap.size (LegC d p) rfl rfl 31 #[.string ⟨#[]⟩, .string ⟨#[]⟩, .string ⟨#[]⟩, .int .i64 0, .int .i64 0, .int .i64 0, .slice none 0 0, .slice none 0 0, .slice none 0 0, .slice none 0 0] (heap_alloc_new w3 _) legSize rfl (leg_one d p) ?_)
      | fail)
    generalize (w3.alloc (.cells #[.string ⟨#[]⟩, .string ⟨#[]⟩, .string ⟨#[]⟩, .int .i64 0, .int .i64 0, .int .i64 0, .slice none 0 0, .slice none 0 0, .slice none 0 0, .slice none 0 0] 31)).setRow w3.heap.size (LegC d p) = WX at *
    clear x0 x1 x2 x3 x4 x5 x6 x7 x8 x9
    generalize w3.heap.size = lb at *
    go_upto_region 5 with fail
    refine wp_region_free' (by kernel_rfl) (fun k W => IKp w r b r lb d p (k + 1) W) (fun _ _ => True) (SKpB b d p) (by kernel_rfl) (fun i k v W W' h _ _ => h) ((HK.out.id).below ((Below.refl _ _).drew)) ?_
    apply Exists.intro
    apply And.intro
    · intro f
      simp only [over, List.set]
      exact rfl
    refine ⟨?hopsC, ?hendC⟩
    case hopsC =>
      refine EachOp.cons ?_ (EachOp.cons ?_ (EachOp.cons ?_ (EachOp.cons ?_ (EachOp.cons ?_ (EachOp.nil)))))
      · intro ff kk ww hkk hI hd QQ' hQ
        try dsimp only
        have hkk2 : kk < 5 := hkk
        have qb := Lib.hid hI.2.1
        have y0 := qb.out.c0
        have y1 := qb.out.c1
        have y2 := qb.out.c2
        have y3 := qb.out.c3
        have y4 := qb.out.c4
        have y5 := qb.out.c5
        have y6 := qb.out.c6
        have y7 := qb.out.c7
        have y8 := qb.out.c8
        have y9 := qb.out.c9
        go_big_wp2_with fail
        refine hQ _ _ _ ?_ hI.id trivial rfl
        first | rfl | (simp [upd, LegV_eq, LegC]; done)
      · intro ff kk ww hkk hI hd QQ' hQ
        try dsimp only
        have hkk2 : kk < 5 := hkk
        go_big_wp2_with fail
        refine hQ _ _ _ ?_ hI.id trivial rfl
        first | rfl | (simp [upd]; done)
      · intro ff kk ww hkk hI hd QQ' hQ
        try dsimp only
        have hkk2 : kk < 5 := hkk
        have c1 : ff 1 = _ := hd.get (n := 1) (by decide)
        obtain ⟨qq, hqq, hrq⟩ := hI.1.1
        go_big_wp2_with fail
        refine (pick r b qq 10 ww hrq (by omega) (by omega) (by omega)).mono ?_
        rintro e wp ⟨xp, lp, up, rfl, hrp, hgp, -⟩
        have hI' := hI.gr hgp ⟨_, (by omega), hrp⟩
        clear hrp hrq
        go_big_wp2_with fail
        refine hQ _ _ wp ?_ hI' trivial ⟨xp, rfl⟩
        first | rfl | (simp [upd, c1]; done)
      · intro ff kk ww hkk hI hd QQ' hQ
        try dsimp only
        have hkk2 : kk < 5 := hkk
        have c0' : ff 0 = _ := hd.get (n := 0) (by decide)
        have hI' := hI.row HF
        obtain ⟨d0, p0, hbx, -⟩ := hI.1.2.2.1
        have hbx' : ww.heap[r]? = some (.cells (LegC d0 p0) 31 (0, 0)) := hbx
        rw [c0']
        unfold LegV
        go_big_wp2_with (first
          | (refine wpList_store_row rfl 31 _ _ rfl r (LegC d p) rfl rfl 31 (LegC d0 p0) hbx' legSize rfl (leg_one d p) ?_)
          | fail)
        refine hQ _ undef _ ?_ hI' trivial trivial
        first | rfl | (simp [upd, c0', LegV]; done)
      · intro ff kk ww hkk hI hd QQ' hQ
        try dsimp only
        have hkk2 : kk < 5 := hkk
        obtain ⟨y, c2⟩ := hd.get (n := 2) (by decide)
        have c2' : ff 2 = _ := c2
        go_big_wp2_with fail
        refine hQ _ _ _ ?_ hI.id trivial ⟨y, rfl⟩
        first | rfl | (simp [upd, c2']; done)
    case hendC =>
    intro ff kk ww hI hS
    try dsimp only
    obtain ⟨y, cz⟩ := hS 4 (by decide)
    have cz' : ff 4 = _ := cz
    obtain ⟨d2, p2, hbx, hf, hi, ho⟩ := hI.1.2.2.1
    have hpost : Hid (DrawnClass w (.returned (.tuple #[LegV d2 p2, .int .i64 y])) ww) := ⟨d2, p2, y, rfl, hf, hi, fun x hx => ho x (by have := hI.1.2.2.2; omega), hI.1.2.1⟩
    have hbx' : Hid (LegBx ww r 31 d2 p2) := hbx
    rw [cz']
    clear hS hI hf hi ho cz cz' hbx
    have v0 := hbx'.out.c0
    have v1 := hbx'.out.c1
    have v2 := hbx'.out.c2
    have v3 := hbx'.out.c3
    have v4 := hbx'.out.c4
    have v5 := hbx'.out.c5
    have v6 := hbx'.out.c6
    have v7 := hbx'.out.c7
    have v8 := hbx'.out.c8
    have v9 := hbx'.out.c9
    go_wp2_with fail
    refine bodyPost_ret (v := .tuple #[LegV d2 p2, .int .i64 y]) ?_ rfl hpost.out
    rw [LegV_eq]
    unfold LegC
    simp [results, Try.f25, go_sem, v0, v1, v2, v3, v4, v5, v6, v7, v8, v9]

set_option maxRecDepth 100000 in
set_option maxHeartbeats 8000000 in
theorem drawDrop (a0 : Option Addr) (len cap : Nat) (z : List Int) (w : World) (w0 : IsRow .u8 w a0 len cap z) :
    Calls Try.prog 28 #[.slice a0 len cap] w (DrawnClass w) := by
  have hb1 : Below w.heap.size w (w.alloc (.cells #[.string ⟨#[]⟩, .string ⟨#[]⟩, .string ⟨#[]⟩, .int .i64 0, .int .i64 0, .int .i64 0, .slice none 0 0, .slice none 0 0, .slice none 0 0, .slice none 0 0] 31)) := (Below.refl _ _).alloc (Nat.le_refl _) _
  have hR : (w.alloc (.cells #[.string ⟨#[]⟩, .string ⟨#[]⟩, .string ⟨#[]⟩, .int .i64 0, .int .i64 0, .int .i64 0, .slice none 0 0, .slice none 0 0, .slice none 0 0, .slice none 0 0] 31)).heap[w.heap.size]? = some (.cells #[.string ⟨#[]⟩, .string ⟨#[]⟩, .string ⟨#[]⟩, .int .i64 0, .int .i64 0, .int .i64 0, .slice none 0 0, .slice none 0 0, .slice none 0 0, .slice none 0 0] 31 (0, 0)) := heap_alloc_new w _
  have hrow := isRow_below w0 hb1
  have HB1 := Lib.hid hb1
  have HR := Lib.hid hR
  have HROW := Lib.hid hrow
  clear hb1 hR hrow w0
  go_enter Try.func28, Try.ntmps28
  go_wp2_with fail
  generalize w.alloc (.cells #[.string ⟨#[]⟩, .string ⟨#[]⟩, .string ⟨#[]⟩, .int .i64 0, .int .i64 0, .int .i64 0, .slice none 0 0, .slice none 0 0, .slice none 0 0, .slice none 0 0] 31) = w1 at *
  refine (drawKeep a0 len cap z w1 HROW.out).mono ?_
  rintro e w3 ⟨d, p, y, rfl, hfit, hin, hoff, hb3⟩
  have hlt := lt_heap HR.out
  have HB3 := Lib.hid (bt HB1.out hb3)
  have HR3 := Lib.hid ((hb3.block _ hlt).trans HR.out)
  have gr := grown_setRow w3 w.heap.size (LegC d p)
  have hpost : Hid (DrawnClass w (.returned (.tuple #[LegV d p, .int .i64 y])) (w3.setRow w.heap.size (LegC d p))) := ⟨d, p, y, rfl, hfit, hin.farX (hoff _ hlt) gr, fun x hx => hoff x (by omega), HB3.out.grown gr (by have := lt_heap HR3.out; omega) (fun k e => by cases e; exact Nat.le_refl _)⟩
  clear hlt hfit hin hoff hb3 gr
  unfold LegV
  go_wp2_with (first
    | (refine wpList_store_row rfl 31 _ _ rfl w.heap.size (LegC d p) rfl rfl 31 #[.string ⟨#[]⟩, .string ⟨#[]⟩, .string ⟨#[]⟩, .int .i64 0, .int .i64 0, .int .i64 0, .slice none 0 0, .slice none 0 0, .slice none 0 0, .slice none 0 0] HR3.out legSize rfl (leg_one1 _ _) ?_)
    | fail)
  have hbx' : Hid (LegBx (w3.setRow w.heap.size (LegC d p)) w.heap.size 31 d p) := setRow_heap w3 w.heap.size _ _ _ _ HR3.out
  generalize w3.setRow w.heap.size (LegC d p) = W10 at *
  have v0 := hbx'.out.c0
  have v1 := hbx'.out.c1
  have v2 := hbx'.out.c2
  have v3 := hbx'.out.c3
  have v4 := hbx'.out.c4
  have v5 := hbx'.out.c5
  have v6 := hbx'.out.c6
  have v7 := hbx'.out.c7
  have v8 := hbx'.out.c8
  have v9 := hbx'.out.c9
  refine bodyPost_ret (v := .tuple #[LegV d p, .int .i64 y]) ?_ rfl hpost.out
  rw [LegV_eq]
  unfold LegC
  simp [results, Try.f28, go_sem, v0, v1, v2, v3, v4, v5, v6, v7, v8, v9]

end Go.Proofs.Ytmlkjlipjkmcfaa
