/-
  The leg, what is to be held, and the share that are drawn.
-/
import Derived.Test.YtmlkjlipjkmcfaaDrawReg
import Derived.Test.YtmlkjlipjkmcfaaHoldFit
namespace Go.Proofs.Ytmlkjlipjkmcfaa
open Go.RowKit
set_option linter.unusedVariables false
set_option linter.unusedSimpArgs false

def HoldC (t c s : Int) : Array Value := #[.int .i64 t, .int .i64 c, .int .i64 s]
theorem holdc_one (t c s : Int) : (HoldC t c s).all (·.oneCell') = true := by simp [HoldC, Value.oneCell']
theorem holdcSize : (Try.prog.info? 35).map (·.size) = some 3 := by kernel_rfl
/-- What is to be held, in the result. -/
def HoldRes (r : Nat) (W : World) : Prop := ∃ t c s : Int, W.heap[r]? = some (.cells (HoldC t c s) 35 (0, 0))
theorem HoldRes.far {r x : Nat} {W W' : World} (h : HoldRes r W) (hg : W.grownBy W' (some x)) (hr : r ≠ x) : HoldRes r W' := by
  obtain ⟨t, c, s, h1⟩ := h
  exact ⟨t, c, s, (hg.block r (lt_heap h1) (fun e => hr (Option.some.inj e))).trans h1⟩
theorem HoldRes.below {r : Nat} {W W' : World} (h : HoldRes r W) (hb : Below W.heap.size W W') : HoldRes r W' := by
  obtain ⟨t, c, s, h1⟩ := h
  exact ⟨t, c, s, (hb.block r (lt_heap h1)).trans h1⟩
theorem HoldRes.lt {r : Nat} {W : World} (h : HoldRes r W) : r < W.heap.size := by
  obtain ⟨t, c, s, h1⟩ := h
  exact lt_heap h1
theorem HoldRes.row {r : Nat} {W : World} (h : HoldRes r W) (t c s : Int) : HoldRes r (W.setRow r (HoldC t c s)) := by
  obtain ⟨t0, c0, s0, h1⟩ := h
  exact ⟨t, c, s, setRow_heap W r _ _ _ _ h1⟩
def IHd (w0 : World) (B b r r2 : Nat) (k : Nat) (W : World) : Prop := IReg w0 B b r k W ∧ HoldRes r2 W ∧ (r < r2 ∧ r2 < b)
theorem IHd.id {w0 : World} {B b r r2 k : Nat} {W : World} (h : IHd w0 B b r r2 k W) : IHd w0 B b r r2 (k + 1) W := ⟨h.1.id, h.2⟩
theorem IHd.gr {w0 : World} {B b r r2 k : Nat} {W W' : World} (h : IHd w0 B b r r2 k W) (hg : W.grownBy W' (some b)) (hr : RdTo B (400 * (k + 1) + 400) b W') : IHd w0 B b r r2 (k + 1) W' :=
  ⟨h.1.gr hg hr, h.2.1.far hg (by have := h.2.2; omega), h.2.2⟩
theorem IHd.alloc {w0 : World} {B b r r2 k : Nat} {W : World} (h : IHd w0 B b r r2 k W) (o : Obj) : IHd w0 B b r r2 (k + 1) (W.alloc o) :=
  h.gr (World.grownBy_alloc W o _) ((h.1.1.alloc o).mono (by omega))
theorem IHd.row {w0 : World} {B b r r2 k : Nat} {W : World} (h : IHd w0 B b r r2 k W) {d : LegD} {p : LegP} (hf : Hid (SFit d p)) (hi : LegIn W d p) (ho : LegOffB b d p) : IHd w0 B b r r2 (k + 1) (W.setRow r (LegC d p)) :=
  ⟨h.1.row hf hi ho, h.2.1.far (grown_setRow W r _) (by have := h.2.2; omega), h.2.2⟩
theorem IHd.hrow {w0 : World} {B b r r2 k : Nat} {W : World} (h : IHd w0 B b r r2 k W) (t c s : Int) : IHd w0 B b r r2 (k + 1) (W.setRow r2 (HoldC t c s)) := by
  have q1 := h.2.2
  have q2 := h.1.2.2.2
  have hg := grown_setRow W r2 (HoldC t c s)
  exact ⟨⟨(h.1.1.row (by omega) (by omega) _).mono (by omega), h.1.2.1.grown hg h.1.2.1.size (fun k e => by cases e; omega), h.1.2.2.1.far hg (by omega) (by omega), q2⟩, h.2.1.row t c s, q1⟩
theorem IHd.below {w0 : World} {B b r r2 k : Nat} {W W' : World} (h : IHd w0 B b r r2 k W) (hb : Below W.heap.size W W') : IHd w0 B b r r2 k W' := ⟨h.1.below hb, h.2.1.below hb, h.2.2⟩
/-- A leg, what is to be held, and a share that were drawn. -/
def DrawnHold (w : World) (e : Ending) (w' : World) : Prop := ∃ d p, ∃ t c s sh : Int, e = .returned (.tuple #[LegV d p, .agg (HoldC t c s), .int .i64 sh]) ∧ Hid (SFit d p) ∧ LegIn w' d p ∧ Below w.heap.size w w'
def SHr (b : Nat) (i : Nat) (W : World) (v : Value) : Prop := match i with
  | 0 => v = .pointer (some ⟨b, 0, none⟩)
  | 1 => Ls3 b W v
  | 2 => v = .pointer (some ⟨b, 0, none⟩)
  | 3 => ∃ x : Int, 0 ≤ x ∧ x < 10 ∧ v = .int .i64 x
  | 4 => ∃ x : Int, v = .int .i64 x
  | 5 => v = .pointer (some ⟨b, 0, none⟩)
  | 6 => ∃ x : Int, 0 ≤ x ∧ x < 3 ∧ v = .int .i64 x
  | 7 => Ns3 b 3 W v
  | 8 => v = .pointer (some ⟨b, 0, none⟩)
  | 9 => ∃ x : Int, 0 ≤ x ∧ x < 12 ∧ v = .int .i64 x
  | 10 => ∃ x : Int, 0 ≤ x ∧ x < 34 ∧ v = .int .i64 x
  | 11 => ∃ x : Int, 0 ≤ x ∧ x < 3 ∧ v = .int .i64 x
  | 12 => Pt3 b 3 W v
  | 13 => ∃ x : Int, v = .int .i64 x
  | 14 => Ns3 b 6 W v
  | 15 => v = .pointer (some ⟨b, 0, none⟩)
  | 16 => ∃ x : Int, 0 ≤ x ∧ x < 6 ∧ v = .int .i64 x
  | 17 => Pt3 b 6 W v
  | 18 => ∃ x : Int, v = .int .i64 x
  | 19 => ∃ t c s : Int, v = .agg (HoldC t c s)
  | 20 => v = .pointer (some ⟨b, 0, none⟩)
  | 21 => ∃ x : Int, 0 ≤ x ∧ x < 900 ∧ v = .int .i64 x
  | 22 => Ns3 b 4 W v
  | 23 => v = .pointer (some ⟨b, 0, none⟩)
  | 24 => ∃ x : Int, 0 ≤ x ∧ x < 4 ∧ v = .int .i64 x
  | 25 => Pt3 b 4 W v
  | 26 => ∃ x : Int, v = .int .i64 x
  | 27 => True
  | 28 => True
  | 29 => ∃ x : Int, v = .int .i64 x
  | _ => True
theorem SHr.kept {b : Nat} {i : Nat} {W W' : World} {v : Value} (h : SHr b i W v) (hg : GrB b W W') : SHr b i W' v := by
  match i, h with
  | 0, h => exact h
  | 1, h => exact Ls3.kept h hg
  | 2, h => exact h
  | 3, h => exact h
  | 4, h => exact h
  | 5, h => exact h
  | 6, h => exact h
  | 7, h => exact Ns3.kept h hg
  | 8, h => exact h
  | 9, h => exact h
  | 10, h => exact h
  | 11, h => exact h
  | 12, h => exact Pt3.kept h hg
  | 13, h => exact h
  | 14, h => exact Ns3.kept h hg
  | 15, h => exact h
  | 16, h => exact h
  | 17, h => exact Pt3.kept h hg
  | 18, h => exact h
  | 19, h => exact h
  | 20, h => exact h
  | 21, h => exact h
  | 22, h => exact Ns3.kept h hg
  | 23, h => exact h
  | 24, h => exact h
  | 25, h => exact Pt3.kept h hg
  | 26, h => exact h
  | 27, h => exact h
  | 28, h => exact h
  | 29, h => exact h
  | i + 30, h => exact h
def SHp (b : Nat) (d : LegD) (p : LegP) (c : Int) (i : Nat) (W : World) (v : Value) : Prop := match i with
  | 0 => v = LegV d p
  | 1 => v = .int .i64 c
  | 2 => v = .pointer (some ⟨b, 0, none⟩)
  | 3 => ∃ x : Int, 0 ≤ x ∧ x < 2 ∧ v = .int .i64 x
  | 4 => ∃ x : Int, v = .int .i64 x
  | 5 => ∃ t c s : Int, v = .agg #[.int .i64 t, .int .i64 c, .int .i64 s]
  | _ => True
theorem SHp.kept {b : Nat} {d : LegD} {p : LegP} {c : Int} {i : Nat} {W W' : World} {v : Value} (h : SHp b d p c i W v) (hg : W.grownBy W' (some b)) : SHp b d p c i W' v := h
theorem hNfar {B b : Nat} {W W' : World} {d : LegD} {p : LegP} (h : LegNew B W d p) (hg : W.grownBy W' (some b)) (hb : b < B) : LegNew B W' d p := h.far hg (fun k e => by cases e; exact hb)
theorem legNew_off {B x : Nat} {W : World} {d : LegD} {p : LegP} (h : LegNew B W d p) (hx : x < B) : LegOff x d p := by
  obtain ⟨-, b1, b2, b3, b4, q1, q2, q3, q4, -, h1, h2, h3, h4⟩ := h
  refine ⟨fun h0 y hy => ?_, fun h0 y hy => ?_, fun h0 y hy => ?_, fun h0 y hy => ?_⟩
  · rcases h1 with h1 | ⟨g, ha, r1, -⟩
    · omega
    · rw [ha] at hy; cases hy; show g ≠ x; omega
  · rcases h2 with h1 | ⟨g, ha, r1, -⟩
    · omega
    · rw [ha] at hy; cases hy; show g ≠ x; omega
  · rcases h3 with h1 | ⟨g, ha, r1, -⟩
    · omega
    · rw [ha] at hy; cases hy; show g ≠ x; omega
  · rcases h4 with h1 | ⟨g, ha, r1, -⟩
    · omega
    · rw [ha] at hy; cases hy; show g ≠ x; omega
set_option maxRecDepth 100000 in
set_option maxHeartbeats 32000000 in
theorem drawHold (a0 : Option Addr) (len cap : Nat) (z : List Int) (w : World) (w0 : IsRow .u8 w a0 len cap z) :
    Calls Try.prog 19 #[.slice a0 len cap] w (DrawnHold w) := by
  have hb1 : Below w.heap.size w ((w.alloc (.cells #[.string ⟨#[]⟩, .string ⟨#[]⟩, .string ⟨#[]⟩, .int .i64 0, .int .i64 0, .int .i64 0, .slice none 0 0, .slice none 0 0, .slice none 0 0, .slice none 0 0] 31)).alloc (.cells #[.int .i64 0, .int .i64 0, .int .i64 0] 35)) := ((Below.refl _ _).alloc (Nat.le_refl _) _).alloc (by simp) _
  have hR : LegRes (w.heap.size + 1 + 1) w.heap.size ((w.alloc (.cells #[.string ⟨#[]⟩, .string ⟨#[]⟩, .string ⟨#[]⟩, .int .i64 0, .int .i64 0, .int .i64 0, .slice none 0 0, .slice none 0 0, .slice none 0 0, .slice none 0 0] 31)).alloc (.cells #[.int .i64 0, .int .i64 0, .int .i64 0] 35)) := (LegRes.zero (w.heap.size + 1 + 1) w).below ((Below.refl _ _).alloc (Nat.le_refl _) _)
  have hH : HoldRes (w.heap.size + 1) ((w.alloc (.cells #[.string ⟨#[]⟩, .string ⟨#[]⟩, .string ⟨#[]⟩, .int .i64 0, .int .i64 0, .int .i64 0, .slice none 0 0, .slice none 0 0, .slice none 0 0, .slice none 0 0] 31)).alloc (.cells #[.int .i64 0, .int .i64 0, .int .i64 0] 35)) := by
    have := heap_alloc_new (w.alloc (.cells #[.string ⟨#[]⟩, .string ⟨#[]⟩, .string ⟨#[]⟩, .int .i64 0, .int .i64 0, .int .i64 0, .slice none 0 0, .slice none 0 0, .slice none 0 0, .slice none 0 0] 31)) (.cells #[.int .i64 0, .int .i64 0, .int .i64 0] 35)
    rw [World.size_alloc] at this
    exact ⟨0, 0, 0, this⟩
  have hsz : ((w.alloc (.cells #[.string ⟨#[]⟩, .string ⟨#[]⟩, .string ⟨#[]⟩, .int .i64 0, .int .i64 0, .int .i64 0, .slice none 0 0, .slice none 0 0, .slice none 0 0, .slice none 0 0] 31)).alloc (.cells #[.int .i64 0, .int .i64 0, .int .i64 0] 35)).heap.size = w.heap.size + 1 + 1 := by simp
  have HB1 := Lib.hid hb1
  have HR := Lib.hid hR
  have HH := Lib.hid hH
  have HSZ := Lib.hid hsz
  clear hb1 hR hsz hH
  go_enter Try.func19, Try.ntmps19
  go_wp2_with fail
  generalize ((w.alloc (.cells #[.string ⟨#[]⟩, .string ⟨#[]⟩, .string ⟨#[]⟩, .int .i64 0, .int .i64 0, .int .i64 0, .slice none 0 0, .slice none 0 0, .slice none 0 0, .slice none 0 0] 31)).alloc (.cells #[.int .i64 0, .int .i64 0, .int .i64 0] 35)) = w1 at *
  refine (openedB a0 len cap z w w1 w0 HB1.out).mono ?_
  rintro e w2 ⟨rfl, hrd, hb2, hs2⟩
  clear w0
  rw [HSZ.out] at hrd
  have HI : Hid (IHd w w.heap.size (w.heap.size + 1 + 1) w.heap.size (w.heap.size + 1) 0 w2) := ⟨⟨⟨0, Nat.zero_le _, hrd⟩, HB1.out.trans (hb2.mono (by rw [HSZ.out]; omega)), HR.out.below hb2, by omega, Nat.le_refl _, Nat.le_refl _⟩, HH.out.below hb2, by omega⟩
  have HRD := Lib.hid hrd
  rw [HSZ.out]
  clear hrd hb2 hs2
  generalize hrr : w.heap.size = r at HI HRD ⊢
  generalize hr22 : r + 1 = r2 at HI HRD ⊢
  generalize hbb : r2 + 1 = b at HI HRD ⊢
  clear hrr hr22 hbb
  go_wp2_with fail
  refine (pick r b 0 6 w2 HRD.out (by omega) (by omega) (by omega)).mono ?_
  rintro e w3 ⟨x3, l3, u3, rfl, hr3, hg3, -⟩
  have HI3 : Hid (IHd w r b r r2 1 w3) := HI.out.gr hg3 ⟨_, (by omega), hr3⟩
  have HR3 := Lib.hid hr3
  clear hr3 hg3 HI HRD
  by_cases h3 : x3 = 0
  rotate_left
  · have z3 : (x3 == 0) = false := by simpa using h3
    have z3d : decide (x3 = 0) = false := decide_eq_false h3
    go_upto_region 15 with fail
    refine wp_region_free' (by kernel_rfl) (fun k W => IHd w r b r r2 (k + 1) W) (fun W W' => GrB b W W') (SHr b) (by kernel_rfl) (fun i k v W W' h _ hg => h.kept hg) (HI3.out.below ((Below.refl _ _).drew)) ?_
    apply Exists.intro
    apply And.intro
    · intro f
      simp only [over, List.set]
      exact rfl
    refine ⟨?hops, ?hend⟩
    case hops =>
      refine EachOp.cons ?_ (EachOp.cons ?_ (EachOp.cons ?_ (EachOp.cons ?_ (EachOp.cons ?_ (EachOp.cons ?_ (EachOp.cons ?_ (EachOp.cons ?_ (EachOp.cons ?_ (EachOp.cons ?_ (EachOp.cons ?_ (EachOp.cons ?_ (EachOp.cons ?_ (EachOp.cons ?_ (EachOp.cons ?_ (EachOp.cons ?_ (EachOp.cons ?_ (EachOp.cons ?_ (EachOp.cons ?_ (EachOp.cons ?_ (EachOp.cons ?_ (EachOp.cons ?_ (EachOp.cons ?_ (EachOp.cons ?_ (EachOp.cons ?_ (EachOp.cons ?_ (EachOp.cons ?_ (EachOp.cons ?_ (EachOp.cons ?_ (EachOp.cons ?_ (EachOp.nil))))))))))))))))))))))))))))))
      · intro ff kk ww hkk hI hd QQ' hQ
        try dsimp only
        have hkk2 : kk < 30 := hkk
        go_big_wp2_with fail
        refine hQ _ _ _ ?_ hI.id (GrB.id _) rfl
        first | rfl | (simp [upd]; done)
      · intro ff kk ww hkk hI hd QQ' hQ
        try dsimp only
        have hkk2 : kk < 30 := hkk
        have c0 : ff 0 = _ := hd.get (n := 0) (by decide)
        obtain ⟨qq, hqq, hrq⟩ := hI.1.1
        have hbl := hrq.le.2
        go_big_wp2_with fail
        refine (anyLeg r b qq ww hrq (by omega)).mono ?_
        rintro e wp ⟨d, p, rfl, hfp, hip, hop, hlp, hrp, hgp⟩
        have hI' := hI.gr hgp (hrp.mono (by omega))
        have ho3 : LegOffB b d p := fun x hx => hlp x (by omega)
        clear hrp hrq
        go_big_wp2_with fail
        refine hQ _ _ wp ?_ hI' (.b hgp) ⟨d, p, rfl, hfp, hip, ho3⟩
        first | rfl | (simp [upd, c0]; done)
      · intro ff kk ww hkk hI hd QQ' hQ
        try dsimp only
        have hkk2 : kk < 30 := hkk
        go_big_wp2_with fail
        refine hQ _ _ _ ?_ hI.id (GrB.id _) rfl
        first | rfl | (simp [upd]; done)
      · intro ff kk ww hkk hI hd QQ' hQ
        try dsimp only
        have hkk2 : kk < 30 := hkk
        have c2 : ff 2 = _ := hd.get (n := 2) (by decide)
        obtain ⟨qq, hqq, hrq⟩ := hI.1.1
        go_big_wp2_with fail
        refine (pick r b qq 10 ww hrq (by omega) (by omega) (by omega)).mono ?_
        rintro e wp ⟨xp, lp, up, rfl, hrp, hgp, -⟩
        have hI' := hI.gr hgp ⟨_, (by omega), hrp⟩
        clear hrp hrq
        go_big_wp2_with fail
        refine hQ _ _ wp ?_ hI' (.b hgp) ⟨xp, lp, up, rfl⟩
        first | rfl | (simp [upd, c2]; done)
      · intro ff kk ww hkk hI hd QQ' hQ
        try dsimp only
        have hkk2 : kk < 30 := hkk
        obtain ⟨x, x0, x1, c3⟩ := hd.get (n := 3) (by decide)
        have c3' : ff 3 = _ := c3
        have ew : IntKind.i64.wrap (1 + x) = 1 + x := IntWalk.i64_in _ (by omega)
        go_big_wp2_with fail
        refine hQ _ _ _ ?_ hI.id (GrB.id _) ⟨1 + x, rfl⟩
        first | rfl | (simp [upd, c3', ew]; done)
      · intro ff kk ww hkk hI hd QQ' hQ
        try dsimp only
        have hkk2 : kk < 30 := hkk
        go_big_wp2_with fail
        refine hQ _ _ _ ?_ hI.id (GrB.id _) rfl
        first | rfl | (simp [upd]; done)
      · intro ff kk ww hkk hI hd QQ' hQ
        try dsimp only
        have hkk2 : kk < 30 := hkk
        have c5 : ff 5 = _ := hd.get (n := 5) (by decide)
        obtain ⟨qq, hqq, hrq⟩ := hI.1.1
        go_big_wp2_with fail
        refine (pick r b qq 3 ww hrq (by omega) (by omega) (by omega)).mono ?_
        rintro e wp ⟨xp, lp, up, rfl, hrp, hgp, -⟩
        have hI' := hI.gr hgp ⟨_, (by omega), hrp⟩
        clear hrp hrq
        go_big_wp2_with fail
        refine hQ _ _ wp ?_ hI' (.b hgp) ⟨xp, lp, up, rfl⟩
        first | rfl | (simp [upd, c5]; done)
      · intro ff kk ww hkk hI hd QQ' hQ
        try dsimp only
        have hkk2 : kk < 30 := hkk
        obtain ⟨x6, l6, u6, c6⟩ := hd.get (n := 6) (by decide)
        have c6' : ff 6 = _ := c6
        have hgx := World.grownBy_alloc ww (.cells #[.int .i64 x6, .int .i64 (-1), .int .i64 3] 3) (some b)
        have hI' := hI.alloc (.cells #[.int .i64 x6, .int .i64 (-1), .int .i64 3] 3)
        have hl1 := hI.1.1.lt
        go_big_wp2_with fail
        refine hQ _ _ _ ?_ hI' (.b hgx) ⟨ww.heap.size, rfl, by omega, [x6, -1, 3], rfl, heap_alloc_new ww _⟩
        first | rfl | (simp [upd, c6']; done)
      · intro ff kk ww hkk hI hd QQ' hQ
        try dsimp only
        have hkk2 : kk < 30 := hkk
        go_big_wp2_with fail
        refine hQ _ _ _ ?_ hI.id (GrB.id _) rfl
        first | rfl | (simp [upd]; done)
      · intro ff kk ww hkk hI hd QQ' hQ
        try dsimp only
        have hkk2 : kk < 30 := hkk
        have c8 : ff 8 = _ := hd.get (n := 8) (by decide)
        obtain ⟨qq, hqq, hrq⟩ := hI.1.1
        go_big_wp2_with fail
        refine (pick r b qq 12 ww hrq (by omega) (by omega) (by omega)).mono ?_
        rintro e wp ⟨xp, lp, up, rfl, hrp, hgp, -⟩
        have hI' := hI.gr hgp ⟨_, (by omega), hrp⟩
        clear hrp hrq
        go_big_wp2_with fail
        refine hQ _ _ wp ?_ hI' (.b hgp) ⟨xp, lp, up, rfl⟩
        first | rfl | (simp [upd, c8]; done)
      · intro ff kk ww hkk hI hd QQ' hQ
        try dsimp only
        have hkk2 : kk < 30 := hkk
        obtain ⟨y, m0, m1, c9⟩ := hd.get (n := 9) (by decide)
        have c9' : ff 9 = _ := c9
        have ew : IntKind.i64.wrap (y * 3) = y * 3 := IntWalk.i64_in _ (by omega)
        go_big_wp2_with fail
        refine hQ _ _ _ ?_ hI.id (GrB.id _) ⟨y * 3, by omega, by omega, rfl⟩
        first | rfl | (simp [upd, c9', ew]; done)
      · intro ff kk ww hkk hI hd QQ' hQ
        try dsimp only
        have hkk2 : kk < 30 := hkk
        obtain ⟨y, m0, m1, c10⟩ := hd.get (n := 10) (by decide)
        have c10' : ff 10 = _ := c10
        have mt : y.tdiv 12 = y / 12 := Int.tdiv_eq_ediv_of_nonneg m0
        have mw : IntKind.i64.wrap (y / 12) = y / 12 := IntWalk.i64_in _ (by omega)
        have m2 : 0 ≤ y / 12 ∧ y / 12 < 3 := by omega
        go_big_wp2_with fail
        refine hQ _ _ _ ?_ hI.id (GrB.id _) ⟨y / 12, m2.1, m2.2, rfl⟩
        first | rfl | (simp [upd, c10', mt, mw]; done)
      · intro ff kk ww hkk hI hd QQ' hQ
        try dsimp only
        have hkk2 : kk < 30 := hkk
        obtain ⟨lb, ca, hlb, vs, hvl, hz⟩ := hd.get (n := 7) (by decide)
        obtain ⟨jj, hj0, hj1, cb⟩ := hd.get (n := 11) (by decide)
        obtain ⟨j, rfl⟩ := Int.eq_ofNat_of_zero_le hj0
        have hj : j < 3 := by omega
        have ca' : ff 7 = _ := ca
        have cb' : ff 11 = _ := cb
        have k1 : (j : Int) < 3 := by omega
        have k0 : (0 : Int) ≤ j := by omega
        go_big_wp2_with fail
        refine hQ _ _ _ ?_ hI.id (GrB.id _) ⟨lb, j, hj, rfl, hlb, vs, hvl, hz⟩
        first | rfl | (simp [upd, ca', cb']; done)
      · intro ff kk ww hkk hI hd QQ' hQ
        try dsimp only
        have hkk2 : kk < 30 := hkk
        obtain ⟨lb, j, hj, ca, hlb, vs, hvl, hz⟩ := hd.get (n := 12) (by decide)
        have ca' : ff 12 = _ := ca
        obtain ⟨yv, hy⟩ : ∃ yv, ww.cell? ⟨lb, j, none⟩ = some (.int .i64 yv) := ⟨_, pt_cell hvl hj hz⟩
        go_big_wp2_with fail
        refine hQ _ _ _ ?_ hI.id (GrB.id _) ⟨yv, rfl⟩
        first | rfl | (simp [upd, ca']; done)
      · intro ff kk ww hkk hI hd QQ' hQ
        try dsimp only
        have hkk2 : kk < 30 := hkk
        have hgx := World.grownBy_alloc ww (.cells #[.int .i64 1, .int .i64 2, .int .i64 (-1), .int .i64 0, .int .i64 3, .int .i64 (-2)] 3) (some b)
        have hI' := hI.alloc (.cells #[.int .i64 1, .int .i64 2, .int .i64 (-1), .int .i64 0, .int .i64 3, .int .i64 (-2)] 3)
        have hl1 := hI.1.1.lt
        go_big_wp2_with fail
        refine hQ _ _ _ ?_ hI' (.b hgx) ⟨ww.heap.size, rfl, by omega, [1, 2, -1, 0, 3, -2], rfl, heap_alloc_new ww _⟩
        first | rfl | (simp [upd]; done)
      · intro ff kk ww hkk hI hd QQ' hQ
        try dsimp only
        have hkk2 : kk < 30 := hkk
        go_big_wp2_with fail
        refine hQ _ _ _ ?_ hI.id (GrB.id _) rfl
        first | rfl | (simp [upd]; done)
      · intro ff kk ww hkk hI hd QQ' hQ
        try dsimp only
        have hkk2 : kk < 30 := hkk
        have c15 : ff 15 = _ := hd.get (n := 15) (by decide)
        obtain ⟨qq, hqq, hrq⟩ := hI.1.1
        go_big_wp2_with fail
        refine (pick r b qq 6 ww hrq (by omega) (by omega) (by omega)).mono ?_
        rintro e wp ⟨xp, lp, up, rfl, hrp, hgp, -⟩
        have hI' := hI.gr hgp ⟨_, (by omega), hrp⟩
        clear hrp hrq
        go_big_wp2_with fail
        refine hQ _ _ wp ?_ hI' (.b hgp) ⟨xp, lp, up, rfl⟩
        first | rfl | (simp [upd, c15]; done)
      · intro ff kk ww hkk hI hd QQ' hQ
        try dsimp only
        have hkk2 : kk < 30 := hkk
        obtain ⟨lb, ca, hlb, vs, hvl, hz⟩ := hd.get (n := 14) (by decide)
        obtain ⟨jj, hj0, hj1, cb⟩ := hd.get (n := 16) (by decide)
        obtain ⟨j, rfl⟩ := Int.eq_ofNat_of_zero_le hj0
        have hj : j < 6 := by omega
        have ca' : ff 14 = _ := ca
        have cb' : ff 16 = _ := cb
        have k1 : (j : Int) < 6 := by omega
        have k0 : (0 : Int) ≤ j := by omega
        go_big_wp2_with fail
        refine hQ _ _ _ ?_ hI.id (GrB.id _) ⟨lb, j, hj, rfl, hlb, vs, hvl, hz⟩
        first | rfl | (simp [upd, ca', cb']; done)
      · intro ff kk ww hkk hI hd QQ' hQ
        try dsimp only
        have hkk2 : kk < 30 := hkk
        obtain ⟨lb, j, hj, ca, hlb, vs, hvl, hz⟩ := hd.get (n := 17) (by decide)
        have ca' : ff 17 = _ := ca
        obtain ⟨yv, hy⟩ : ∃ yv, ww.cell? ⟨lb, j, none⟩ = some (.int .i64 yv) := ⟨_, pt_cell hvl hj hz⟩
        go_big_wp2_with fail
        refine hQ _ _ _ ?_ hI.id (GrB.id _) ⟨yv, rfl⟩
        first | rfl | (simp [upd, ca']; done)
      · intro ff kk ww hkk hI hd QQ' hQ
        try dsimp only
        have hkk2 : kk < 30 := hkk
        obtain ⟨x4, c4⟩ := hd.get (n := 4) (by decide)
        obtain ⟨x13, c13⟩ := hd.get (n := 13) (by decide)
        obtain ⟨x18, c18⟩ := hd.get (n := 18) (by decide)
        have c4' : ff 4 = _ := c4
        have c13' : ff 13 = _ := c13
        have c18' : ff 18 = _ := c18
        go_big_wp2_with fail
        refine hQ _ _ _ ?_ hI.id (GrB.id _) ⟨x4, x13, x18, rfl⟩
        first | rfl | (simp [upd, c4', c13', c18', HoldC]; done)
      · intro ff kk ww hkk hI hd QQ' hQ
        try dsimp only
        have hkk2 : kk < 30 := hkk
        go_big_wp2_with fail
        refine hQ _ _ _ ?_ hI.id (GrB.id _) rfl
        first | rfl | (simp [upd]; done)
      · intro ff kk ww hkk hI hd QQ' hQ
        try dsimp only
        have hkk2 : kk < 30 := hkk
        have c20 : ff 20 = _ := hd.get (n := 20) (by decide)
        obtain ⟨qq, hqq, hrq⟩ := hI.1.1
        go_big_wp2_with fail
        refine (pick r b qq 900 ww hrq (by omega) (by omega) (by omega)).mono ?_
        rintro e wp ⟨xp, lp, up, rfl, hrp, hgp, -⟩
        have hI' := hI.gr hgp ⟨_, (by omega), hrp⟩
        clear hrp hrq
        go_big_wp2_with fail
        refine hQ _ _ wp ?_ hI' (.b hgp) ⟨xp, lp, up, rfl⟩
        first | rfl | (simp [upd, c20]; done)
      · intro ff kk ww hkk hI hd QQ' hQ
        try dsimp only
        have hkk2 : kk < 30 := hkk
        obtain ⟨x21, l21, u21, c21⟩ := hd.get (n := 21) (by decide)
        have c21' : ff 21 = _ := c21
        have hgx := World.grownBy_alloc ww (.cells #[.int .i64 1000000000, .int .i64 x21, .int .i64 0, .int .i64 (-1)] 3) (some b)
        have hI' := hI.alloc (.cells #[.int .i64 1000000000, .int .i64 x21, .int .i64 0, .int .i64 (-1)] 3)
        have hl1 := hI.1.1.lt
        go_big_wp2_with fail
        refine hQ _ _ _ ?_ hI' (.b hgx) ⟨ww.heap.size, rfl, by omega, [1000000000, x21, 0, -1], rfl, heap_alloc_new ww _⟩
        first | rfl | (simp [upd, c21']; done)
      · intro ff kk ww hkk hI hd QQ' hQ
        try dsimp only
        have hkk2 : kk < 30 := hkk
        go_big_wp2_with fail
        refine hQ _ _ _ ?_ hI.id (GrB.id _) rfl
        first | rfl | (simp [upd]; done)
      · intro ff kk ww hkk hI hd QQ' hQ
        try dsimp only
        have hkk2 : kk < 30 := hkk
        have c23 : ff 23 = _ := hd.get (n := 23) (by decide)
        obtain ⟨qq, hqq, hrq⟩ := hI.1.1
        go_big_wp2_with fail
        refine (pick r b qq 4 ww hrq (by omega) (by omega) (by omega)).mono ?_
        rintro e wp ⟨xp, lp, up, rfl, hrp, hgp, -⟩
        have hI' := hI.gr hgp ⟨_, (by omega), hrp⟩
        clear hrp hrq
        go_big_wp2_with fail
        refine hQ _ _ wp ?_ hI' (.b hgp) ⟨xp, lp, up, rfl⟩
        first | rfl | (simp [upd, c23]; done)
      · intro ff kk ww hkk hI hd QQ' hQ
        try dsimp only
        have hkk2 : kk < 30 := hkk
        obtain ⟨lb, ca, hlb, vs, hvl, hz⟩ := hd.get (n := 22) (by decide)
        obtain ⟨jj, hj0, hj1, cb⟩ := hd.get (n := 24) (by decide)
        obtain ⟨j, rfl⟩ := Int.eq_ofNat_of_zero_le hj0
        have hj : j < 4 := by omega
        have ca' : ff 22 = _ := ca
        have cb' : ff 24 = _ := cb
        have k1 : (j : Int) < 4 := by omega
        have k0 : (0 : Int) ≤ j := by omega
        go_big_wp2_with fail
        refine hQ _ _ _ ?_ hI.id (GrB.id _) ⟨lb, j, hj, rfl, hlb, vs, hvl, hz⟩
        first | rfl | (simp [upd, ca', cb']; done)
      · intro ff kk ww hkk hI hd QQ' hQ
        try dsimp only
        have hkk2 : kk < 30 := hkk
        obtain ⟨lb, j, hj, ca, hlb, vs, hvl, hz⟩ := hd.get (n := 25) (by decide)
        have ca' : ff 25 = _ := ca
        obtain ⟨yv, hy⟩ : ∃ yv, ww.cell? ⟨lb, j, none⟩ = some (.int .i64 yv) := ⟨_, pt_cell hvl hj hz⟩
        go_big_wp2_with fail
        refine hQ _ _ _ ?_ hI.id (GrB.id _) ⟨yv, rfl⟩
        first | rfl | (simp [upd, ca']; done)
      · intro ff kk ww hkk hI hd QQ' hQ
        try dsimp only
        have hkk2 : kk < 30 := hkk
        obtain ⟨d, p, c1, hf, hi, ho⟩ := hd.get (n := 1) (by decide)
        have c1' : ff 1 = _ := c1
        have hI' := hI.row hf hi ho
        obtain ⟨d0, p0, hbx, -⟩ := hI.1.2.2.1
        have hbx' : ww.heap[r]? = some (.cells (LegC d0 p0) 31 (0, 0)) := hbx
        rw [c1']
        unfold LegV
        go_big_wp2_with (first
          | (refine wpList_store_row rfl 31 _ _ rfl r (LegC d p) rfl rfl 31 (LegC d0 p0) hbx' legSize rfl (leg_one d p) ?_)
          | fail)
        refine hQ _ undef _ ?_ hI' ⟨r, by have := hI.1.2.2.2; omega, grown_setRow ww r _⟩ trivial
        first | rfl | (simp [upd, c1', LegV]; done)
      · intro ff kk ww hkk hI hd QQ' hQ
        try dsimp only
        have hkk2 : kk < 30 := hkk
        obtain ⟨t, c, s, c19⟩ := hd.get (n := 19) (by decide)
        have c19' : ff 19 = _ := c19
        have hI' := hI.hrow t c s
        obtain ⟨t0, c0, s0, hbx⟩ := hI.2.1
        rw [c19']
        go_big_wp2_with (first
          | (refine wpList_store_row rfl 35 _ _ rfl r2 (HoldC t c s) rfl rfl 35 (HoldC t0 c0 s0) hbx holdcSize rfl (holdc_one t c s) ?_)
          | fail)
        refine hQ _ undef _ ?_ hI' ⟨r2, by have := hI.2.2; omega, grown_setRow ww r2 _⟩ trivial
        first | rfl | (simp [upd, c19']; done)
      · intro ff kk ww hkk hI hd QQ' hQ
        try dsimp only
        have hkk2 : kk < 30 := hkk
        obtain ⟨y, c26⟩ := hd.get (n := 26) (by decide)
        have c26' : ff 26 = _ := c26
        go_big_wp2_with fail
        refine hQ _ _ _ ?_ hI.id (GrB.id _) ⟨y, rfl⟩
        first | rfl | (simp [upd, c26']; done)
    case hend =>
    intro ff kk ww hI hS
    try dsimp only
    obtain ⟨y, cz⟩ := hS 29 (by decide)
    have cz' : ff 29 = _ := cz
    obtain ⟨d2, p2, hbx, hf, hi, ho⟩ := hI.1.2.2.1
    obtain ⟨t2, c2, s2, hhx⟩ := hI.2.1
    have hpost : Hid (DrawnHold w (.returned (.tuple #[LegV d2 p2, .agg (HoldC t2 c2 s2), .int .i64 y])) ww) := ⟨d2, p2, t2, c2, s2, y, rfl, hf, hi, hI.1.2.1⟩
    have hbx' : Hid (LegBx ww r 31 d2 p2) := hbx
    obtain ⟨u0, u1, u2⟩ := row3 hhx
    rw [cz']
    clear hS hI hf hi ho cz cz' hbx hhx
    have v0 := hbx'.out.c0
    have v1 := hbx'.out.c1
    have v2 := hbx'.out.c2
    have v3 := hbx'.out.c3
    have v4 := hbx'.out.c4
    have v5 := hbx'.out.c5
    have v6 := hbx'.out.c6
    have v7 := hbx'.out.c7
    have v8 := hbx'.out.c8
    have v9 := hbx'.out.c9
    go_wp2_with fail
    refine bodyPost_ret (v := .tuple #[LegV d2 p2, .agg (HoldC t2 c2 s2), .int .i64 y]) ?_ rfl hpost.out
    rw [LegV_eq]
    unfold LegC HoldC
    simp [results, Try.f19, go_sem, v0, v1, v2, v3, v4, v5, v6, v7, v8, v9, u0, u1, u2]

  have z3 : (x3 == 0) = true := by simpa using h3
  have z3d : decide (x3 = 0) = true := decide_eq_true h3
  clear h3
  go_wp2_with fail
  refine (pick r b _ 9 w3 HR3.out (by omega) (by omega) (by omega)).mono ?_
  rintro e w4 ⟨x4, l4, u4, rfl, hr4, hg4, -⟩
  go_wp2_with fail
  refine (drawLeg r b _ ⟨#[108, 97]⟩ ⟨#[120]⟩ ⟨#[121]⟩ x4 w4 hr4 (by omega) (by omega)).mono ?_
  rintro e w5 ⟨d, p, rfl, hf, hin, hoff, hcap, hrd, hg5⟩
  have hok : OkLeg d := okFresh hf.out (by decide) (by decide) (by decide) (by decide) (by omega)
  have hw5 := legRowBelow w5 (LegC d p)
  have hx5 : LegBox ((w5.alloc (.cells #[.string ⟨#[]⟩, .string ⟨#[]⟩, .string ⟨#[]⟩, .int .i64 0, .int .i64 0, .int .i64 0, .slice none 0 0, .slice none 0 0, .slice none 0 0, .slice none 0 0] 31)).setRow w5.heap.size (LegC d p)) w5.heap.size d p := legRowBox w5 d p
  have hI0 : SoldInv w3 r 30 b w5.heap.size d p ((w5.alloc (.cells #[.string ⟨#[]⟩, .string ⟨#[]⟩, .string ⟨#[]⟩, .int .i64 0, .int .i64 0, .int .i64 0, .slice none 0 0, .slice none 0 0, .slice none 0 0, .slice none 0 0] 31)).setRow w5.heap.size (LegC d p)) :=
    ⟨hx5, hin.kept hw5, hok, hcap, hoff, hin.off_new (Nat.le_refl _), (hrd.below hw5).mono (by omega), grown_trans (grown_trans hg4 hg5) (grown_below hw5 b), ⟨HR3.out.le.2, by have := hg4.size; have := hg5.size; omega⟩⟩
  have HI0 := Lib.hid hI0
  have HX := Lib.hid hx5
  clear hI0 hw5 hrd hin hoff hg4 hg5 hr4 hf hx5 hok hcap
  unfold LegV
  have x0 := HX.out.c0
  have x1 := HX.out.c1
  have x2 := HX.out.c2
  have x3 := HX.out.c3
  have x4 := HX.out.c4
  have x5 := HX.out.c5
  have x6 := HX.out.c6
  have x7 := HX.out.c7
  have x8 := HX.out.c8
  have x9 := HX.out.c9
  go_wp2_with (first
    | (refine wpList_store_row rfl 31 _ _ rfl w5.heap.size (LegC d p) rfl rfl 31 #[.string ⟨#[]⟩, .string ⟨#[]⟩, .string ⟨#[]⟩, .int .i64 0, .int .i64 0, .int .i64 0, .slice none 0 0, .slice none 0 0, .slice none 0 0, .slice none 0 0] (heap_alloc_new w5 _) legSize rfl (leg_one d p) ?_)
    | fail)
  clear x0 x1 x2 x3 x4 x5 x6 x7 x8 x9
  clear HX
  generalize (w5.alloc (.cells #[.string ⟨#[]⟩, .string ⟨#[]⟩, .string ⟨#[]⟩, .int .i64 0, .int .i64 0, .int .i64 0, .slice none 0 0, .slice none 0 0, .slice none 0 0, .slice none 0 0] 31)).setRow w5.heap.size (LegC d p) = X6 at *
  generalize w5.heap.size = bx at *
  obtain ⟨q6, hq6, hr6⟩ := HI0.out.rd
  refine (pick r b q6 3 X6 hr6 (by omega) (by omega) (by omega)).mono ?_
  rintro e w7 ⟨xc, lc, uc, rfl, hr7, hg7, -⟩
  have HI7 := Lib.hid (HI0.out.far hg7 (Q' := 31) ⟨_, (by omega), hr7⟩)
  clear hr6 hr7 hg7 HI0
  obtain ⟨q7, hq7, hr7⟩ := HI7.out.rd
  go_wp2_with fail
  refine (pick r b q7 3 w7 hr7 (by omega) (by omega) (by omega)).mono ?_
  rintro e w8 ⟨xn, ln, un, rfl, hr8, hg8, -⟩
  have HI8 := Lib.hid (HI7.out.far hg8 (Q' := 32) ⟨_, (by omega), hr8⟩)
  clear hr7 hr8 hg8 HI7
  obtain ⟨m0, rfl⟩ := Int.eq_ofNat_of_zero_le ln
  have em0 : IntKind.i64.wrap (1 + (m0 : Int)) = ((1 + m0 : Nat) : Int) := by rw [IntWalk.i64_in _ (by omega)]; omega
  generalize hd0 : d = dX at *
  generalize hp0x : p = pX at *
  go_wp2_with fail
  go_loopw [8] (fun v wr => ∃ (m : Nat) (d : LegD) (p : LegP), v = .int .i64 m ∧ m ≤ 3 ∧ Hid (SoldInv w3 r 32 b bx d p wr)) (fun v _ => (intOf v).toNat)
  case atStart => exact ⟨1 + m0, dX, pX, by first | rfl | (simp only [em0]; done) | (rw [em0]), by omega, HI8.out⟩
  case round =>
    obtain ⟨m, d, p, rfl, hm4, hI⟩ := hrel
    rcases Nat.lt_or_ge 0 m with hlt | hge
    · have zm : decide (0 < (m : Int)) = true := decide_eq_true (by omega)
      have zmn : decide (0 < m) = true := decide_eq_true hlt
      have em : IntKind.i64.wrap ((m : Int) - 1) = ((m - 1 : Nat) : Int) := by rw [IntWalk.i64_in _ (by omega)]; omega
      have HBX : Hid (LegBx wr bx 31 d p) := hI.out.box
      have hat := Lib.hid (hI.out.leg.at0 (Nat.le_refl _))
      have x0 := HBX.out.c0
      have x1 := HBX.out.c1
      have x2 := HBX.out.c2
      have x3 := HBX.out.c3
      have x4 := HBX.out.c4
      have x5 := HBX.out.c5
      have x6 := HBX.out.c6
      have x7 := HBX.out.c7
      have x8 := HBX.out.c8
      have x9 := HBX.out.c9
      go_wp2_with fail
      refine (holdM d p 1 xc 1 1000000000 wr hI.out.leg hI.out.ok hI.out.cap).mono ?_
      rintro e wg ⟨⟨dd, q, bb, rfl, hHI, hc2, hmv, hnew, hin2⟩, dg⟩
      have HG := Lib.hid (gSold (b := b) (bx := bx) hI.out.ok hI.out.offb hI.out.offx hat.out hI.out.rd.lt (lt_heap hI.out.box) hHI.out hc2 hmv hnew hin2)
      have HIg := Lib.hid (hI.out.below dg)
      clear hHI hc2 hmv hnew hin2 dg hat
      clear x0 x1 x2 x3 x4 x5 x6 x7 x8 x9
      clear HBX
      have hbXY := legRowBelow wg (LegC dd q)
      have hXY : LegBx ((wg.alloc (.cells #[.string ⟨#[]⟩, .string ⟨#[]⟩, .string ⟨#[]⟩, .int .i64 0, .int .i64 0, .int .i64 0, .slice none 0 0, .slice none 0 0, .slice none 0 0, .slice none 0 0] 31)).setRow wg.heap.size (LegC dd q)) wg.heap.size 31 dd q := legRowBox wg dd q
      have HIy := Lib.hid (HIg.out.below hbXY)
      have HLy := Lib.hid (HG.out.2.1.kept hbXY)
      have HBY := Lib.hid hXY
      clear hXY hbXY
      unfold LegV
      have x0 := HBY.out.c0
      have x1 := HBY.out.c1
      have x2 := HBY.out.c2
      have x3 := HBY.out.c3
      have x4 := HBY.out.c4
      have x5 := HBY.out.c5
      have x6 := HBY.out.c6
      have x7 := HBY.out.c7
      have x8 := HBY.out.c8
      have x9 := HBY.out.c9
      cases bb with
      | false =>
        go_wp2_with (first
          | (refine wpList_store_row rfl 31 _ _ rfl wg.heap.size (LegC dd q) rfl rfl 31 #[.string ⟨#[]⟩, .string ⟨#[]⟩, .string ⟨#[]⟩, .int .i64 0, .int .i64 0, .int .i64 0, .slice none 0 0, .slice none 0 0, .slice none 0 0, .slice none 0 0] (heap_alloc_new wg _) legSize rfl (leg_one dd q) ?_)
          | fail)
        go_roundw
        case rel => exact ⟨m - 1, d, p, by first | rfl | go_num, by omega, HIy.out⟩
        case measure => simp [intOf]; omega
      | true =>
        go_wp2_with (first
          | (refine wpList_store_row rfl 31 _ _ rfl wg.heap.size (LegC dd q) rfl rfl 31 #[.string ⟨#[]⟩, .string ⟨#[]⟩, .string ⟨#[]⟩, .int .i64 0, .int .i64 0, .int .i64 0, .slice none 0 0, .slice none 0 0, .slice none 0 0, .slice none 0 0] (heap_alloc_new wg _) legSize rfl (leg_one dd q) ?_)
          | fail)
        generalize (wg.alloc (.cells #[.string ⟨#[]⟩, .string ⟨#[]⟩, .string ⟨#[]⟩, .int .i64 0, .int .i64 0, .int .i64 0, .slice none 0 0, .slice none 0 0, .slice none 0 0, .slice none 0 0] 31)).setRow wg.heap.size (LegC dd q) = wy at *
        clear x0 x1 x2 x3 x4 x5 x6 x7 x8 x9
        have hby : b < wy.heap.size := HIy.out.rd.lt
        have hbxy : bx < wy.heap.size := lt_heap HIy.out.box
        refine (keepM dd q 1 wy HLy.out HG.out.1 HG.out.2.2.1).mono ?_
        rintro e wk ⟨⟨q2, rfl, hin3, hc3, hmv3⟩, dk⟩
        have hlk : Like dd (keepD dd 1) := by unfold keepD; split <;> exact ⟨rfl, rfl, rfl⟩
        have hck : q2.aH = q.aH → dd.nH = 0 → (keepD dd 1).nH = 0 ∨ NewAt wy q2.aH := by
          intro _ h0
          left
          unfold keepD
          rw [if_neg (by omega)]
          exact h0
        have HIk := Lib.hid (HIy.out.below dk)
        have HPut := Lib.hid ((HIy.out.below dk).put hin3 (okLeg_keep HG.out.1 1) hc3 (HG.out.2.2.2.1.moved hlk hmv3 hck hby) (HG.out.2.2.2.2.1.moved hlk hmv3 hck hbxy))
        clear hin3 hc3 hmv3 dk hlk hck hby hbxy
        unfold LegV
        go_wp2_with (first
          | (refine wpList_store_row rfl 31 _ _ rfl bx (LegC (keepD dd 1) q2) rfl rfl 31 (LegC d p) HIk.out.box legSize rfl (leg_one (keepD dd 1) q2) ?_)
          | fail)
        go_roundw
        case rel => exact ⟨m - 1, keepD dd 1, q2, by first | rfl | go_num, by omega, HPut.out⟩
        case measure => simp [intOf]; omega
    · have zm : decide (0 < (m : Int)) = false := decide_eq_false (by omega)
      have zmn : decide (0 < m) = false := decide_eq_false (by omega)
      have inv5 := hI
      have hbN : b < wr.heap.size := hI.out.rd.lt
      have HB : ∀ r, some b = some r → r < wr.heap.size := fun r e => by cases e; exact hbN
      have hat5 := Lib.hid (hI.out.leg.at0 (Nat.le_refl _))
      clear hm4 hge
      go_upto_region 11 with fail
      refine wp_region_invK (by kernel_rfl) (fun k L f W => T2 6 wr.heap.size (some b) (fun k W => SoldInv w3 r (32 + k) b bx d p W) (SHp b d p xc) (GSold wr.heap.size b bx) k L f W) (by kernel_rfl) (T2.begin (Nat.le_refl _) inv5.out.drew) ?_
      apply Exists.intro
      apply And.intro
      · intro f
        simp only [over, List.set]
        exact rfl
      refine ⟨?hops, ?hend⟩
      case hops =>
        refine EachOp.cons ?_ (EachOp.cons ?_ (EachOp.cons ?_ (EachOp.cons ?_ (EachOp.cons ?_ (EachOp.cons ?_ (EachOp.cons ?_ (EachOp.cons ?_ (EachOp.cons ?_ (EachOp.cons ?_ (EachOp.cons ?_ (EachOp.cons ?_ (EachOp.cons ?_ (EachOp.nil)))))))))))))
        · intro L ff kk ww hkk hJ hcl hLi hwt QQ' hQ
          try dsimp only
          have hkk2 : kk < 13 := hkk
          have y0 := (Lib.hid hJ.inv.box).out.c0
          have y1 := (Lib.hid hJ.inv.box).out.c1
          have y2 := (Lib.hid hJ.inv.box).out.c2
          have y3 := (Lib.hid hJ.inv.box).out.c3
          have y4 := (Lib.hid hJ.inv.box).out.c4
          have y5 := (Lib.hid hJ.inv.box).out.c5
          have y6 := (Lib.hid hJ.inv.box).out.c6
          have y7 := (Lib.hid hJ.inv.box).out.c7
          have y8 := (Lib.hid hJ.inv.box).out.c8
          have y9 := (Lib.hid hJ.inv.box).out.c9
          go_big_wp2_with fail
          refine hQ _ _ _ ?_ (hJ.pre_id (i := 0) (by decide) HB (hJ.inv.mono (by omega)) rfl)
          first | rfl | (simp [upd]; done)
        · intro L ff kk ww hkk hJ hcl hLi hwt QQ' hQ
          try dsimp only
          have hkk2 : kk < 13 := hkk
          go_big_wp2_with fail
          refine hQ _ _ _ ?_ (hJ.pre_id (i := 1) (by decide) HB (hJ.inv.mono (by omega)) rfl)
          first | rfl | (simp [upd]; done)
        · intro L ff kk ww hkk hJ hcl hLi hwt QQ' hQ
          try dsimp only
          have hkk2 : kk < 13 := hkk
          go_big_wp2_with fail
          refine hQ _ _ _ ?_ (hJ.pre_id (i := 2) (by decide) HB (hJ.inv.mono (by omega)) rfl)
          first | rfl | (simp [upd]; done)
        · intro L ff kk ww hkk hJ hcl hLi hwt QQ' hQ
          try dsimp only
          have hkk2 : kk < 13 := hkk
          have n11 : L 11 = false := by
            cases hx : L 11 with
            | false => rfl
            | true =>
              have h11x := hx
              have h3x : L 3 = true := hcl 11 _ rfl h11x 3 (by decide)
              have h2 : L 3 = false := hLi
              rw [h3x] at h2; cases h2
          have c2 : ff 2 = _ := hJ.pre 2 (by decide) (hwt 2 (by decide)) n11
          obtain ⟨qq, hqq, hrq⟩ := hJ.inv.rd
          go_big_wp2_with fail
          refine (pick r b qq 2 ww hrq (by omega) (by omega) (by omega)).mono ?_
          rintro e wp ⟨xp, lp, up, rfl, hrp, hgp, -⟩
          have hI' := hJ.inv.far (Q' := 32 + (kk + 1)) hgp ⟨_, (by omega), hrp⟩
          clear hrp hrq
          go_big_wp2_with fail
          refine hQ _ _ wp ?_ (hJ.pre_op (i := 3) (by decide) hgp HB (fun j v h => h.kept hgp) (fun lo hi dd q bb _ h => h.kept hgp) hI' ⟨xp, lp, up, rfl⟩)
          first | rfl | (simp [upd, c2]; done)
        · intro L ff kk ww hkk hJ hcl hLi hwt QQ' hQ
          try dsimp only
          have hkk2 : kk < 13 := hkk
          have n11 : L 11 = false := by
            cases hx : L 11 with
            | false => rfl
            | true =>
              have h11x := hx
              have h4x : L 4 = true := hcl 11 _ rfl h11x 4 (by decide)
              have h2 : L 4 = false := hLi
              rw [h4x] at h2; cases h2
          obtain ⟨x, x0, x1, c3⟩ := hJ.pre 3 (by decide) (hwt 3 (by decide)) n11
          have c3' : ff 3 = _ := c3
          have ew : IntKind.i64.wrap (-1 - x) = -1 - x := IntWalk.i64_in _ (by omega)
          go_big_wp2_with fail
          refine hQ _ _ _ ?_ (hJ.pre_id (i := 4) (by decide) HB (hJ.inv.mono (by omega)) ⟨-1 - x, rfl⟩)
          first | rfl | (simp [upd, c3', ew]; done)
        · intro L ff kk ww hkk hJ hcl hLi hwt QQ' hQ
          try dsimp only
          have hkk2 : kk < 13 := hkk
          have n11 : L 11 = false := by
            cases hx : L 11 with
            | false => rfl
            | true =>
              have h11x := hx
              have h5x : L 5 = true := hcl 11 _ rfl h11x 5 (by decide)
              have h2 : L 5 = false := hLi
              rw [h5x] at h2; cases h2
          obtain ⟨x4, c4⟩ := hJ.pre 4 (by decide) (hwt 4 (by decide)) n11
          have c4' : ff 4 = _ := c4
          have c1 : ff 1 = _ := hJ.pre 1 (by decide) (hwt 1 (by decide)) n11
          go_big_wp2_with fail
          refine hQ _ _ _ ?_ (hJ.pre_id (i := 5) (by decide) HB (hJ.inv.mono (by omega)) ⟨2, xc, x4, rfl⟩)
          first | rfl | (simp [upd, c4', c1]; done)
        · intro L ff kk ww hkk hJ hcl hLi hwt QQ' hQ
          try dsimp only
          have hkk2 : kk < 13 := hkk
          have n11 : L 11 = false := by
            cases hx : L 11 with
            | false => rfl
            | true =>
              have h11x := hx
              have h6x : L 6 = true := hcl 11 _ rfl h11x 6 (by decide)
              have h2 : L 6 = false := hLi
              rw [h6x] at h2; cases h2
          have n7 : L 7 = false := by
            cases hx : L 7 with
            | false => rfl
            | true =>
              have h7x := hx
              have h6x : L 6 = true := hcl 7 _ rfl h7x 6 (by decide)
              have h2 : L 6 = false := hLi
              rw [h6x] at h2; cases h2
          have n8 : L 8 = false := by
            cases hx : L 8 with
            | false => rfl
            | true =>
              have h8x := hx
              have h7x : L 7 = true := hcl 8 _ rfl h8x 7 (by decide)
              have h6x : L 6 = true := hcl 7 _ rfl h7x 6 (by decide)
              have h2 : L 6 = false := hLi
              rw [h6x] at h2; cases h2
          have n9 : L 9 = false := by
            cases hx : L 9 with
            | false => rfl
            | true =>
              have h9x := hx
              have h7x : L 7 = true := hcl 9 _ rfl h9x 7 (by decide)
              have h6x : L 6 = true := hcl 7 _ rfl h7x 6 (by decide)
              have h2 : L 6 = false := hLi
              rw [h6x] at h2; cases h2
          have n12 : L 12 = false := by
            cases hx : L 12 with
            | false => rfl
            | true =>
              have h12x := hx
              have h9x : L 9 = true := hcl 12 _ rfl h12x 9 (by decide)
              have h7x : L 7 = true := hcl 9 _ rfl h9x 7 (by decide)
              have h6x : L 6 = true := hcl 7 _ rfl h7x 6 (by decide)
              have h2 : L 6 = false := hLi
              rw [h6x] at h2; cases h2
          have c0 : ff 0 = _ := hJ.pre 0 (by decide) (hwt 0 (by decide)) n11
          obtain ⟨t, c, s, c5⟩ := hJ.pre 5 (by decide) (hwt 5 (by decide)) n11
          have c5' : ff 5 = _ := c5
          have hI2 := hJ.inv
          have hat5' := hat5.out
          go_big_wp2_with fail
          refine (holdM d p t c s 0 ww hI2.leg hI2.ok hI2.cap).mono ?_
          rintro e wg ⟨⟨dd, q, bb, rfl, hHI, hc2, hmv, hnew, hin2⟩, dg⟩
          have hG := gSold hI2.ok hI2.offb hI2.offx hat5' (by have := hJ.size; omega) (lt_heap hI2.box) hHI.out hc2 hmv hnew hin2
          have hI' := (hI2.below dg).mono (Q' := 32 + (kk + 1)) (by omega)
          have hg := grown_below dg b
          clear hin2 hmv hnew dg
          go_big_wp2_with fail
          refine hQ _ _ wg ?_ (hJ.call_op n7 n8 n9 n11 n12 hg HB (fun j v h => h.kept hg) hI' hG)
          first | rfl | (simp [upd, c0, c5']; done)
        · intro L ff kk ww hkk hJ hcl hLi hwt QQ' hQ
          try dsimp only
          have hkk2 : kk < 13 := hkk
          have hm : L 6 = true := hwt 6 (by decide)
          go_big_wp2_with fail
          refine hQ _ _ _ ?_ (hJ.mv hm (hJ.inv.mono (by omega)))
          first | rfl | (simp [upd]; done)
        · intro L ff kk ww hkk hJ hcl hLi hwt QQ' hQ
          try dsimp only
          have hkk2 : kk < 13 := hkk
          have n11 : L 11 = false := by
            cases hx : L 11 with
            | false => rfl
            | true =>
              have h11x := hx
              have h8x : L 8 = true := hcl 11 _ rfl h11x 8 (by decide)
              have h2 : L 8 = false := hLi
              rw [h8x] at h2; cases h2
          have h1 : L 7 = true := hwt 7 (by decide)
          have hm : L 6 = true := hcl 7 _ rfl h1 6 (by decide)
          obtain ⟨dd, q, bb, c6, hN⟩ := hJ.ex0 hm h1 n11 (hJ.inv.mono (by omega))
          have c6' : ff 7 = _ := c6
          go_big_wp2_with fail
          refine hQ _ _ _ ?_ hN
          first | rfl | (simp [upd, c6']; done)
        · intro L ff kk ww hkk hJ hcl hLi hwt QQ' hQ
          try dsimp only
          have hkk2 : kk < 13 := hkk
          have h1 : L 7 = true := hwt 7 (by decide)
          have hm : L 6 = true := hcl 7 _ rfl h1 6 (by decide)
          obtain ⟨dd, q, bb, c5, c6, -⟩ := hJ.bool hm
          have c6' : ff 7 = _ := c6 h1
          clear c6
          have hN := hJ.ex1 hm c5 (.inl rfl) (hJ.inv.mono (by omega))
          clear c5
          go_big_wp2_with fail
          refine hQ _ _ _ ?_ hN
          first | rfl | (simp [upd, c6']; done)
        · intro L ff kk ww hkk hJ hcl hLi hwt QQ' hQ
          try dsimp only
          have hkk2 : kk < 13 := hkk
          have n11 : L 11 = false := by
            cases hx : L 11 with
            | false => rfl
            | true =>
              have h11x := hx
              have h10x : L 10 = true := hcl 11 _ rfl h11x 10 (by decide)
              have h2 : L 10 = false := hLi
              rw [h10x] at h2; cases h2
          have hg := World.grownBy_alloc ww (.cells ZLeg 31) (some b)
          have hN := hJ.alloc hLi n11 (fun j v h => h.kept hg) (fun lo hi dd q bb _ h => h.kept hg) ((hJ.inv.below ((Below.refl _ _).alloc (Nat.le_refl _) _)).mono (by omega))
          go_big_wp2_with fail
          exact hQ _ _ _ rfl hN
        · intro L ff kk ww hkk hJ hcl hLi hwt QQ' hQ
          try dsimp only
          have hkk2 : kk < 13 := hkk
          have hm : L 6 = true := hwt 6 (by decide)
          obtain ⟨ybx, dd, q, c9, c7, hN9, hz, hst⟩ := hJ.store hm (hwt 8 (by decide)) (hwt 10 (by decide)) hLi
          have c9' : ff 10 = _ := c9
          have c7' : ff 8 = _ := c7
          have hN := hst undef (fun lo hi bb _ hd h => h.row (LegC dd q) hN9 hd) ((hJ.inv.row (LegC dd q) (by have := lt_heap inv5.out.box; omega) (inv5.out.leg.off_new hN9)).mono (by omega))
          rw [c9', c7']
          unfold LegV
          go_big_wp2_with (first
            | (refine wpList_store_row rfl 31 _ _ rfl ybx (LegC dd q) rfl rfl 31 ZLeg hz legSize rfl (leg_one dd q) ?_)
            | fail)
          refine hQ _ undef _ ?_ hN
          first | rfl | (simp [upd, c9', c7', LegV]; done)
        · intro L ff kk ww hkk hJ hcl hLi hwt QQ' hQ
          try dsimp only
          have hkk2 : kk < 13 := hkk
          have h3 : L 9 = true := hwt 9 (by decide)
          have h1 : L 7 = true := hcl 9 _ rfl h3 7 (by decide)
          have hm : L 6 = true := hcl 7 _ rfl h1 6 (by decide)
          obtain ⟨dd, q, bb, c5, -, c8⟩ := hJ.bool hm
          have c8' : ff 9 = _ := c8 h3
          clear c8
          have hN := hJ.ex1 hm c5 (.inr rfl) (hJ.inv.mono (by omega))
          clear c5
          go_big_wp2_with fail
          refine hQ _ _ _ ?_ hN
          first | rfl | (simp [upd, c8']; done)
      case hend =>
      intro L ff kk w7 hkb hL hJ
      try dsimp only
      have hkb' : kk ≤ 13 := hkb
      obtain ⟨ybx, dd, q, bb, lo, hi2, r1, sb, sl, sh, sd, r6, hG, -, -, -, r11⟩ := hJ.done (hL 11 (by decide))
      have e17 : ff 12 = _ := r11 (hL 12 (by decide))
      have r1' : ff 10 = _ := r1
      rw [r1', e17]
      have inv7 := Lib.hid (hJ.inv.mono (Q' := 50) (by omega))
      have HG7 := Lib.hid hG
      have HB7 : Hid (LegBx w7 ybx 31 dd q) := r6
      clear r1 r1' e17 r11 hJ hL hG r6
      cases bb with
      | false =>
        have HBF : Hid (LegBx w7 bx 31 d p) := inv7.out.box
        have x0 := HBF.out.c0
        have x1 := HBF.out.c1
        have x2 := HBF.out.c2
        have x3 := HBF.out.c3
        have x4 := HBF.out.c4
        have x5 := HBF.out.c5
        have x6 := HBF.out.c6
        have x7 := HBF.out.c7
        have x8 := HBF.out.c8
        have x9 := HBF.out.c9
        go_wp2_with fail
        refine (copyM d p w7 inv7.out.leg inv7.out.ok.2.1.2.1 inv7.out.ok.2.1.2.2.1 (by have := inv7.out.ok.2.1.2.2.2.2.1; omega) (by have := inv7.out.ok.2.1.2.2.2.2.1; omega) (by have := inv7.out.ok.2.2.1.1; omega)).mono ?_
        rintro e wc ⟨pc, rfl, hnc, dc⟩
        have HIc := Lib.hid (inv7.out.below dc)
        have HNc := Lib.hid hnc
        have HSz : Hid (b < w7.heap.size) := inv7.out.rd.lt
        have HFc : Hid (SFit d pc) := ⟨okLeg_fits inv7.out.ok, hnc.1.2.1, hnc.1.2.2.2⟩
        clear hnc dc
        clear x0 x1 x2 x3 x4 x5 x6 x7 x8 x9
        obtain ⟨qc, hqc, hrc⟩ := HIc.out.rd
        go_wp2_with fail
        refine (pick r b qc 3 wc hrc (by omega) (by omega) (by omega)).mono ?_
        rintro e wd ⟨xt, lt, ut, rfl, hrd, hgd, -⟩
        have HId := Lib.hid (HIc.out.far hgd (Q' := 60) ⟨_, (by omega), hrd⟩)
        have HNd := Lib.hid (hNfar HNc.out hgd HSz.out)
        have ewt : IntKind.i64.wrap (3 + xt) = 3 + xt := IntWalk.i64_in _ (by omega)
        clear hrc hrd hgd
        obtain ⟨qd, hqd, hrd⟩ := HId.out.rd
        go_wp2_with fail
        refine (pick r b qd 2 wd hrd (by omega) (by omega) (by omega)).mono ?_
        rintro e we ⟨xs, ls, us, rfl, hre, hge, -⟩
        have HIe := Lib.hid (HId.out.far hge (Q' := 61) ⟨_, (by omega), hre⟩)
        have HNe := Lib.hid (hNfar HNd.out hge HSz.out)
        have ews : IntKind.i64.wrap (-1 - xs) = -1 - xs := IntWalk.i64_in _ (by omega)
        clear hrd hre hge
        have HGR : Hid (IHd w r b r r2 1 we) := ⟨⟨HIe.out.rd.mono (by omega), HI3.out.1.2.1.grown HIe.out.gr HI3.out.1.2.1.size (fun k e => by cases e; have := HI3.out.1.2.2.2; omega), HI3.out.1.2.2.1.far HIe.out.gr (Nat.le_refl _) (by have := HI3.out.1.2.2.2; omega), HI3.out.1.2.2.2⟩, HI3.out.2.1.far HIe.out.gr (by have := HI3.out.2.2; omega), HI3.out.2.2⟩
        have HOf : Hid (LegOffB b d pc) := fun x hx => legNew_off HNe.out (by have := HSz.out; omega)
        have HG2 := Lib.hid (HGR.out.row HFc.out HNe.out.leg HOf.out)
        obtain ⟨dz, pz, hz1, -⟩ := HGR.out.1.2.2.1
        obtain ⟨tz, cz, sz, hz2⟩ := HG2.out.2.1
        have hz1' : we.heap[r]? = some (.cells (LegC dz pz) 31 (0, 0)) := hz1
        have HG3 := Lib.hid (HG2.out.hrow (3 + xt) xc (-1 - xs))
        clear hz1
        unfold LegV
        go_wp2_with (first
          | (refine wpList_store_row rfl 31 _ _ rfl r (LegC d pc) rfl rfl 31 (LegC dz pz) hz1' legSize rfl (leg_one d pc) ?_)
          | (refine wpList_store_row rfl 35 _ _ rfl r2 (HoldC (3 + xt) xc (-1 - xs)) rfl rfl 35 (HoldC tz cz sz) hz2 holdcSize rfl (holdc_one _ _ _) ?_)
          | fail)
        generalize (we.setRow r (LegC d pc)).setRow r2 (HoldC (3 + xt) xc (-1 - xs)) = wz at *
        obtain ⟨d2, p2, hbx, hf, hi, ho⟩ := HG3.out.1.2.2.1
        obtain ⟨t2, c2, s2, hhx⟩ := HG3.out.2.1
        have hpost : Hid (DrawnHold w (.returned (.tuple #[LegV d2 p2, .agg (HoldC t2 c2 s2), .int .i64 0])) wz) := ⟨d2, p2, t2, c2, s2, 0, rfl, hf, hi, HG3.out.1.2.1⟩
        have hbx' : Hid (LegBx wz r 31 d2 p2) := hbx
        obtain ⟨u0, u1, u2⟩ := row3 hhx
        have v0 := hbx'.out.c0
        have v1 := hbx'.out.c1
        have v2 := hbx'.out.c2
        have v3 := hbx'.out.c3
        have v4 := hbx'.out.c4
        have v5 := hbx'.out.c5
        have v6 := hbx'.out.c6
        have v7 := hbx'.out.c7
        have v8 := hbx'.out.c8
        have v9 := hbx'.out.c9
        refine bodyPost_ret (v := .tuple #[LegV d2 p2, .agg (HoldC t2 c2 s2), .int .i64 0]) ?_ rfl hpost.out
        rw [LegV_eq]
        unfold LegC HoldC
        simp [results, Try.f19, go_sem, v0, v1, v2, v3, v4, v5, v6, v7, v8, v9, u0, u1, u2]

      | true =>
        have y0 := HB7.out.c0
        have y1 := HB7.out.c1
        have y2 := HB7.out.c2
        have y3 := HB7.out.c3
        have y4 := HB7.out.c4
        have y5 := HB7.out.c5
        have y6 := HB7.out.c6
        have y7 := HB7.out.c7
        have y8 := HB7.out.c8
        have y9 := HB7.out.c9
        have inv8 := Lib.hid (inv7.out.put HG7.out.2.1 HG7.out.1 HG7.out.2.2.1 HG7.out.2.2.2.1 HG7.out.2.2.2.2.1)
        have HBF : Hid (LegBx (w7.setRow bx (LegC dd q)) bx 31 dd q) := inv8.out.box
        have x0 := HBF.out.c0
        have x1 := HBF.out.c1
        have x2 := HBF.out.c2
        have x3 := HBF.out.c3
        have x4 := HBF.out.c4
        have x5 := HBF.out.c5
        have x6 := HBF.out.c6
        have x7 := HBF.out.c7
        have x8 := HBF.out.c8
        have x9 := HBF.out.c9
        go_wp2_with (first
          | (refine wpList_store_row rfl 31 _ _ rfl bx (LegC dd q) rfl rfl 31 (LegC d p) inv7.out.box legSize rfl (leg_one dd q) ?_)
          | fail)
        generalize w7.setRow bx (LegC dd q) = w8 at *
        refine (copyM dd q w8 inv8.out.leg inv8.out.ok.2.1.2.1 inv8.out.ok.2.1.2.2.1 (by have := inv8.out.ok.2.1.2.2.2.2.1; omega) (by have := inv8.out.ok.2.1.2.2.2.2.1; omega) (by have := inv8.out.ok.2.2.1.1; omega)).mono ?_
        rintro e wc ⟨pc, rfl, hnc, dc⟩
        have HIc := Lib.hid (inv8.out.below dc)
        have HNc := Lib.hid hnc
        have HSz : Hid (b < w8.heap.size) := inv8.out.rd.lt
        have HFc : Hid (SFit dd pc) := ⟨okLeg_fits inv8.out.ok, hnc.1.2.1, hnc.1.2.2.2⟩
        clear hnc dc
        clear x0 x1 x2 x3 x4 x5 x6 x7 x8 x9
        obtain ⟨qc, hqc, hrc⟩ := HIc.out.rd
        go_wp2_with fail
        refine (pick r b qc 3 wc hrc (by omega) (by omega) (by omega)).mono ?_
        rintro e wd ⟨xt, lt, ut, rfl, hrd, hgd, -⟩
        have HId := Lib.hid (HIc.out.far hgd (Q' := 60) ⟨_, (by omega), hrd⟩)
        have HNd := Lib.hid (hNfar HNc.out hgd HSz.out)
        have ewt : IntKind.i64.wrap (3 + xt) = 3 + xt := IntWalk.i64_in _ (by omega)
        clear hrc hrd hgd
        obtain ⟨qd, hqd, hrd⟩ := HId.out.rd
        go_wp2_with fail
        refine (pick r b qd 2 wd hrd (by omega) (by omega) (by omega)).mono ?_
        rintro e we ⟨xs, ls, us, rfl, hre, hge, -⟩
        have HIe := Lib.hid (HId.out.far hge (Q' := 61) ⟨_, (by omega), hre⟩)
        have HNe := Lib.hid (hNfar HNd.out hge HSz.out)
        have ews : IntKind.i64.wrap (-1 - xs) = -1 - xs := IntWalk.i64_in _ (by omega)
        clear hrd hre hge
        have HGR : Hid (IHd w r b r r2 1 we) := ⟨⟨HIe.out.rd.mono (by omega), HI3.out.1.2.1.grown HIe.out.gr HI3.out.1.2.1.size (fun k e => by cases e; have := HI3.out.1.2.2.2; omega), HI3.out.1.2.2.1.far HIe.out.gr (Nat.le_refl _) (by have := HI3.out.1.2.2.2; omega), HI3.out.1.2.2.2⟩, HI3.out.2.1.far HIe.out.gr (by have := HI3.out.2.2; omega), HI3.out.2.2⟩
        have HOf : Hid (LegOffB b dd pc) := fun x hx => legNew_off HNe.out (by have := HSz.out; omega)
        have HG2 := Lib.hid (HGR.out.row HFc.out HNe.out.leg HOf.out)
        obtain ⟨dz, pz, hz1, -⟩ := HGR.out.1.2.2.1
        obtain ⟨tz, cz, sz, hz2⟩ := HG2.out.2.1
        have hz1' : we.heap[r]? = some (.cells (LegC dz pz) 31 (0, 0)) := hz1
        have HG3 := Lib.hid (HG2.out.hrow (3 + xt) xc (-1 - xs))
        clear hz1
        unfold LegV
        go_wp2_with (first
          | (refine wpList_store_row rfl 31 _ _ rfl r (LegC dd pc) rfl rfl 31 (LegC dz pz) hz1' legSize rfl (leg_one dd pc) ?_)
          | (refine wpList_store_row rfl 35 _ _ rfl r2 (HoldC (3 + xt) xc (-1 - xs)) rfl rfl 35 (HoldC tz cz sz) hz2 holdcSize rfl (holdc_one _ _ _) ?_)
          | fail)
        generalize (we.setRow r (LegC dd pc)).setRow r2 (HoldC (3 + xt) xc (-1 - xs)) = wz at *
        obtain ⟨d2, p2, hbx, hf, hi, ho⟩ := HG3.out.1.2.2.1
        obtain ⟨t2, c2, s2, hhx⟩ := HG3.out.2.1
        have hpost : Hid (DrawnHold w (.returned (.tuple #[LegV d2 p2, .agg (HoldC t2 c2 s2), .int .i64 0])) wz) := ⟨d2, p2, t2, c2, s2, 0, rfl, hf, hi, HG3.out.1.2.1⟩
        have hbx' : Hid (LegBx wz r 31 d2 p2) := hbx
        obtain ⟨u0, u1, u2⟩ := row3 hhx
        have v0 := hbx'.out.c0
        have v1 := hbx'.out.c1
        have v2 := hbx'.out.c2
        have v3 := hbx'.out.c3
        have v4 := hbx'.out.c4
        have v5 := hbx'.out.c5
        have v6 := hbx'.out.c6
        have v7 := hbx'.out.c7
        have v8 := hbx'.out.c8
        have v9 := hbx'.out.c9
        refine bodyPost_ret (v := .tuple #[LegV d2 p2, .agg (HoldC t2 c2 s2), .int .i64 0]) ?_ rfl hpost.out
        rw [LegV_eq]
        unfold LegC HoldC
        simp [results, Try.f19, go_sem, v0, v1, v2, v3, v4, v5, v6, v7, v8, v9, u0, u1, u2]

end Go.Proofs.Ytmlkjlipjkmcfaa
