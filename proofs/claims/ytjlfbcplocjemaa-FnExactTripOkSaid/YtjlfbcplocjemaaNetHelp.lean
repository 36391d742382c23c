/-
  A net: many legs in one slice. How large it is, a copy, and that two are alike.
-/
import Derived.Test.YtjlfbcplocjemaaOpenLeg
import Derived.Test.YtjlfbcplocjemaaLegMath
import Derived.OwnWalk
namespace Go.Proofs.Ytjlfbcplocjemaa
open Go.RowKit
set_option linter.unusedVariables false
set_option linter.unusedSimpArgs false

/-- A leg's cells from a place of a block on. -/
def RowAt (W : World) (b o : Nat) (d : LegD) (p : LegP) : Prop := ∀ k, k < 10 → W.cell? ⟨b, o + k, none⟩ = (LegC d p)[k]?
theorem RowAt.kept {W W' : World} {b o : Nat} {d : LegD} {p : LegP} (h : RowAt W b o d p) (hb : b < W.heap.size) (hB : Below W.heap.size W W') : RowAt W' b o d p := fun k hk => by
  have e := h k hk
  have : (LegC d p)[k]? = some ((LegC d p)[k]'(by show k < 10; exact hk)) := by simp
  rw [this] at e ⊢
  exact (hB.cell (p := ⟨b, o + k, none⟩) hb).trans e
section
variable {W : World} {b o : Nat} {d : LegD} {p : LegP} (h : RowAt W b o d p)
include h
theorem RowAt.c0 : W.cell? ⟨b, o, none⟩ = some (.string d.name) := h 0 (by decide)
theorem RowAt.c1 : W.cell? ⟨b, o + 1, none⟩ = some (.string d.fr) := h 1 (by decide)
theorem RowAt.c2 : W.cell? ⟨b, o + 2, none⟩ = some (.string d.to) := h 2 (by decide)
theorem RowAt.c3 : W.cell? ⟨b, o + 3, none⟩ = some (.int .i64 d.dep) := h 3 (by decide)
theorem RowAt.c4 : W.cell? ⟨b, o + 4, none⟩ = some (.int .i64 d.arr) := h 4 (by decide)
theorem RowAt.c5 : W.cell? ⟨b, o + 5, none⟩ = some (.int .i64 d.cap) := h 5 (by decide)
theorem RowAt.c6 : W.cell? ⟨b, o + 6, none⟩ = some (.slice p.aL d.nL p.cL) := h 6 (by decide)
theorem RowAt.c7 : W.cell? ⟨b, o + 7, none⟩ = some (.slice p.aS d.nS p.cS) := h 7 (by decide)
theorem RowAt.c8 : W.cell? ⟨b, o + 8, none⟩ = some (.slice p.aB d.nB p.cB) := h 8 (by decide)
theorem RowAt.c9 : W.cell? ⟨b, o + 9, none⟩ = some (.slice p.aH d.nH p.cH) := h 9 (by decide)
end
/-- Many legs in one slice. -/
def Legs (W : World) (a : Option Addr) (n : Nat) (ds : Nat → LegD) (ps : Nat → LegP) : Prop :=
  n = 0 ∨ ∃ b off, a = some ⟨b, off, none⟩ ∧ b < W.heap.size ∧ ∀ i, i < n → RowAt W b (off + i * 10) (ds i) (ps i) ∧ LegIn W (ds i) (ps i)
theorem Legs.kept {W W' : World} {a : Option Addr} {n : Nat} {ds : Nat → LegD} {ps : Nat → LegP} (h : Legs W a n ds ps) (hB : Below W.heap.size W W') : Legs W' a n ds ps := by
  rcases h with h | ⟨b, off, e, hb, hr⟩
  · exact .inl h
  · exact .inr ⟨b, off, e, Nat.lt_of_lt_of_le hb hB.size, fun i hi => ⟨(hr i hi).1.kept hb hB, (hr i hi).2.kept hB⟩⟩
def SzLegN (d : LegD) (lf : Int) (w : World) (e : Ending) (w' : World) : Prop := ∃ r : Int, -1 ≤ r ∧ r ≤ lf ∧ e = .returned (.int .i64 r) ∧ Hid (0 ≤ r → Fits d) ∧ Below w.heap.size w w'
set_option maxHeartbeats 4000000 in
theorem szLegN (d : LegD) (p : LegP) (lf : Int) (w : World) (hd : Wide d) (l0 : 0 ≤ lf) (l1 : lf ≤ 1048576) :
    Calls Try.prog 26 #[LegV d p, .int .i64 lf] w (SzLegN d lf w) := by
  obtain ⟨nm, fr, to, dep, arr, cap, nL, L, nS, S, nB, B, nH, t, c, s⟩ := d
  obtain ⟨aL, cL, aS, cS, aB, cB, aH, cH⟩ := p
  obtain ⟨h1, h2, h3, h4, h5, h6, h7⟩ := hd
  dsimp only at h1 h2 h3 h4 h5 h6 h7
  unfold LegV
  dsimp only
  rcases Int.lt_or_le (lf - nm.size) 0 with c1 | c1
  · go_enter Try.func26, Try.ntmps26
    go_wp2
    go_ret
    exact ⟨-1, by omega, by omega, rfl, fun h => by omega, (Below.refl _ _).alloc (Nat.le_refl _) _⟩
  rcases Int.lt_or_le (lf - nm.size - fr.size) 0 with c2 | c2
  · go_enter Try.func26, Try.ntmps26
    go_wp2
    go_ret
    exact ⟨-1, by omega, by omega, rfl, fun h => by omega, (Below.refl _ _).alloc (Nat.le_refl _) _⟩
  rcases Int.lt_or_le (lf - nm.size - fr.size - to.size) 0 with c3 | c3
  · go_enter Try.func26, Try.ntmps26
    go_wp2
    go_ret
    exact ⟨-1, by omega, by omega, rfl, fun h => by omega, (Below.refl _ _).alloc (Nat.le_refl _) _⟩
  go_enter Try.func26, Try.ntmps26
  go_wp2_with fail
  refine (szIntsL aL nL cL _ _ h4 c3 (by omega)).mono ?_
  rintro e w' ⟨r1, hr1, rfl, rfl⟩
  rcases hr1 with ⟨k1, rfl⟩ | ⟨k1, rfl⟩
  rotate_left
  · go_wp2
    go_ret
    exact ⟨-1, by omega, by omega, rfl, fun h => by omega, (Below.refl _ _).alloc (Nat.le_refl _) _⟩
  generalize hR1 : (lf - (nm.size : Int) - fr.size - to.size) = R1 at *
  have g1 : decide (R1 - (nL : Int) < 0) = false := by simp; omega
  go_wp2_with fail
  refine (szIntsL aS nS cS _ _ h5 (by omega) (by omega)).mono ?_
  rintro e w' ⟨r2, hr2, rfl, rfl⟩
  rcases hr2 with ⟨k2, rfl⟩ | ⟨k2, rfl⟩
  rotate_left
  · go_wp2
    go_ret
    exact ⟨-1, by omega, by omega, rfl, fun h => by omega, (Below.refl _ _).alloc (Nat.le_refl _) _⟩
  generalize hR2 : R1 - (nL : Int) = R2 at *
  have g2 : decide (R2 - (nS : Int) < 0) = false := by simp; omega
  go_wp2_with fail
  refine (szIntsL aB nB cB _ _ h6 (by omega) (by omega)).mono ?_
  rintro e w' ⟨r3, hr3, rfl, rfl⟩
  rcases hr3 with ⟨k3, rfl⟩ | ⟨k3, rfl⟩
  rotate_left
  · go_wp2
    go_ret
    exact ⟨-1, by omega, by omega, rfl, fun h => by omega, (Below.refl _ _).alloc (Nat.le_refl _) _⟩
  generalize hR3 : R2 - (nS : Int) = R3 at *
  have g3 : decide (R3 - (nB : Int) < 0) = false := by simp; omega
  go_wp2_with fail
  refine (szHolds aH nH cH _ _ h7 (by omega) (by omega)).mono ?_
  rintro e w' ⟨r4, hr4, rfl, rfl⟩
  rcases hr4 with ⟨k4, rfl⟩ | ⟨k4, rfl⟩
  rotate_left
  · go_wp2
    go_ret
    exact ⟨-1, by omega, by omega, rfl, fun h => by omega, (Below.refl _ _).alloc (Nat.le_refl _) _⟩
  generalize hR4 : R3 - (nB : Int) = R4 at *
  have g4 : decide (R4 - (nH : Int) < 0) = false := by simp; omega
  go_wp2
  go_ret
  refine ⟨R4 - nH, by omega, by omega, rfl, fun _ => ⟨?_, ?_, ?_, ?_, ?_, ?_, ?_⟩, (Below.refl _ _).alloc (Nat.le_refl _) _⟩ <;> dsimp only <;> omega

def SzNet (n : Nat) (ds : Nat → LegD) (w : World) (e : Ending) (w' : World) : Prop := ∃ r : Int, -1 ≤ r ∧ r ≤ 1048576 ∧ e = .returned (.int .i64 r) ∧ Hid (0 ≤ r → n ≤ 1048576 ∧ ∀ i, i < n → Fits (ds i)) ∧ Below w.heap.size w w'
set_option maxHeartbeats 4000000 in
theorem szNet (a : Option Addr) (n cap : Nat) (ds : Nat → LegD) (ps : Nat → LegP) (w : World) (h : Legs w a n ds ps) (hn : (n : Int) ≤ 9223372036854775807) (hw : ∀ i, i < n → Wide (ds i)) :
    Calls Try.prog 10 #[.slice a n cap, .int .i64 1048576] w (SzNet n ds w) := by
  have H := Lib.hid h
  have HW := Lib.hid hw
  clear h hw
  have e0 : IntKind.i64.wrap (1048576 - (n : Int)) = 1048576 - (n : Int) := IntWalk.i64_in _ (by omega)
  rcases Int.lt_or_le (1048576 - (n : Int)) 0 with c0 | c0
  · have z0 : decide (1048576 - (n : Int) < 0) = true := decide_eq_true c0
    go_enter Try.func10, Try.ntmps10
    go_wp2
    go_ret
    exact ⟨-1, by omega, by omega, rfl, fun h => by omega, by first | exact Below.refl _ _ | exact belowN (Below.refl _ _) _⟩
  have z0 : decide (1048576 - (n : Int) < 0) = false := decide_eq_false (by omega)
  go_enter Try.func10, Try.ntmps10
  go_wp2_with fail
  go_loopw [1, 5] (fun vl vi wr => ∃ (k : Nat) (r : Int), k ≤ n ∧ vl = .int .i64 r ∧ vi = .int .i64 k ∧ 0 ≤ r ∧ r ≤ 1048576 ∧ Hid (∀ i, i < k → Fits (ds i)) ∧ Below w.heap.size w wr) (fun _ vi _ => n - (intOf vi).toNat)
  case atStart => exact ⟨0, _, Nat.zero_le _, rfl, rfl, c0, by omega, fun i hi => absurd hi (Nat.not_lt_zero _), Below.refl _ _⟩
  case round =>
    obtain ⟨k, r, hk, rfl, rfl, r0, r1, hf, hb⟩ := hrel
    rcases Nat.lt_or_ge k n with hlt | hge
    · rcases H.out.kept hb with hc | ⟨b, off, rfl, hbl, hrow⟩
      · omega
      obtain ⟨hr, hin⟩ := hrow k hlt
      have HRW := Lib.hid hr
      have hk1 : (k : Int) < n := by omega
      have hk0 : (0 : Int) ≤ k := by omega
      clear hrow hr hin hbl
      have y0 := HRW.out.c0
      have y1 := HRW.out.c1
      have y2 := HRW.out.c2
      have y3 := HRW.out.c3
      have y4 := HRW.out.c4
      have y5 := HRW.out.c5
      have y6 := HRW.out.c6
      have y7 := HRW.out.c7
      have y8 := HRW.out.c8
      have y9 := HRW.out.c9
      go_wp2_with fail
      refine (szLegN (ds k) (ps k) r wr (HW.out k hlt) r0 r1).mono ?_
      rintro e w1 ⟨q, q0, q1, rfl, hq, hd⟩
      have HB := Lib.hid (bt hb hd)
      clear hd y0 y1 y2 y3 y4 y5 y6 y7 y8 y9
      rcases Int.lt_or_le q 0 with c | c
      · have z1 : decide (q < 0) = true := decide_eq_true c
        go_wp2
        go_ret
        exact ⟨-1, by omega, by omega, rfl, fun h => by omega, HB.out⟩
      · have z1 : decide (q < 0) = false := decide_eq_false (by omega)
        have hfq := hq.out c
        go_wp2
        go_roundw
        case rel => exact ⟨k + 1, q, by omega, rfl, by go_num, c, by omega, fun i hi => by
          rcases Nat.lt_or_ge i k with u | u
          · exact hf.out i u
          · obtain rfl : i = k := by omega
            exact hfq, HB.out⟩
        case measure => simp [intOf]; omega
    · obtain rfl : k = n := by omega
      go_wp2
      go_ret
      exact ⟨r, by omega, r1, rfl, fun _ => ⟨by omega, hf.out⟩, hb⟩
/-- No list of a leg lies in that block. -/
def Apart (x : Nat) (d : LegD) (p : LegP) : Prop := (0 < d.nL → ∀ y, p.aL = some y → y.block ≠ x) ∧ (0 < d.nS → ∀ y, p.aS = some y → y.block ≠ x) ∧ (0 < d.nB → ∀ y, p.aB = some y → y.block ≠ x) ∧ (0 < d.nH → ∀ y, p.aH = some y → y.block ≠ x)
theorem NumsW.apart {B : Nat} {w : World} {a : Option Addr} {n x : Nat} {z : Nat → Int} (h : NumsW B w a n z) (hB : x < B) : 0 < n → ∀ y, a = some y → y.block ≠ x := by
  intro h0 y hy
  rcases h with h | ⟨g, h1, h2, -, -⟩
  · omega
  · rw [h1] at hy; cases hy; show g ≠ x; omega
def CopyLegO (d : LegD) (w : World) (e : Ending) (w' : World) : Prop := ∃ p : LegP, e = .returned (LegV d p) ∧ LegIn w' d p ∧ (d.nL ≤ p.cL ∧ d.nS ≤ p.cS ∧ d.nB ≤ p.cB ∧ d.nH ≤ p.cH) ∧ (∀ x, x < w.heap.size → Apart x d p) ∧ Below w.heap.size w w'
set_option maxHeartbeats 8000000 in
theorem toLegO (d : LegD) (p : LegP) (w : World) (h : LegIn w d p) (hf : Fits d) :
    Calls Try.prog 28 #[LegV d p] w (CopyLegO d w) := by
  obtain ⟨nm, fr, to, dep, arr, cap, nL, L, nS, S, nB, B, nH, t, c, s⟩ := d
  obtain ⟨aL, cL, aS, cS, aB, cB, aH, cH⟩ := p
  obtain ⟨f1, f2, f3, f4, f5, f6, f7⟩ := hf
  obtain ⟨i1, i2, i3, i4⟩ := h
  dsimp only at f1 f2 f3 f4 f5 f6 f7 i1 i2 i3 i4
  have I1 := Lib.hid i1
  have I2 := Lib.hid i2
  have I3 := Lib.hid i3
  have I4 := Lib.hid i4
  clear i1 i2 i3 i4
  unfold LegV
  dsimp only
  go_enter Try.func28, Try.ntmps28
  go_wp2_with fail
  have hArg : (((w.alloc (.cells #[Value.string nm, Value.string fr, Value.string to, Value.int IntKind.i64 dep, Value.int IntKind.i64 arr, Value.int IntKind.i64 cap, Value.slice aL nL cL, Value.slice aS nS cS, Value.slice aB nB cB, Value.slice aH nH cH] 58)).alloc (.cells #[.string ⟨#[]⟩, .string ⟨#[]⟩, .string ⟨#[]⟩, .int .i64 0, .int .i64 0, .int .i64 0, .slice none 0 0, .slice none 0 0, .slice none 0 0, .slice none 0 0] 34)).alloc (.cells #[Value.string nm, Value.string fr, Value.string to, Value.int IntKind.i64 dep, Value.int IntKind.i64 arr, Value.int IntKind.i64 cap, Value.slice none 0 0, Value.slice none 0 0, Value.slice none 0 0, Value.slice none 0 0] 34)).heap[w.heap.size]? = some (.cells #[Value.string nm, Value.string fr, Value.string to, Value.int IntKind.i64 dep, Value.int IntKind.i64 arr, Value.int IntKind.i64 cap, Value.slice aL nL cL, Value.slice aS nS cS, Value.slice aB nB cB, Value.slice aH nH cH] 58 (0, 0)) := by
    rw [Lib.alloc_old _ _ _ (by simp only [World.size_alloc]; omega), Lib.alloc_old _ _ _ (by simp only [World.size_alloc]; omega)]
    exact heap_alloc_new w _
  have hRes : (((w.alloc (.cells #[Value.string nm, Value.string fr, Value.string to, Value.int IntKind.i64 dep, Value.int IntKind.i64 arr, Value.int IntKind.i64 cap, Value.slice aL nL cL, Value.slice aS nS cS, Value.slice aB nB cB, Value.slice aH nH cH] 58)).alloc (.cells #[.string ⟨#[]⟩, .string ⟨#[]⟩, .string ⟨#[]⟩, .int .i64 0, .int .i64 0, .int .i64 0, .slice none 0 0, .slice none 0 0, .slice none 0 0, .slice none 0 0] 34)).alloc (.cells #[Value.string nm, Value.string fr, Value.string to, Value.int IntKind.i64 dep, Value.int IntKind.i64 arr, Value.int IntKind.i64 cap, Value.slice none 0 0, Value.slice none 0 0, Value.slice none 0 0, Value.slice none 0 0] 34)).heap[w.heap.size + 1]? = some (.cells #[.string ⟨#[]⟩, .string ⟨#[]⟩, .string ⟨#[]⟩, .int .i64 0, .int .i64 0, .int .i64 0, .slice none 0 0, .slice none 0 0, .slice none 0 0, .slice none 0 0] 34 (0, 0)) := by
    rw [Lib.alloc_old _ _ _ (by simp only [World.size_alloc]; omega)]
    have := heap_alloc_new (w.alloc (.cells #[Value.string nm, Value.string fr, Value.string to, Value.int IntKind.i64 dep, Value.int IntKind.i64 arr, Value.int IntKind.i64 cap, Value.slice aL nL cL, Value.slice aS nS cS, Value.slice aB nB cB, Value.slice aH nH cH] 58)) (.cells #[.string ⟨#[]⟩, .string ⟨#[]⟩, .string ⟨#[]⟩, .int .i64 0, .int .i64 0, .int .i64 0, .slice none 0 0, .slice none 0 0, .slice none 0 0, .slice none 0 0] 34)
    simpa only [World.size_alloc] using this
  have hOut : (((w.alloc (.cells #[Value.string nm, Value.string fr, Value.string to, Value.int IntKind.i64 dep, Value.int IntKind.i64 arr, Value.int IntKind.i64 cap, Value.slice aL nL cL, Value.slice aS nS cS, Value.slice aB nB cB, Value.slice aH nH cH] 58)).alloc (.cells #[.string ⟨#[]⟩, .string ⟨#[]⟩, .string ⟨#[]⟩, .int .i64 0, .int .i64 0, .int .i64 0, .slice none 0 0, .slice none 0 0, .slice none 0 0, .slice none 0 0] 34)).alloc (.cells #[Value.string nm, Value.string fr, Value.string to, Value.int IntKind.i64 dep, Value.int IntKind.i64 arr, Value.int IntKind.i64 cap, Value.slice none 0 0, Value.slice none 0 0, Value.slice none 0 0, Value.slice none 0 0] 34)).heap[w.heap.size + 1 + 1]? = some (.cells #[Value.string nm, Value.string fr, Value.string to, Value.int IntKind.i64 dep, Value.int IntKind.i64 arr, Value.int IntKind.i64 cap, Value.slice none 0 0, Value.slice none 0 0, Value.slice none 0 0, Value.slice none 0 0] 34 (0, 0)) := by
    have := heap_alloc_new ((w.alloc (.cells #[Value.string nm, Value.string fr, Value.string to, Value.int IntKind.i64 dep, Value.int IntKind.i64 arr, Value.int IntKind.i64 cap, Value.slice aL nL cL, Value.slice aS nS cS, Value.slice aB nB cB, Value.slice aH nH cH] 58)).alloc (.cells #[.string ⟨#[]⟩, .string ⟨#[]⟩, .string ⟨#[]⟩, .int .i64 0, .int .i64 0, .int .i64 0, .slice none 0 0, .slice none 0 0, .slice none 0 0, .slice none 0 0] 34)) (.cells #[Value.string nm, Value.string fr, Value.string to, Value.int IntKind.i64 dep, Value.int IntKind.i64 arr, Value.int IntKind.i64 cap, Value.slice none 0 0, Value.slice none 0 0, Value.slice none 0 0, Value.slice none 0 0] 34)
    simpa only [World.size_alloc] using this
  have hAB : Below w.heap.size w (((w.alloc (.cells #[Value.string nm, Value.string fr, Value.string to, Value.int IntKind.i64 dep, Value.int IntKind.i64 arr, Value.int IntKind.i64 cap, Value.slice aL nL cL, Value.slice aS nS cS, Value.slice aB nB cB, Value.slice aH nH cH] 58)).alloc (.cells #[.string ⟨#[]⟩, .string ⟨#[]⟩, .string ⟨#[]⟩, .int .i64 0, .int .i64 0, .int .i64 0, .slice none 0 0, .slice none 0 0, .slice none 0 0, .slice none 0 0] 34)).alloc (.cells #[Value.string nm, Value.string fr, Value.string to, Value.int IntKind.i64 dep, Value.int IntKind.i64 arr, Value.int IntKind.i64 cap, Value.slice none 0 0, Value.slice none 0 0, Value.slice none 0 0, Value.slice none 0 0] 34)) :=
    ((((Below.refl _ _).alloc (Nat.le_refl _) _).alloc (by simp only [World.size_alloc]; omega) _).alloc (by simp only [World.size_alloc]; omega) _)
  generalize (((w.alloc (.cells #[Value.string nm, Value.string fr, Value.string to, Value.int IntKind.i64 dep, Value.int IntKind.i64 arr, Value.int IntKind.i64 cap, Value.slice aL nL cL, Value.slice aS nS cS, Value.slice aB nB cB, Value.slice aH nH cH] 58)).alloc (.cells #[.string ⟨#[]⟩, .string ⟨#[]⟩, .string ⟨#[]⟩, .int .i64 0, .int .i64 0, .int .i64 0, .slice none 0 0, .slice none 0 0, .slice none 0 0, .slice none 0 0] 34)).alloc (.cells #[Value.string nm, Value.string fr, Value.string to, Value.int IntKind.i64 dep, Value.int IntKind.i64 arr, Value.int IntKind.i64 cap, Value.slice none 0 0, Value.slice none 0 0, Value.slice none 0 0, Value.slice none 0 0] 34)) = A at *
  have sA := lt_heap hOut
  have HA0 := Lib.hid hArg
  have HO0 := Lib.hid hOut
  have HR0 := Lib.hid hRes
  have HB0 := Lib.hid hAB
  clear hArg hOut hAB hRes
  have b0w := HB0.out
  refine (copyInts aL nL cL L _ (I1.out.kept b0w) f4).mono ?_
  rintro e w1 ⟨a1, rfl, n1, d1⟩
  have arg1 := (d1.block _ (by omega)).trans HA0.out
  have out1 := (d1.block _ (by omega)).trans HO0.out
  have bw1 : Below w.heap.size w w1 := HB0.out.trans (d1.mono (HB0.out.size))
  have ca1 : w1.cell? ⟨w.heap.size, 7, none⟩ = some (Value.slice aS nS cS) := by rw [Lib.cell_of_heap arg1]; rfl
  have co1 : w1.cell? ⟨w.heap.size + 1 + 1, 6, none⟩ = some (Value.slice none 0 0) := by rw [Lib.cell_of_heap out1]; rfl
  have cf1 : w1.frozen? ⟨w.heap.size + 1 + 1, 6, none⟩ = false := Lib.frozen_of_heap out1 6
  have arg1' : (w1.setCell ⟨w.heap.size + 1 + 1, 6, none⟩ (Value.slice a1 nL nL)).heap[w.heap.size]? = some (.cells #[Value.string nm, Value.string fr, Value.string to, Value.int IntKind.i64 dep, Value.int IntKind.i64 arr, Value.int IntKind.i64 cap, Value.slice aL nL cL, Value.slice aS nS cS, Value.slice aB nB cB, Value.slice aH nH cH] 58 (0, 0)) := (Below.heap_setCell _ _ _ _ (by show w.heap.size ≠ w.heap.size + 1 + 1; omega)).trans arg1
  have out1' : (w1.setCell ⟨w.heap.size + 1 + 1, 6, none⟩ (Value.slice a1 nL nL)).heap[w.heap.size + 1 + 1]? = some (.cells #[Value.string nm, Value.string fr, Value.string to, Value.int IntKind.i64 dep, Value.int IntKind.i64 arr, Value.int IntKind.i64 cap, Value.slice a1 nL nL, Value.slice none 0 0, Value.slice none 0 0, Value.slice none 0 0] 34 (0, 0)) := by simp [World.setCell, Array.getElem?_modify, out1]
  have bw1' : Below w.heap.size w (w1.setCell ⟨w.heap.size + 1 + 1, 6, none⟩ (Value.slice a1 nL nL)) := bw1.setCell (p := ⟨w.heap.size + 1 + 1, 6, none⟩) (by show w.heap.size ≤ w.heap.size + 1 + 1; omega) _
  have gs1 := grown_set w1 ⟨w.heap.size + 1 + 1, 6, none⟩ (Value.slice a1 nL nL)
  have n1' := n1.far gs1 (fun k e => by cases e; show w.heap.size + 1 + 1 < _; omega)
  have ssz1 : w1.heap.size ≤ (w1.setCell ⟨w.heap.size + 1 + 1, 6, none⟩ (Value.slice a1 nL nL)).heap.size := gs1.size
  have szz1 := d1.size
  have res1' : (w1.setCell ⟨w.heap.size + 1 + 1, 6, none⟩ (Value.slice a1 nL nL)).heap[w.heap.size + 1]? = some (.cells #[.string ⟨#[]⟩, .string ⟨#[]⟩, .string ⟨#[]⟩, .int .i64 0, .int .i64 0, .int .i64 0, .slice none 0 0, .slice none 0 0, .slice none 0 0, .slice none 0 0] 34 (0, 0)) := (Below.heap_setCell _ _ _ _ (by show w.heap.size + 1 ≠ w.heap.size + 1 + 1; omega)).trans ((d1.block _ (by omega)).trans HR0.out)
  clear arg1 out1 bw1
  go_wp2_with fail
  generalize hW1 : w1.setCell ⟨w.heap.size + 1 + 1, 6, none⟩ (Value.slice a1 nL nL) = W1 at *
  have N1 := Lib.hid n1'
  have HA1 := Lib.hid arg1'
  have HO1 := Lib.hid out1'
  have HR1 := Lib.hid res1'
  clear res1'
  have HB1 := Lib.hid bw1'
  clear n1 n1' arg1' out1' bw1' ca1 co1 cf1 hW1 gs1 b0w
  have b1w := HB1.out
  refine (copyInts aS nS cS S _ (I2.out.kept b1w) f5).mono ?_
  rintro e w2 ⟨a2, rfl, n2, d2⟩
  have arg2 := (d2.block _ (by omega)).trans HA1.out
  have out2 := (d2.block _ (by omega)).trans HO1.out
  have bw2 : Below w.heap.size w w2 := HB1.out.trans (d2.mono (HB1.out.size))
  have ca2 : w2.cell? ⟨w.heap.size, 8, none⟩ = some (Value.slice aB nB cB) := by rw [Lib.cell_of_heap arg2]; rfl
  have co2 : w2.cell? ⟨w.heap.size + 1 + 1, 7, none⟩ = some (Value.slice none 0 0) := by rw [Lib.cell_of_heap out2]; rfl
  have cf2 : w2.frozen? ⟨w.heap.size + 1 + 1, 7, none⟩ = false := Lib.frozen_of_heap out2 7
  have arg2' : (w2.setCell ⟨w.heap.size + 1 + 1, 7, none⟩ (Value.slice a2 nS nS)).heap[w.heap.size]? = some (.cells #[Value.string nm, Value.string fr, Value.string to, Value.int IntKind.i64 dep, Value.int IntKind.i64 arr, Value.int IntKind.i64 cap, Value.slice aL nL cL, Value.slice aS nS cS, Value.slice aB nB cB, Value.slice aH nH cH] 58 (0, 0)) := (Below.heap_setCell _ _ _ _ (by show w.heap.size ≠ w.heap.size + 1 + 1; omega)).trans arg2
  have out2' : (w2.setCell ⟨w.heap.size + 1 + 1, 7, none⟩ (Value.slice a2 nS nS)).heap[w.heap.size + 1 + 1]? = some (.cells #[Value.string nm, Value.string fr, Value.string to, Value.int IntKind.i64 dep, Value.int IntKind.i64 arr, Value.int IntKind.i64 cap, Value.slice a1 nL nL, Value.slice a2 nS nS, Value.slice none 0 0, Value.slice none 0 0] 34 (0, 0)) := by simp [World.setCell, Array.getElem?_modify, out2]
  have bw2' : Below w.heap.size w (w2.setCell ⟨w.heap.size + 1 + 1, 7, none⟩ (Value.slice a2 nS nS)) := bw2.setCell (p := ⟨w.heap.size + 1 + 1, 7, none⟩) (by show w.heap.size ≤ w.heap.size + 1 + 1; omega) _
  have gs2 := grown_set w2 ⟨w.heap.size + 1 + 1, 7, none⟩ (Value.slice a2 nS nS)
  have n1_1 := (N1.out.far (toGr d2) (fun k e => by cases e)).far gs2 (fun k e => by cases e; show w.heap.size + 1 + 1 < _; omega)
  have n2' := n2.far gs2 (fun k e => by cases e; show w.heap.size + 1 + 1 < _; omega)
  have ssz2 : w2.heap.size ≤ (w2.setCell ⟨w.heap.size + 1 + 1, 7, none⟩ (Value.slice a2 nS nS)).heap.size := gs2.size
  have szz2 := d2.size
  have res2' : (w2.setCell ⟨w.heap.size + 1 + 1, 7, none⟩ (Value.slice a2 nS nS)).heap[w.heap.size + 1]? = some (.cells #[.string ⟨#[]⟩, .string ⟨#[]⟩, .string ⟨#[]⟩, .int .i64 0, .int .i64 0, .int .i64 0, .slice none 0 0, .slice none 0 0, .slice none 0 0, .slice none 0 0] 34 (0, 0)) := (Below.heap_setCell _ _ _ _ (by show w.heap.size + 1 ≠ w.heap.size + 1 + 1; omega)).trans ((d2.block _ (by omega)).trans HR1.out)
  clear arg2 out2 bw2
  go_wp2_with fail
  generalize hW2 : w2.setCell ⟨w.heap.size + 1 + 1, 7, none⟩ (Value.slice a2 nS nS) = W2 at *
  clear N1
  have N1 := Lib.hid n1_1
  clear n1_1
  have N2 := Lib.hid n2'
  have HA2 := Lib.hid arg2'
  have HO2 := Lib.hid out2'
  have HR2 := Lib.hid res2'
  clear res2'
  have HB2 := Lib.hid bw2'
  clear n2 n2' arg2' out2' bw2' ca2 co2 cf2 hW2 gs2 b1w
  have b2w := HB2.out
  refine (copyInts aB nB cB B _ (I3.out.kept b2w) f6).mono ?_
  rintro e w3 ⟨a3, rfl, n3, d3⟩
  have arg3 := (d3.block _ (by omega)).trans HA2.out
  have out3 := (d3.block _ (by omega)).trans HO2.out
  have bw3 : Below w.heap.size w w3 := HB2.out.trans (d3.mono (HB2.out.size))
  have ca3 : w3.cell? ⟨w.heap.size, 9, none⟩ = some (Value.slice aH nH cH) := by rw [Lib.cell_of_heap arg3]; rfl
  have co3 : w3.cell? ⟨w.heap.size + 1 + 1, 8, none⟩ = some (Value.slice none 0 0) := by rw [Lib.cell_of_heap out3]; rfl
  have cf3 : w3.frozen? ⟨w.heap.size + 1 + 1, 8, none⟩ = false := Lib.frozen_of_heap out3 8
  have arg3' : (w3.setCell ⟨w.heap.size + 1 + 1, 8, none⟩ (Value.slice a3 nB nB)).heap[w.heap.size]? = some (.cells #[Value.string nm, Value.string fr, Value.string to, Value.int IntKind.i64 dep, Value.int IntKind.i64 arr, Value.int IntKind.i64 cap, Value.slice aL nL cL, Value.slice aS nS cS, Value.slice aB nB cB, Value.slice aH nH cH] 58 (0, 0)) := (Below.heap_setCell _ _ _ _ (by show w.heap.size ≠ w.heap.size + 1 + 1; omega)).trans arg3
  have out3' : (w3.setCell ⟨w.heap.size + 1 + 1, 8, none⟩ (Value.slice a3 nB nB)).heap[w.heap.size + 1 + 1]? = some (.cells #[Value.string nm, Value.string fr, Value.string to, Value.int IntKind.i64 dep, Value.int IntKind.i64 arr, Value.int IntKind.i64 cap, Value.slice a1 nL nL, Value.slice a2 nS nS, Value.slice a3 nB nB, Value.slice none 0 0] 34 (0, 0)) := by simp [World.setCell, Array.getElem?_modify, out3]
  have bw3' : Below w.heap.size w (w3.setCell ⟨w.heap.size + 1 + 1, 8, none⟩ (Value.slice a3 nB nB)) := bw3.setCell (p := ⟨w.heap.size + 1 + 1, 8, none⟩) (by show w.heap.size ≤ w.heap.size + 1 + 1; omega) _
  have gs3 := grown_set w3 ⟨w.heap.size + 1 + 1, 8, none⟩ (Value.slice a3 nB nB)
  have n1_2 := (N1.out.far (toGr d3) (fun k e => by cases e)).far gs3 (fun k e => by cases e; show w.heap.size + 1 + 1 < _; omega)
  have n2_2 := (N2.out.far (toGr d3) (fun k e => by cases e)).far gs3 (fun k e => by cases e; show w.heap.size + 1 + 1 < _; omega)
  have n3' := n3.far gs3 (fun k e => by cases e; show w.heap.size + 1 + 1 < _; omega)
  have ssz3 : w3.heap.size ≤ (w3.setCell ⟨w.heap.size + 1 + 1, 8, none⟩ (Value.slice a3 nB nB)).heap.size := gs3.size
  have szz3 := d3.size
  have res3' : (w3.setCell ⟨w.heap.size + 1 + 1, 8, none⟩ (Value.slice a3 nB nB)).heap[w.heap.size + 1]? = some (.cells #[.string ⟨#[]⟩, .string ⟨#[]⟩, .string ⟨#[]⟩, .int .i64 0, .int .i64 0, .int .i64 0, .slice none 0 0, .slice none 0 0, .slice none 0 0, .slice none 0 0] 34 (0, 0)) := (Below.heap_setCell _ _ _ _ (by show w.heap.size + 1 ≠ w.heap.size + 1 + 1; omega)).trans ((d3.block _ (by omega)).trans HR2.out)
  clear arg3 out3 bw3
  go_wp2_with fail
  generalize hW3 : w3.setCell ⟨w.heap.size + 1 + 1, 8, none⟩ (Value.slice a3 nB nB) = W3 at *
  clear N1
  have N1 := Lib.hid n1_2
  clear n1_2
  clear N2
  have N2 := Lib.hid n2_2
  clear n2_2
  have N3 := Lib.hid n3'
  have HA3 := Lib.hid arg3'
  have HO3 := Lib.hid out3'
  have HR3 := Lib.hid res3'
  clear res3'
  have HB3 := Lib.hid bw3'
  clear n3 n3' arg3' out3' bw3' ca3 co3 cf3 hW3 gs3 b2w
  have b3w := HB3.out
  refine (copyHolds aH nH cH t c s _ (I4.out.kept b3w) f7).mono ?_
  rintro e w4 ⟨g4, hg4, rfl, h4, d4⟩
  have out4 := (d4.block _ (by omega)).trans HO3.out
  have bw4 : Below w.heap.size w w4 := HB3.out.trans (d4.mono (HB3.out.size))
  have co4 : w4.cell? ⟨w.heap.size + 1 + 1, 9, none⟩ = some (Value.slice none 0 0) := by rw [Lib.cell_of_heap out4]; rfl
  have cf4 : w4.frozen? ⟨w.heap.size + 1 + 1, 9, none⟩ = false := Lib.frozen_of_heap out4 9
  have out4' : (w4.setCell ⟨w.heap.size + 1 + 1, 9, none⟩ (Value.slice (some ⟨g4, 0, none⟩) nH nH)).heap[w.heap.size + 1 + 1]? = some (.cells #[Value.string nm, Value.string fr, Value.string to, Value.int IntKind.i64 dep, Value.int IntKind.i64 arr, Value.int IntKind.i64 cap, Value.slice a1 nL nL, Value.slice a2 nS nS, Value.slice a3 nB nB, Value.slice (some ⟨g4, 0, none⟩) nH nH] 34 (0, 0)) := by simp [World.setCell, Array.getElem?_modify, out4]
  have bw4' : Below w.heap.size w (w4.setCell ⟨w.heap.size + 1 + 1, 9, none⟩ (Value.slice (some ⟨g4, 0, none⟩) nH nH)) := bw4.setCell (p := ⟨w.heap.size + 1 + 1, 9, none⟩) (by show w.heap.size ≤ w.heap.size + 1 + 1; omega) _
  have gs4 := grown_set w4 ⟨w.heap.size + 1 + 1, 9, none⟩ (Value.slice (some ⟨g4, 0, none⟩) nH nH)
  have m1 := (N1.out.far (toGr d4) (fun k e => by cases e)).far gs4 (fun k e => by cases e; show w.heap.size + 1 + 1 < _; omega)
  have m2 := (N2.out.far (toGr d4) (fun k e => by cases e)).far gs4 (fun k e => by cases e; show w.heap.size + 1 + 1 < _; omega)
  have m3 := (N3.out.far (toGr d4) (fun k e => by cases e)).far gs4 (fun k e => by cases e; show w.heap.size + 1 + 1 < _; omega)
  have m4 := h4.far gs4 (by intro e; simp only [Option.some.injEq] at e; omega)
  have z0 : w4.cell? ⟨w.heap.size + 1 + 1, 0, none⟩ = some (Value.string nm) := by rw [Lib.cell_of_heap out4]; rfl
  have z1 : w4.cell? ⟨w.heap.size + 1 + 1, 1, none⟩ = some (Value.string fr) := by rw [Lib.cell_of_heap out4]; rfl
  have z2 : w4.cell? ⟨w.heap.size + 1 + 1, 2, none⟩ = some (Value.string to) := by rw [Lib.cell_of_heap out4]; rfl
  have z3 : w4.cell? ⟨w.heap.size + 1 + 1, 3, none⟩ = some (Value.int IntKind.i64 dep) := by rw [Lib.cell_of_heap out4]; rfl
  have z4 : w4.cell? ⟨w.heap.size + 1 + 1, 4, none⟩ = some (Value.int IntKind.i64 arr) := by rw [Lib.cell_of_heap out4]; rfl
  have z5 : w4.cell? ⟨w.heap.size + 1 + 1, 5, none⟩ = some (Value.int IntKind.i64 cap) := by rw [Lib.cell_of_heap out4]; rfl
  have z6 : w4.cell? ⟨w.heap.size + 1 + 1, 6, none⟩ = some (Value.slice a1 nL nL) := by rw [Lib.cell_of_heap out4]; rfl
  have z7 : w4.cell? ⟨w.heap.size + 1 + 1, 7, none⟩ = some (Value.slice a2 nS nS) := by rw [Lib.cell_of_heap out4]; rfl
  have z8 : w4.cell? ⟨w.heap.size + 1 + 1, 8, none⟩ = some (Value.slice a3 nB nB) := by rw [Lib.cell_of_heap out4]; rfl
  have res4 : (w4.setCell ⟨w.heap.size + 1 + 1, 9, none⟩ (Value.slice (some ⟨g4, 0, none⟩) nH nH)).heap[w.heap.size + 1]? = some (.cells #[.string ⟨#[]⟩, .string ⟨#[]⟩, .string ⟨#[]⟩, .int .i64 0, .int .i64 0, .int .i64 0, .slice none 0 0, .slice none 0 0, .slice none 0 0, .slice none 0 0] 34 (0, 0)) := (Below.heap_setCell _ _ _ _ (by show w.heap.size + 1 ≠ w.heap.size + 1 + 1; omega)).trans ((d4.block _ (by omega)).trans HR3.out)
  clear out4 bw4
  have one4 : (#[Value.string nm, Value.string fr, Value.string to, Value.int IntKind.i64 dep, Value.int IntKind.i64 arr, Value.int IntKind.i64 cap, Value.slice a1 nL nL, Value.slice a2 nS nS, Value.slice a3 nB nB, Value.slice (some ⟨g4, 0, none⟩) nH nH] : Array Value).all (·.oneCell') = true := by simp [Value.oneCell']
  go_wp2_with (first
    | (refine wpList_store_row rfl 34 _ _ rfl (w.heap.size + 1) #[Value.string nm, Value.string fr, Value.string to, Value.int IntKind.i64 dep, Value.int IntKind.i64 arr, Value.int IntKind.i64 cap, Value.slice a1 nL nL, Value.slice a2 nS nS, Value.slice a3 nB nB, Value.slice (some ⟨g4, 0, none⟩) nH nH] rfl rfl 34 #[.string ⟨#[]⟩, .string ⟨#[]⟩, .string ⟨#[]⟩, .int .i64 0, .int .i64 0, .int .i64 0, .slice none 0 0, .slice none 0 0, .slice none 0 0, .slice none 0 0] res4 legSize rfl one4 ?_)
    | fail)
  generalize w4.setCell ⟨w.heap.size + 1 + 1, 9, none⟩ (Value.slice (some ⟨g4, 0, none⟩) nH nH) = W4 at *
  clear co4 cf4 z0 z1 z2 z3 z4 z5 z6 z7 z8
  have hfin := setRow_heap W4 (w.heap.size + 1) _ #[Value.string nm, Value.string fr, Value.string to, Value.int IntKind.i64 dep, Value.int IntKind.i64 arr, Value.int IntKind.i64 cap, Value.slice a1 nL nL, Value.slice a2 nS nS, Value.slice a3 nB nB, Value.slice (some ⟨g4, 0, none⟩) nH nH] _ _ res4
  have gr := grown_setRow W4 (w.heap.size + 1) #[Value.string nm, Value.string fr, Value.string to, Value.int IntKind.i64 dep, Value.int IntKind.i64 arr, Value.int IntKind.i64 cap, Value.slice a1 nL nL, Value.slice a2 nS nS, Value.slice a3 nB nB, Value.slice (some ⟨g4, 0, none⟩) nH nH]
  have l1 := m1.far gr (fun k e => by cases e; omega)
  have l2 := m2.far gr (fun k e => by cases e; omega)
  have l3 := m3.far gr (fun k e => by cases e; omega)
  have l4 := m4.far gr (by intro e; simp only [Option.some.injEq] at e; omega)
  have bfin : Below w.heap.size w (W4.setRow (w.heap.size + 1) #[Value.string nm, Value.string fr, Value.string to, Value.int IntKind.i64 dep, Value.int IntKind.i64 arr, Value.int IntKind.i64 cap, Value.slice a1 nL nL, Value.slice a2 nS nS, Value.slice a3 nB nB, Value.slice (some ⟨g4, 0, none⟩) nH nH]) := bw4'.grown gr bw4'.size (fun k e => by cases e; omega)
  generalize W4.setRow (w.heap.size + 1) #[Value.string nm, Value.string fr, Value.string to, Value.int IntKind.i64 dep, Value.int IntKind.i64 arr, Value.int IntKind.i64 cap, Value.slice a1 nL nL, Value.slice a2 nS nS, Value.slice a3 nB nB, Value.slice (some ⟨g4, 0, none⟩) nH nH] = W5 at *
  have z0 : W5.cell? ⟨w.heap.size + 1, 0, none⟩ = some (Value.string nm) := by rw [Lib.cell_of_heap hfin]; rfl
  have z1 : W5.cell? ⟨w.heap.size + 1, 1, none⟩ = some (Value.string fr) := by rw [Lib.cell_of_heap hfin]; rfl
  have z2 : W5.cell? ⟨w.heap.size + 1, 2, none⟩ = some (Value.string to) := by rw [Lib.cell_of_heap hfin]; rfl
  have z3 : W5.cell? ⟨w.heap.size + 1, 3, none⟩ = some (Value.int IntKind.i64 dep) := by rw [Lib.cell_of_heap hfin]; rfl
  have z4 : W5.cell? ⟨w.heap.size + 1, 4, none⟩ = some (Value.int IntKind.i64 arr) := by rw [Lib.cell_of_heap hfin]; rfl
  have z5 : W5.cell? ⟨w.heap.size + 1, 5, none⟩ = some (Value.int IntKind.i64 cap) := by rw [Lib.cell_of_heap hfin]; rfl
  have z6 : W5.cell? ⟨w.heap.size + 1, 6, none⟩ = some (Value.slice a1 nL nL) := by rw [Lib.cell_of_heap hfin]; rfl
  have z7 : W5.cell? ⟨w.heap.size + 1, 7, none⟩ = some (Value.slice a2 nS nS) := by rw [Lib.cell_of_heap hfin]; rfl
  have z8 : W5.cell? ⟨w.heap.size + 1, 8, none⟩ = some (Value.slice a3 nB nB) := by rw [Lib.cell_of_heap hfin]; rfl
  have z9 : W5.cell? ⟨w.heap.size + 1, 9, none⟩ = some (Value.slice (some ⟨g4, 0, none⟩) nH nH) := by rw [Lib.cell_of_heap hfin]; rfl
  refine bodyPost_ret (v := .agg #[Value.string nm, Value.string fr, Value.string to, Value.int IntKind.i64 dep, Value.int IntKind.i64 arr, Value.int IntKind.i64 cap, Value.slice a1 nL nL, Value.slice a2 nS nS, Value.slice a3 nB nB, Value.slice (some ⟨g4, 0, none⟩) nH nH]) ?_ rfl ⟨⟨a1, nL, a2, nS, a3, nB, some ⟨g4, 0, none⟩, nH⟩, rfl, ⟨l1.nums, l2.nums, l3.nums, l4⟩, ⟨Nat.le_refl _, Nat.le_refl _, Nat.le_refl _, Nat.le_refl _⟩, fun x hx => ⟨l1.apart (by omega), l2.apart (by omega), l3.apart (by omega), fun _ y hy => by cases hy; show g4 ≠ x; omega⟩, bfin⟩
  rw [results_cell1 rfl]
  go_simp

theorem Nums.apart {w w' : World} {g : Nat} {a : Option Addr} {n : Nat} {z : Nat → Int} (h : Nums w a n z) (ha : 0 < n → ∀ y, a = some y → y.block ≠ g) (hg : w.grownBy w' (some g)) : Nums w' a n z := by
  rcases h with h | ⟨b, off, h1, h2, h3⟩
  · exact .inl h
  · by_cases h0 : n = 0
    · exact .inl h0
    have hne := ha (by omega) _ h1
    have hbk := hg.block b h2 (fun e => hne (Option.some.inj e))
    exact .inr ⟨b, off, h1, Nat.lt_of_lt_of_le h2 hg.size, fun i hi => (World.cell?_of_block (a := ⟨b, off + i, none⟩) hbk).trans (h3 i hi)⟩
theorem Holds.apart {w w' : World} {g : Nat} {a : Option Addr} {n : Nat} {t c s : Nat → Int} (h : Holds w a n t c s) (ha : 0 < n → ∀ y, a = some y → y.block ≠ g) (hg : w.grownBy w' (some g)) : Holds w' a n t c s := by
  rcases h with h | ⟨b, off, h1, h2, h3⟩
  · exact .inl h
  · by_cases h0 : n = 0
    · exact .inl h0
    have hne := ha (by omega) _ h1
    have hbk := hg.block b h2 (fun e => hne (Option.some.inj e))
    exact .inr ⟨b, off, h1, Nat.lt_of_lt_of_le h2 hg.size, fun i hi => ⟨(World.cell?_of_block (a := ⟨b, off + i * 3, none⟩) hbk).trans (h3 i hi).1, (World.cell?_of_block (a := ⟨b, off + i * 3 + 1, none⟩) hbk).trans (h3 i hi).2.1, (World.cell?_of_block (a := ⟨b, off + i * 3 + 2, none⟩) hbk).trans (h3 i hi).2.2⟩⟩
theorem LegIn.apart {w w' : World} {g : Nat} {d : LegD} {p : LegP} (h : LegIn w d p) (ha : Apart g d p) (hg : w.grownBy w' (some g)) : LegIn w' d p := ⟨h.1.apart ha.1 hg, h.2.1.apart ha.2.1 hg, h.2.2.1.apart ha.2.2.1 hg, h.2.2.2.apart ha.2.2.2 hg⟩
set_option maxHeartbeats 4000000 in
theorem eqNet (a a' : Option Addr) (n cap cap' : Nat) (ds : Nat → LegD) (ps qs : Nat → LegP) (w : World) (h : Legs w a n ds ps) (h' : Legs w a' n ds qs) (hf : ∀ i, i < n → Fits (ds i)) (hl : n ≤ 1048576) :
    Calls Try.prog 14 #[.slice a n cap, .slice a' n cap'] w fun e w' => e = .returned (.bool true) ∧ Below w.heap.size w w' := by
  have HF := Lib.hid hf
  have H := Lib.hid h
  have H' := Lib.hid h'
  clear h h' hf
  go_enter Try.func14, Try.ntmps14
  go_wp2_with fail
  go_loopw [5] (fun i wr => ∃ k : Nat, k ≤ n ∧ i = .int .i64 k ∧ Below w.heap.size w wr) (fun i _ => n - (intOf i).toNat)
  case atStart => exact ⟨0, Nat.zero_le _, rfl, Below.refl _ _⟩
  case round =>
    obtain ⟨k, hk, rfl, hb⟩ := hrel
    rcases Nat.lt_or_ge k n with hlt | hge
    · rcases H.out.kept hb with hc | ⟨b, off, rfl, hbl, hrow⟩
      · omega
      rcases H'.out.kept hb with hc' | ⟨b', off', rfl, hbl', hrow'⟩
      · omega
      have HR := Lib.hid (hrow k hlt).1
      have HI := Lib.hid (hrow k hlt).2
      have HR' := Lib.hid (hrow' k hlt).1
      have HI' := Lib.hid (hrow' k hlt).2
      have k1 : (k : Int) < n := by omega
      have k0 : (0 : Int) ≤ k := by omega
      clear hrow hrow' hbl hbl'
      have y0 := HR.out.c0
      have y1 := HR.out.c1
      have y2 := HR.out.c2
      have y3 := HR.out.c3
      have y4 := HR.out.c4
      have y5 := HR.out.c5
      have y6 := HR.out.c6
      have y7 := HR.out.c7
      have y8 := HR.out.c8
      have y9 := HR.out.c9
      have x0 := HR'.out.c0
      have x1 := HR'.out.c1
      have x2 := HR'.out.c2
      have x3 := HR'.out.c3
      have x4 := HR'.out.c4
      have x5 := HR'.out.c5
      have x6 := HR'.out.c6
      have x7 := HR'.out.c7
      have x8 := HR'.out.c8
      have x9 := HR'.out.c9
      go_wp2_with fail
      go_region_with (go_at_call 30; refine (eqLegS (ds k) (ps k) (qs k) _ (HI.out.kept (belowN (Below.refl _ wr) 1)) (HI'.out.kept (belowN (Below.refl _ wr) 1)) (HF.out k hlt)).mono ?_; rintro e w2 ⟨rfl, hb2⟩)
      all_goals
        have hb3 : Below w.heap.size w w2 := hb.trans (Below.trans (belowN (Below.refl _ _) 1) (hb2.mono hb.size))
        clear y0 y1 y2 y3 y4 y5 y6 y7 y8 y9 x0 x1 x2 x3 x4 x5 x6 x7 x8 x9
        go_wp2
        go_roundw
        case rel => exact ⟨k + 1, by omega, by go_num, hb3⟩
        case measure => simp [intOf]; omega
    · obtain rfl : k = n := by omega
      go_wp2
      go_ret
      exact ⟨rfl, hb⟩
end Go.Proofs.Ytjlfbcplocjemaa
