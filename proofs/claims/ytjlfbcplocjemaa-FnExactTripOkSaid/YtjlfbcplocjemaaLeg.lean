/-
  Legs in memory: their size, a copy, and whether two are the same.
-/
import Derived.Test.YtjlfbcplocjemaaHolds
import Derived.Test.YtjlfbcplocjemaaNums
namespace Go.Proofs.Ytjlfbcplocjemaa
open Go.RowKit
set_option linter.unusedVariables false
set_option linter.unusedSimpArgs false

/-- What a leg says, its lists as functions with their lengths. -/
structure LegD where
  name : ByteArray
  fr : ByteArray
  to : ByteArray
  dep : Int
  arr : Int
  cap : Int
  nL : Nat
  L : Nat → Int
  nS : Nat
  S : Nat → Int
  nB : Nat
  B : Nat → Int
  nH : Nat
  t : Nat → Int
  c : Nat → Int
  s : Nat → Int
/-- Where a leg's lists lie. -/
structure LegP where
  aL : Option Addr
  cL : Nat
  aS : Option Addr
  cS : Nat
  aB : Option Addr
  cB : Nat
  aH : Option Addr
  cH : Nat
def LegV (d : LegD) (p : LegP) : Value := .agg #[.string d.name, .string d.fr, .string d.to, .int .i64 d.dep, .int .i64 d.arr, .int .i64 d.cap, .slice p.aL d.nL p.cL, .slice p.aS d.nS p.cS, .slice p.aB d.nB p.cB, .slice p.aH d.nH p.cH]
def LegIn (w : World) (d : LegD) (p : LegP) : Prop := Nums w p.aL d.nL d.L ∧ Nums w p.aS d.nS d.S ∧ Nums w p.aB d.nB d.B ∧ Holds w p.aH d.nH d.t d.c d.s
theorem LegIn.kept {w w' : World} {d : LegD} {p : LegP} (h : LegIn w d p) (hb : Below w.heap.size w w') : LegIn w' d p := ⟨h.1.kept hb, h.2.1.kept hb, h.2.2.1.kept hb, h.2.2.2.kept hb⟩
/-- No list, and no name, is too great. -/
def Fits (d : LegD) : Prop := d.name.size ≤ 1048576 ∧ d.fr.size ≤ 1048576 ∧ d.to.size ≤ 1048576 ∧ d.nL ≤ 1048576 ∧ d.nS ≤ 1048576 ∧ d.nB ≤ 1048576 ∧ d.nH ≤ 1048576
def Wide (d : LegD) : Prop := (d.name.size : Int) ≤ 9223372036854775807 ∧ (d.fr.size : Int) ≤ 9223372036854775807 ∧ (d.to.size : Int) ≤ 9223372036854775807 ∧ (d.nL : Int) ≤ 9223372036854775807 ∧ (d.nS : Int) ≤ 9223372036854775807 ∧ (d.nB : Int) ≤ 9223372036854775807 ∧ (d.nH : Int) ≤ 9223372036854775807

def SzLeg (d : LegD) (w : World) (e : Ending) (w' : World) : Prop := ∃ r : Int, -1 ≤ r ∧ r ≤ 1048576 ∧ e = .returned (.int .i64 r) ∧ Hid (0 ≤ r → Fits d) ∧ Below w.heap.size w w'
set_option maxHeartbeats 4000000 in
theorem szLegS (d : LegD) (p : LegP) (w : World) (hd : Wide d) :
    Calls Try.prog 26 #[LegV d p, .int .i64 1048576] w (SzLeg d w) := by
  obtain ⟨nm, fr, to, dep, arr, cap, nL, L, nS, S, nB, B, nH, t, c, s⟩ := d
  obtain ⟨aL, cL, aS, cS, aB, cB, aH, cH⟩ := p
  obtain ⟨h1, h2, h3, h4, h5, h6, h7⟩ := hd
  dsimp only at h1 h2 h3 h4 h5 h6 h7
  unfold LegV
  dsimp only
  rcases Int.lt_or_le (1048576 - nm.size) 0 with c1 | c1
  · go_enter Try.func26, Try.ntmps26
    go_wp2
    go_ret
    exact ⟨-1, by omega, by omega, rfl, fun h => by omega, (Below.refl _ _).alloc (Nat.le_refl _) _⟩
  rcases Int.lt_or_le (1048576 - nm.size - fr.size) 0 with c2 | c2
  · go_enter Try.func26, Try.ntmps26
    go_wp2
    go_ret
    exact ⟨-1, by omega, by omega, rfl, fun h => by omega, (Below.refl _ _).alloc (Nat.le_refl _) _⟩
  rcases Int.lt_or_le (1048576 - nm.size - fr.size - to.size) 0 with c3 | c3
  · go_enter Try.func26, Try.ntmps26
    go_wp2
    go_ret
    exact ⟨-1, by omega, by omega, rfl, fun h => by omega, (Below.refl _ _).alloc (Nat.le_refl _) _⟩
  go_enter Try.func26, Try.ntmps26
  go_wp2_with fail
  refine (szIntsL aL nL cL _ _ h4 c3 (by omega)).mono ?_
  rintro e w' ⟨r1, hr1, rfl, rfl⟩
  rcases hr1 with ⟨k1, rfl⟩ | ⟨k1, rfl⟩
  rotate_left
  · go_wp2
    go_ret
    exact ⟨-1, by omega, by omega, rfl, fun h => by omega, (Below.refl _ _).alloc (Nat.le_refl _) _⟩
  generalize hR1 : (1048576 - (nm.size : Int) - fr.size - to.size) = R1 at *
  have g1 : decide (R1 - (nL : Int) < 0) = false := by simp; omega
  go_wp2_with fail
  refine (szIntsL aS nS cS _ _ h5 (by omega) (by omega)).mono ?_
  rintro e w' ⟨r2, hr2, rfl, rfl⟩
  rcases hr2 with ⟨k2, rfl⟩ | ⟨k2, rfl⟩
  rotate_left
  · go_wp2
    go_ret
    exact ⟨-1, by omega, by omega, rfl, fun h => by omega, (Below.refl _ _).alloc (Nat.le_refl _) _⟩
  generalize hR2 : R1 - (nL : Int) = R2 at *
  have g2 : decide (R2 - (nS : Int) < 0) = false := by simp; omega
  go_wp2_with fail
  refine (szIntsL aB nB cB _ _ h6 (by omega) (by omega)).mono ?_
  rintro e w' ⟨r3, hr3, rfl, rfl⟩
  rcases hr3 with ⟨k3, rfl⟩ | ⟨k3, rfl⟩
  rotate_left
  · go_wp2
    go_ret
    exact ⟨-1, by omega, by omega, rfl, fun h => by omega, (Below.refl _ _).alloc (Nat.le_refl _) _⟩
  generalize hR3 : R2 - (nS : Int) = R3 at *
  have g3 : decide (R3 - (nB : Int) < 0) = false := by simp; omega
  go_wp2_with fail
  refine (szHolds aH nH cH _ _ h7 (by omega) (by omega)).mono ?_
  rintro e w' ⟨r4, hr4, rfl, rfl⟩
  rcases hr4 with ⟨k4, rfl⟩ | ⟨k4, rfl⟩
  rotate_left
  · go_wp2
    go_ret
    exact ⟨-1, by omega, by omega, rfl, fun h => by omega, (Below.refl _ _).alloc (Nat.le_refl _) _⟩
  generalize hR4 : R3 - (nB : Int) = R4 at *
  have g4 : decide (R4 - (nH : Int) < 0) = false := by simp; omega
  go_wp2
  go_ret
  refine ⟨R4 - nH, by omega, by omega, rfl, fun _ => ⟨?_, ?_, ?_, ?_, ?_, ?_, ?_⟩, (Below.refl _ _).alloc (Nat.le_refl _) _⟩ <;> dsimp only <;> omega

theorem NumsW.far {B : Nat} {w w' : World} {a : Option Addr} {len : Nat} {z : Nat → Int} {row : Option Nat} (h : NumsW B w a len z) (hg : w.grownBy w' row) (hr : ∀ k, row = some k → k < B) : NumsW B w' a len z := by
  rcases h with h | ⟨g, h1, h2, h3, h4⟩
  · exact Or.inl h
  · have e := hg.block g h3 (fun e => by have := hr g e.symm; omega)
    exact Or.inr ⟨g, h1, h2, Nat.lt_of_lt_of_le h3 hg.size, fun i hi => ⟨(World.cell?_of_block (a := ⟨g, i, none⟩) e).trans (h4 i hi).1, (World.frozen?_of_block (a := ⟨g, i, none⟩) e).trans (h4 i hi).2⟩⟩
theorem Holds.far {w w' : World} {g len : Nat} {t c s : Nat → Int} {row : Option Nat} (h : Holds w (some ⟨g, 0, none⟩) len t c s) (hg : w.grownBy w' row) (hr : some g ≠ row) : Holds w' (some ⟨g, 0, none⟩) len t c s := by
  rcases h with h | ⟨b, off, h2, h3, h4⟩
  · exact Or.inl h
  · simp only [Option.some.injEq, Addr.mk.injEq] at h2
    obtain ⟨rfl, rfl, -⟩ := h2
    have e := hg.block g h3 hr
    exact Or.inr ⟨g, 0, rfl, Nat.lt_of_lt_of_le h3 hg.size, fun i hi => ⟨(World.cell?_of_block (a := ⟨g, 0 + i * 3, none⟩) e).trans (h4 i hi).1, (World.cell?_of_block (a := ⟨g, 0 + i * 3 + 1, none⟩) e).trans (h4 i hi).2.1, (World.cell?_of_block (a := ⟨g, 0 + i * 3 + 2, none⟩) e).trans (h4 i hi).2.2⟩⟩

theorem lt_heap {w : World} {b : Nat} {o : Obj} (h : w.heap[b]? = some o) : b < w.heap.size := (Array.getElem?_eq_some_iff.1 h).1
theorem toGr {w w' : World} (h : Below w.heap.size w w') : w.grownBy w' none := below_grown h
theorem legSize : (Try.prog.info? 34).map (·.size) = some 10 := by kernel_rfl
theorem grown_setRow (w : World) (g : Nat) (cs : Array Value) : w.grownBy (w.setRow g cs) (some g) := ⟨rfl, rfl, rfl, by simp, fun k _ hne => setRow_other w g k cs (by intro e; subst e; exact hne rfl)⟩
/-- A copy: its lists lie in new memory, each as long as its room. -/
def CopyLeg (d : LegD) (w : World) (e : Ending) (w' : World) : Prop := ∃ p : LegP, e = .returned (LegV d p) ∧ LegIn w' d p ∧ (d.nL ≤ p.cL ∧ d.nS ≤ p.cS ∧ d.nB ≤ p.cB ∧ d.nH ≤ p.cH) ∧ Below w.heap.size w w'
set_option maxHeartbeats 8000000 in
theorem toLegS (d : LegD) (p : LegP) (w : World) (h : LegIn w d p) (hf : Fits d) :
    Calls Try.prog 28 #[LegV d p] w (CopyLeg d w) := by
  obtain ⟨nm, fr, to, dep, arr, cap, nL, L, nS, S, nB, B, nH, t, c, s⟩ := d
  obtain ⟨aL, cL, aS, cS, aB, cB, aH, cH⟩ := p
  obtain ⟨f1, f2, f3, f4, f5, f6, f7⟩ := hf
  obtain ⟨i1, i2, i3, i4⟩ := h
  dsimp only at f1 f2 f3 f4 f5 f6 f7 i1 i2 i3 i4
  have I1 := Lib.hid i1
  have I2 := Lib.hid i2
  have I3 := Lib.hid i3
  have I4 := Lib.hid i4
  clear i1 i2 i3 i4
  unfold LegV
  dsimp only
  go_enter Try.func28, Try.ntmps28
  go_wp2_with fail
  have hArg : (((w.alloc (.cells #[Value.string nm, Value.string fr, Value.string to, Value.int IntKind.i64 dep, Value.int IntKind.i64 arr, Value.int IntKind.i64 cap, Value.slice aL nL cL, Value.slice aS nS cS, Value.slice aB nB cB, Value.slice aH nH cH] 58)).alloc (.cells #[.string ⟨#[]⟩, .string ⟨#[]⟩, .string ⟨#[]⟩, .int .i64 0, .int .i64 0, .int .i64 0, .slice none 0 0, .slice none 0 0, .slice none 0 0, .slice none 0 0] 34)).alloc (.cells #[Value.string nm, Value.string fr, Value.string to, Value.int IntKind.i64 dep, Value.int IntKind.i64 arr, Value.int IntKind.i64 cap, Value.slice none 0 0, Value.slice none 0 0, Value.slice none 0 0, Value.slice none 0 0] 34)).heap[w.heap.size]? = some (.cells #[Value.string nm, Value.string fr, Value.string to, Value.int IntKind.i64 dep, Value.int IntKind.i64 arr, Value.int IntKind.i64 cap, Value.slice aL nL cL, Value.slice aS nS cS, Value.slice aB nB cB, Value.slice aH nH cH] 58 (0, 0)) := by
    rw [Lib.alloc_old _ _ _ (by simp only [World.size_alloc]; omega), Lib.alloc_old _ _ _ (by simp only [World.size_alloc]; omega)]
    exact heap_alloc_new w _
  have hRes : (((w.alloc (.cells #[Value.string nm, Value.string fr, Value.string to, Value.int IntKind.i64 dep, Value.int IntKind.i64 arr, Value.int IntKind.i64 cap, Value.slice aL nL cL, Value.slice aS nS cS, Value.slice aB nB cB, Value.slice aH nH cH] 58)).alloc (.cells #[.string ⟨#[]⟩, .string ⟨#[]⟩, .string ⟨#[]⟩, .int .i64 0, .int .i64 0, .int .i64 0, .slice none 0 0, .slice none 0 0, .slice none 0 0, .slice none 0 0] 34)).alloc (.cells #[Value.string nm, Value.string fr, Value.string to, Value.int IntKind.i64 dep, Value.int IntKind.i64 arr, Value.int IntKind.i64 cap, Value.slice none 0 0, Value.slice none 0 0, Value.slice none 0 0, Value.slice none 0 0] 34)).heap[w.heap.size + 1]? = some (.cells #[.string ⟨#[]⟩, .string ⟨#[]⟩, .string ⟨#[]⟩, .int .i64 0, .int .i64 0, .int .i64 0, .slice none 0 0, .slice none 0 0, .slice none 0 0, .slice none 0 0] 34 (0, 0)) := by
    rw [Lib.alloc_old _ _ _ (by simp only [World.size_alloc]; omega)]
    have := heap_alloc_new (w.alloc (.cells #[Value.string nm, Value.string fr, Value.string to, Value.int IntKind.i64 dep, Value.int IntKind.i64 arr, Value.int IntKind.i64 cap, Value.slice aL nL cL, Value.slice aS nS cS, Value.slice aB nB cB, Value.slice aH nH cH] 58)) (.cells #[.string ⟨#[]⟩, .string ⟨#[]⟩, .string ⟨#[]⟩, .int .i64 0, .int .i64 0, .int .i64 0, .slice none 0 0, .slice none 0 0, .slice none 0 0, .slice none 0 0] 34)
    simpa only [World.size_alloc] using this
  have hOut : (((w.alloc (.cells #[Value.string nm, Value.string fr, Value.string to, Value.int IntKind.i64 dep, Value.int IntKind.i64 arr, Value.int IntKind.i64 cap, Value.slice aL nL cL, Value.slice aS nS cS, Value.slice aB nB cB, Value.slice aH nH cH] 58)).alloc (.cells #[.string ⟨#[]⟩, .string ⟨#[]⟩, .string ⟨#[]⟩, .int .i64 0, .int .i64 0, .int .i64 0, .slice none 0 0, .slice none 0 0, .slice none 0 0, .slice none 0 0] 34)).alloc (.cells #[Value.string nm, Value.string fr, Value.string to, Value.int IntKind.i64 dep, Value.int IntKind.i64 arr, Value.int IntKind.i64 cap, Value.slice none 0 0, Value.slice none 0 0, Value.slice none 0 0, Value.slice none 0 0] 34)).heap[w.heap.size + 1 + 1]? = some (.cells #[Value.string nm, Value.string fr, Value.string to, Value.int IntKind.i64 dep, Value.int IntKind.i64 arr, Value.int IntKind.i64 cap, Value.slice none 0 0, Value.slice none 0 0, Value.slice none 0 0, Value.slice none 0 0] 34 (0, 0)) := by
    have := heap_alloc_new ((w.alloc (.cells #[Value.string nm, Value.string fr, Value.string to, Value.int IntKind.i64 dep, Value.int IntKind.i64 arr, Value.int IntKind.i64 cap, Value.slice aL nL cL, Value.slice aS nS cS, Value.slice aB nB cB, Value.slice aH nH cH] 58)).alloc (.cells #[.string ⟨#[]⟩, .string ⟨#[]⟩, .string ⟨#[]⟩, .int .i64 0, .int .i64 0, .int .i64 0, .slice none 0 0, .slice none 0 0, .slice none 0 0, .slice none 0 0] 34)) (.cells #[Value.string nm, Value.string fr, Value.string to, Value.int IntKind.i64 dep, Value.int IntKind.i64 arr, Value.int IntKind.i64 cap, Value.slice none 0 0, Value.slice none 0 0, Value.slice none 0 0, Value.slice none 0 0] 34)
    simpa only [World.size_alloc] using this
  have hAB : Below w.heap.size w (((w.alloc (.cells #[Value.string nm, Value.string fr, Value.string to, Value.int IntKind.i64 dep, Value.int IntKind.i64 arr, Value.int IntKind.i64 cap, Value.slice aL nL cL, Value.slice aS nS cS, Value.slice aB nB cB, Value.slice aH nH cH] 58)).alloc (.cells #[.string ⟨#[]⟩, .string ⟨#[]⟩, .string ⟨#[]⟩, .int .i64 0, .int .i64 0, .int .i64 0, .slice none 0 0, .slice none 0 0, .slice none 0 0, .slice none 0 0] 34)).alloc (.cells #[Value.string nm, Value.string fr, Value.string to, Value.int IntKind.i64 dep, Value.int IntKind.i64 arr, Value.int IntKind.i64 cap, Value.slice none 0 0, Value.slice none 0 0, Value.slice none 0 0, Value.slice none 0 0] 34)) :=
    ((((Below.refl _ _).alloc (Nat.le_refl _) _).alloc (by simp only [World.size_alloc]; omega) _).alloc (by simp only [World.size_alloc]; omega) _)
  generalize (((w.alloc (.cells #[Value.string nm, Value.string fr, Value.string to, Value.int IntKind.i64 dep, Value.int IntKind.i64 arr, Value.int IntKind.i64 cap, Value.slice aL nL cL, Value.slice aS nS cS, Value.slice aB nB cB, Value.slice aH nH cH] 58)).alloc (.cells #[.string ⟨#[]⟩, .string ⟨#[]⟩, .string ⟨#[]⟩, .int .i64 0, .int .i64 0, .int .i64 0, .slice none 0 0, .slice none 0 0, .slice none 0 0, .slice none 0 0] 34)).alloc (.cells #[Value.string nm, Value.string fr, Value.string to, Value.int IntKind.i64 dep, Value.int IntKind.i64 arr, Value.int IntKind.i64 cap, Value.slice none 0 0, Value.slice none 0 0, Value.slice none 0 0, Value.slice none 0 0] 34)) = A at *
  have sA := lt_heap hOut
  have HA0 := Lib.hid hArg
  have HO0 := Lib.hid hOut
  have HR0 := Lib.hid hRes
  have HB0 := Lib.hid hAB
  clear hArg hOut hAB hRes
  have b0w := HB0.out
  refine (copyInts aL nL cL L _ (I1.out.kept b0w) f4).mono ?_
  rintro e w1 ⟨a1, rfl, n1, d1⟩
  have arg1 := (d1.block _ (by omega)).trans HA0.out
  have out1 := (d1.block _ (by omega)).trans HO0.out
  have bw1 : Below w.heap.size w w1 := HB0.out.trans (d1.mono (HB0.out.size))
  have ca1 : w1.cell? ⟨w.heap.size, 7, none⟩ = some (Value.slice aS nS cS) := by rw [Lib.cell_of_heap arg1]; rfl
  have co1 : w1.cell? ⟨w.heap.size + 1 + 1, 6, none⟩ = some (Value.slice none 0 0) := by rw [Lib.cell_of_heap out1]; rfl
  have cf1 : w1.frozen? ⟨w.heap.size + 1 + 1, 6, none⟩ = false := Lib.frozen_of_heap out1 6
  have arg1' : (w1.setCell ⟨w.heap.size + 1 + 1, 6, none⟩ (Value.slice a1 nL nL)).heap[w.heap.size]? = some (.cells #[Value.string nm, Value.string fr, Value.string to, Value.int IntKind.i64 dep, Value.int IntKind.i64 arr, Value.int IntKind.i64 cap, Value.slice aL nL cL, Value.slice aS nS cS, Value.slice aB nB cB, Value.slice aH nH cH] 58 (0, 0)) := (Below.heap_setCell _ _ _ _ (by show w.heap.size ≠ w.heap.size + 1 + 1; omega)).trans arg1
  have out1' : (w1.setCell ⟨w.heap.size + 1 + 1, 6, none⟩ (Value.slice a1 nL nL)).heap[w.heap.size + 1 + 1]? = some (.cells #[Value.string nm, Value.string fr, Value.string to, Value.int IntKind.i64 dep, Value.int IntKind.i64 arr, Value.int IntKind.i64 cap, Value.slice a1 nL nL, Value.slice none 0 0, Value.slice none 0 0, Value.slice none 0 0] 34 (0, 0)) := by simp [World.setCell, Array.getElem?_modify, out1]
  have bw1' : Below w.heap.size w (w1.setCell ⟨w.heap.size + 1 + 1, 6, none⟩ (Value.slice a1 nL nL)) := bw1.setCell (p := ⟨w.heap.size + 1 + 1, 6, none⟩) (by show w.heap.size ≤ w.heap.size + 1 + 1; omega) _
  have gs1 := grown_set w1 ⟨w.heap.size + 1 + 1, 6, none⟩ (Value.slice a1 nL nL)
  have n1' := n1.far gs1 (fun k e => by cases e; show w.heap.size + 1 + 1 < _; omega)
  have ssz1 : w1.heap.size ≤ (w1.setCell ⟨w.heap.size + 1 + 1, 6, none⟩ (Value.slice a1 nL nL)).heap.size := gs1.size
  have szz1 := d1.size
  have res1' : (w1.setCell ⟨w.heap.size + 1 + 1, 6, none⟩ (Value.slice a1 nL nL)).heap[w.heap.size + 1]? = some (.cells #[.string ⟨#[]⟩, .string ⟨#[]⟩, .string ⟨#[]⟩, .int .i64 0, .int .i64 0, .int .i64 0, .slice none 0 0, .slice none 0 0, .slice none 0 0, .slice none 0 0] 34 (0, 0)) := (Below.heap_setCell _ _ _ _ (by show w.heap.size + 1 ≠ w.heap.size + 1 + 1; omega)).trans ((d1.block _ (by omega)).trans HR0.out)
  clear arg1 out1 bw1
  go_wp2_with fail
  generalize hW1 : w1.setCell ⟨w.heap.size + 1 + 1, 6, none⟩ (Value.slice a1 nL nL) = W1 at *
  have N1 := Lib.hid n1'
  have HA1 := Lib.hid arg1'
  have HO1 := Lib.hid out1'
  have HR1 := Lib.hid res1'
  clear res1'
  have HB1 := Lib.hid bw1'
  clear n1 n1' arg1' out1' bw1' ca1 co1 cf1 hW1 gs1 b0w
  have b1w := HB1.out
  refine (copyInts aS nS cS S _ (I2.out.kept b1w) f5).mono ?_
  rintro e w2 ⟨a2, rfl, n2, d2⟩
  have arg2 := (d2.block _ (by omega)).trans HA1.out
  have out2 := (d2.block _ (by omega)).trans HO1.out
  have bw2 : Below w.heap.size w w2 := HB1.out.trans (d2.mono (HB1.out.size))
  have ca2 : w2.cell? ⟨w.heap.size, 8, none⟩ = some (Value.slice aB nB cB) := by rw [Lib.cell_of_heap arg2]; rfl
  have co2 : w2.cell? ⟨w.heap.size + 1 + 1, 7, none⟩ = some (Value.slice none 0 0) := by rw [Lib.cell_of_heap out2]; rfl
  have cf2 : w2.frozen? ⟨w.heap.size + 1 + 1, 7, none⟩ = false := Lib.frozen_of_heap out2 7
  have arg2' : (w2.setCell ⟨w.heap.size + 1 + 1, 7, none⟩ (Value.slice a2 nS nS)).heap[w.heap.size]? = some (.cells #[Value.string nm, Value.string fr, Value.string to, Value.int IntKind.i64 dep, Value.int IntKind.i64 arr, Value.int IntKind.i64 cap, Value.slice aL nL cL, Value.slice aS nS cS, Value.slice aB nB cB, Value.slice aH nH cH] 58 (0, 0)) := (Below.heap_setCell _ _ _ _ (by show w.heap.size ≠ w.heap.size + 1 + 1; omega)).trans arg2
  have out2' : (w2.setCell ⟨w.heap.size + 1 + 1, 7, none⟩ (Value.slice a2 nS nS)).heap[w.heap.size + 1 + 1]? = some (.cells #[Value.string nm, Value.string fr, Value.string to, Value.int IntKind.i64 dep, Value.int IntKind.i64 arr, Value.int IntKind.i64 cap, Value.slice a1 nL nL, Value.slice a2 nS nS, Value.slice none 0 0, Value.slice none 0 0] 34 (0, 0)) := by simp [World.setCell, Array.getElem?_modify, out2]
  have bw2' : Below w.heap.size w (w2.setCell ⟨w.heap.size + 1 + 1, 7, none⟩ (Value.slice a2 nS nS)) := bw2.setCell (p := ⟨w.heap.size + 1 + 1, 7, none⟩) (by show w.heap.size ≤ w.heap.size + 1 + 1; omega) _
  have gs2 := grown_set w2 ⟨w.heap.size + 1 + 1, 7, none⟩ (Value.slice a2 nS nS)
  have n1_1 := (N1.out.far (toGr d2) (fun k e => by cases e)).far gs2 (fun k e => by cases e; show w.heap.size + 1 + 1 < _; omega)
  have n2' := n2.far gs2 (fun k e => by cases e; show w.heap.size + 1 + 1 < _; omega)
  have ssz2 : w2.heap.size ≤ (w2.setCell ⟨w.heap.size + 1 + 1, 7, none⟩ (Value.slice a2 nS nS)).heap.size := gs2.size
  have szz2 := d2.size
  have res2' : (w2.setCell ⟨w.heap.size + 1 + 1, 7, none⟩ (Value.slice a2 nS nS)).heap[w.heap.size + 1]? = some (.cells #[.string ⟨#[]⟩, .string ⟨#[]⟩, .string ⟨#[]⟩, .int .i64 0, .int .i64 0, .int .i64 0, .slice none 0 0, .slice none 0 0, .slice none 0 0, .slice none 0 0] 34 (0, 0)) := (Below.heap_setCell _ _ _ _ (by show w.heap.size + 1 ≠ w.heap.size + 1 + 1; omega)).trans ((d2.block _ (by omega)).trans HR1.out)
  clear arg2 out2 bw2
  go_wp2_with fail
  generalize hW2 : w2.setCell ⟨w.heap.size + 1 + 1, 7, none⟩ (Value.slice a2 nS nS) = W2 at *
  clear N1
  have N1 := Lib.hid n1_1
  clear n1_1
  have N2 := Lib.hid n2'
  have HA2 := Lib.hid arg2'
  have HO2 := Lib.hid out2'
  have HR2 := Lib.hid res2'
  clear res2'
  have HB2 := Lib.hid bw2'
  clear n2 n2' arg2' out2' bw2' ca2 co2 cf2 hW2 gs2 b1w
  have b2w := HB2.out
  refine (copyInts aB nB cB B _ (I3.out.kept b2w) f6).mono ?_
  rintro e w3 ⟨a3, rfl, n3, d3⟩
  have arg3 := (d3.block _ (by omega)).trans HA2.out
  have out3 := (d3.block _ (by omega)).trans HO2.out
  have bw3 : Below w.heap.size w w3 := HB2.out.trans (d3.mono (HB2.out.size))
  have ca3 : w3.cell? ⟨w.heap.size, 9, none⟩ = some (Value.slice aH nH cH) := by rw [Lib.cell_of_heap arg3]; rfl
  have co3 : w3.cell? ⟨w.heap.size + 1 + 1, 8, none⟩ = some (Value.slice none 0 0) := by rw [Lib.cell_of_heap out3]; rfl
  have cf3 : w3.frozen? ⟨w.heap.size + 1 + 1, 8, none⟩ = false := Lib.frozen_of_heap out3 8
  have arg3' : (w3.setCell ⟨w.heap.size + 1 + 1, 8, none⟩ (Value.slice a3 nB nB)).heap[w.heap.size]? = some (.cells #[Value.string nm, Value.string fr, Value.string to, Value.int IntKind.i64 dep, Value.int IntKind.i64 arr, Value.int IntKind.i64 cap, Value.slice aL nL cL, Value.slice aS nS cS, Value.slice aB nB cB, Value.slice aH nH cH] 58 (0, 0)) := (Below.heap_setCell _ _ _ _ (by show w.heap.size ≠ w.heap.size + 1 + 1; omega)).trans arg3
  have out3' : (w3.setCell ⟨w.heap.size + 1 + 1, 8, none⟩ (Value.slice a3 nB nB)).heap[w.heap.size + 1 + 1]? = some (.cells #[Value.string nm, Value.string fr, Value.string to, Value.int IntKind.i64 dep, Value.int IntKind.i64 arr, Value.int IntKind.i64 cap, Value.slice a1 nL nL, Value.slice a2 nS nS, Value.slice a3 nB nB, Value.slice none 0 0] 34 (0, 0)) := by simp [World.setCell, Array.getElem?_modify, out3]
  have bw3' : Below w.heap.size w (w3.setCell ⟨w.heap.size + 1 + 1, 8, none⟩ (Value.slice a3 nB nB)) := bw3.setCell (p := ⟨w.heap.size + 1 + 1, 8, none⟩) (by show w.heap.size ≤ w.heap.size + 1 + 1; omega) _
  have gs3 := grown_set w3 ⟨w.heap.size + 1 + 1, 8, none⟩ (Value.slice a3 nB nB)
  have n1_2 := (N1.out.far (toGr d3) (fun k e => by cases e)).far gs3 (fun k e => by cases e; show w.heap.size + 1 + 1 < _; omega)
  have n2_2 := (N2.out.far (toGr d3) (fun k e => by cases e)).far gs3 (fun k e => by cases e; show w.heap.size + 1 + 1 < _; omega)
  have n3' := n3.far gs3 (fun k e => by cases e; show w.heap.size + 1 + 1 < _; omega)
  have ssz3 : w3.heap.size ≤ (w3.setCell ⟨w.heap.size + 1 + 1, 8, none⟩ (Value.slice a3 nB nB)).heap.size := gs3.size
  have szz3 := d3.size
  have res3' : (w3.setCell ⟨w.heap.size + 1 + 1, 8, none⟩ (Value.slice a3 nB nB)).heap[w.heap.size + 1]? = some (.cells #[.string ⟨#[]⟩, .string ⟨#[]⟩, .string ⟨#[]⟩, .int .i64 0, .int .i64 0, .int .i64 0, .slice none 0 0, .slice none 0 0, .slice none 0 0, .slice none 0 0] 34 (0, 0)) := (Below.heap_setCell _ _ _ _ (by show w.heap.size + 1 ≠ w.heap.size + 1 + 1; omega)).trans ((d3.block _ (by omega)).trans HR2.out)
  clear arg3 out3 bw3
  go_wp2_with fail
  generalize hW3 : w3.setCell ⟨w.heap.size + 1 + 1, 8, none⟩ (Value.slice a3 nB nB) = W3 at *
  clear N1
  have N1 := Lib.hid n1_2
  clear n1_2
  clear N2
  have N2 := Lib.hid n2_2
  clear n2_2
  have N3 := Lib.hid n3'
  have HA3 := Lib.hid arg3'
  have HO3 := Lib.hid out3'
  have HR3 := Lib.hid res3'
  clear res3'
  have HB3 := Lib.hid bw3'
  clear n3 n3' arg3' out3' bw3' ca3 co3 cf3 hW3 gs3 b2w
  have b3w := HB3.out
  refine (copyHolds aH nH cH t c s _ (I4.out.kept b3w) f7).mono ?_
  rintro e w4 ⟨g4, hg4, rfl, h4, d4⟩
  have out4 := (d4.block _ (by omega)).trans HO3.out
  have bw4 : Below w.heap.size w w4 := HB3.out.trans (d4.mono (HB3.out.size))
  have co4 : w4.cell? ⟨w.heap.size + 1 + 1, 9, none⟩ = some (Value.slice none 0 0) := by rw [Lib.cell_of_heap out4]; rfl
  have cf4 : w4.frozen? ⟨w.heap.size + 1 + 1, 9, none⟩ = false := Lib.frozen_of_heap out4 9
  have out4' : (w4.setCell ⟨w.heap.size + 1 + 1, 9, none⟩ (Value.slice (some ⟨g4, 0, none⟩) nH nH)).heap[w.heap.size + 1 + 1]? = some (.cells #[Value.string nm, Value.string fr, Value.string to, Value.int IntKind.i64 dep, Value.int IntKind.i64 arr, Value.int IntKind.i64 cap, Value.slice a1 nL nL, Value.slice a2 nS nS, Value.slice a3 nB nB, Value.slice (some ⟨g4, 0, none⟩) nH nH] 34 (0, 0)) := by simp [World.setCell, Array.getElem?_modify, out4]
  have bw4' : Below w.heap.size w (w4.setCell ⟨w.heap.size + 1 + 1, 9, none⟩ (Value.slice (some ⟨g4, 0, none⟩) nH nH)) := bw4.setCell (p := ⟨w.heap.size + 1 + 1, 9, none⟩) (by show w.heap.size ≤ w.heap.size + 1 + 1; omega) _
  have gs4 := grown_set w4 ⟨w.heap.size + 1 + 1, 9, none⟩ (Value.slice (some ⟨g4, 0, none⟩) nH nH)
  have m1 := (N1.out.far (toGr d4) (fun k e => by cases e)).far gs4 (fun k e => by cases e; show w.heap.size + 1 + 1 < _; omega)
  have m2 := (N2.out.far (toGr d4) (fun k e => by cases e)).far gs4 (fun k e => by cases e; show w.heap.size + 1 + 1 < _; omega)
  have m3 := (N3.out.far (toGr d4) (fun k e => by cases e)).far gs4 (fun k e => by cases e; show w.heap.size + 1 + 1 < _; omega)
  have m4 := h4.far gs4 (by intro e; simp only [Option.some.injEq] at e; omega)
  have z0 : w4.cell? ⟨w.heap.size + 1 + 1, 0, none⟩ = some (Value.string nm) := by rw [Lib.cell_of_heap out4]; rfl
  have z1 : w4.cell? ⟨w.heap.size + 1 + 1, 1, none⟩ = some (Value.string fr) := by rw [Lib.cell_of_heap out4]; rfl
  have z2 : w4.cell? ⟨w.heap.size + 1 + 1, 2, none⟩ = some (Value.string to) := by rw [Lib.cell_of_heap out4]; rfl
  have z3 : w4.cell? ⟨w.heap.size + 1 + 1, 3, none⟩ = some (Value.int IntKind.i64 dep) := by rw [Lib.cell_of_heap out4]; rfl
  have z4 : w4.cell? ⟨w.heap.size + 1 + 1, 4, none⟩ = some (Value.int IntKind.i64 arr) := by rw [Lib.cell_of_heap out4]; rfl
  have z5 : w4.cell? ⟨w.heap.size + 1 + 1, 5, none⟩ = some (Value.int IntKind.i64 cap) := by rw [Lib.cell_of_heap out4]; rfl
  have z6 : w4.cell? ⟨w.heap.size + 1 + 1, 6, none⟩ = some (Value.slice a1 nL nL) := by rw [Lib.cell_of_heap out4]; rfl
  have z7 : w4.cell? ⟨w.heap.size + 1 + 1, 7, none⟩ = some (Value.slice a2 nS nS) := by rw [Lib.cell_of_heap out4]; rfl
  have z8 : w4.cell? ⟨w.heap.size + 1 + 1, 8, none⟩ = some (Value.slice a3 nB nB) := by rw [Lib.cell_of_heap out4]; rfl
  have res4 : (w4.setCell ⟨w.heap.size + 1 + 1, 9, none⟩ (Value.slice (some ⟨g4, 0, none⟩) nH nH)).heap[w.heap.size + 1]? = some (.cells #[.string ⟨#[]⟩, .string ⟨#[]⟩, .string ⟨#[]⟩, .int .i64 0, .int .i64 0, .int .i64 0, .slice none 0 0, .slice none 0 0, .slice none 0 0, .slice none 0 0] 34 (0, 0)) := (Below.heap_setCell _ _ _ _ (by show w.heap.size + 1 ≠ w.heap.size + 1 + 1; omega)).trans ((d4.block _ (by omega)).trans HR3.out)
  clear out4 bw4
  have one4 : (#[Value.string nm, Value.string fr, Value.string to, Value.int IntKind.i64 dep, Value.int IntKind.i64 arr, Value.int IntKind.i64 cap, Value.slice a1 nL nL, Value.slice a2 nS nS, Value.slice a3 nB nB, Value.slice (some ⟨g4, 0, none⟩) nH nH] : Array Value).all (·.oneCell') = true := by simp [Value.oneCell']
  go_wp2_with (first
    | (refine wpList_store_row rfl 34 _ _ rfl (w.heap.size + 1) #[Value.string nm, Value.string fr, Value.string to, Value.int IntKind.i64 dep, Value.int IntKind.i64 arr, Value.int IntKind.i64 cap, Value.slice a1 nL nL, Value.slice a2 nS nS, Value.slice a3 nB nB, Value.slice (some ⟨g4, 0, none⟩) nH nH] rfl rfl 34 #[.string ⟨#[]⟩, .string ⟨#[]⟩, .string ⟨#[]⟩, .int .i64 0, .int .i64 0, .int .i64 0, .slice none 0 0, .slice none 0 0, .slice none 0 0, .slice none 0 0] res4 legSize rfl one4 ?_)
    | fail)
  generalize w4.setCell ⟨w.heap.size + 1 + 1, 9, none⟩ (Value.slice (some ⟨g4, 0, none⟩) nH nH) = W4 at *
  clear co4 cf4 z0 z1 z2 z3 z4 z5 z6 z7 z8
  have hfin := setRow_heap W4 (w.heap.size + 1) _ #[Value.string nm, Value.string fr, Value.string to, Value.int IntKind.i64 dep, Value.int IntKind.i64 arr, Value.int IntKind.i64 cap, Value.slice a1 nL nL, Value.slice a2 nS nS, Value.slice a3 nB nB, Value.slice (some ⟨g4, 0, none⟩) nH nH] _ _ res4
  have gr := grown_setRow W4 (w.heap.size + 1) #[Value.string nm, Value.string fr, Value.string to, Value.int IntKind.i64 dep, Value.int IntKind.i64 arr, Value.int IntKind.i64 cap, Value.slice a1 nL nL, Value.slice a2 nS nS, Value.slice a3 nB nB, Value.slice (some ⟨g4, 0, none⟩) nH nH]
  have l1 := m1.far gr (fun k e => by cases e; omega)
  have l2 := m2.far gr (fun k e => by cases e; omega)
  have l3 := m3.far gr (fun k e => by cases e; omega)
  have l4 := m4.far gr (by intro e; simp only [Option.some.injEq] at e; omega)
  have bfin : Below w.heap.size w (W4.setRow (w.heap.size + 1) #[Value.string nm, Value.string fr, Value.string to, Value.int IntKind.i64 dep, Value.int IntKind.i64 arr, Value.int IntKind.i64 cap, Value.slice a1 nL nL, Value.slice a2 nS nS, Value.slice a3 nB nB, Value.slice (some ⟨g4, 0, none⟩) nH nH]) := bw4'.grown gr bw4'.size (fun k e => by cases e; omega)
  generalize W4.setRow (w.heap.size + 1) #[Value.string nm, Value.string fr, Value.string to, Value.int IntKind.i64 dep, Value.int IntKind.i64 arr, Value.int IntKind.i64 cap, Value.slice a1 nL nL, Value.slice a2 nS nS, Value.slice a3 nB nB, Value.slice (some ⟨g4, 0, none⟩) nH nH] = W5 at *
  have z0 : W5.cell? ⟨w.heap.size + 1, 0, none⟩ = some (Value.string nm) := by rw [Lib.cell_of_heap hfin]; rfl
  have z1 : W5.cell? ⟨w.heap.size + 1, 1, none⟩ = some (Value.string fr) := by rw [Lib.cell_of_heap hfin]; rfl
  have z2 : W5.cell? ⟨w.heap.size + 1, 2, none⟩ = some (Value.string to) := by rw [Lib.cell_of_heap hfin]; rfl
  have z3 : W5.cell? ⟨w.heap.size + 1, 3, none⟩ = some (Value.int IntKind.i64 dep) := by rw [Lib.cell_of_heap hfin]; rfl
  have z4 : W5.cell? ⟨w.heap.size + 1, 4, none⟩ = some (Value.int IntKind.i64 arr) := by rw [Lib.cell_of_heap hfin]; rfl
  have z5 : W5.cell? ⟨w.heap.size + 1, 5, none⟩ = some (Value.int IntKind.i64 cap) := by rw [Lib.cell_of_heap hfin]; rfl
  have z6 : W5.cell? ⟨w.heap.size + 1, 6, none⟩ = some (Value.slice a1 nL nL) := by rw [Lib.cell_of_heap hfin]; rfl
  have z7 : W5.cell? ⟨w.heap.size + 1, 7, none⟩ = some (Value.slice a2 nS nS) := by rw [Lib.cell_of_heap hfin]; rfl
  have z8 : W5.cell? ⟨w.heap.size + 1, 8, none⟩ = some (Value.slice a3 nB nB) := by rw [Lib.cell_of_heap hfin]; rfl
  have z9 : W5.cell? ⟨w.heap.size + 1, 9, none⟩ = some (Value.slice (some ⟨g4, 0, none⟩) nH nH) := by rw [Lib.cell_of_heap hfin]; rfl
  refine bodyPost_ret (v := .agg #[Value.string nm, Value.string fr, Value.string to, Value.int IntKind.i64 dep, Value.int IntKind.i64 arr, Value.int IntKind.i64 cap, Value.slice a1 nL nL, Value.slice a2 nS nS, Value.slice a3 nB nB, Value.slice (some ⟨g4, 0, none⟩) nH nH]) ?_ rfl ⟨⟨a1, nL, a2, nS, a3, nB, some ⟨g4, 0, none⟩, nH⟩, rfl, ⟨l1.nums, l2.nums, l3.nums, l4⟩, ⟨Nat.le_refl _, Nat.le_refl _, Nat.le_refl _, Nat.le_refl _⟩, bfin⟩
  rw [results_cell1 rfl]
  go_simp

set_option maxHeartbeats 4000000 in
theorem eqLegS (d : LegD) (p q : LegP) (w : World) (h : LegIn w d p) (h' : LegIn w d q) (hf : Fits d) :
    Calls Try.prog 30 #[LegV d p, LegV d q] w fun e w' => e = .returned (.bool true) ∧ Below w.heap.size w w' := by
  obtain ⟨nm, fr, to, dep, arr, cap, nL, L, nS, S, nB, B, nH, t, c, s⟩ := d
  obtain ⟨aL, cL, aS, cS, aB, cB, aH, cH⟩ := p
  obtain ⟨bL, kL, bS, kS, bB, kB, bH, kH⟩ := q
  obtain ⟨f1, f2, f3, f4, f5, f6, f7⟩ := hf
  obtain ⟨i1, i2, i3, i4⟩ := h
  obtain ⟨j1, j2, j3, j4⟩ := h'
  dsimp only at f1 f2 f3 f4 f5 f6 f7 i1 i2 i3 i4 j1 j2 j3 j4
  have I1 := Lib.hid i1
  have I2 := Lib.hid i2
  have I3 := Lib.hid i3
  have I4 := Lib.hid i4
  have J1 := Lib.hid j1
  have J2 := Lib.hid j2
  have J3 := Lib.hid j3
  have J4 := Lib.hid j4
  clear i1 i2 i3 i4 j1 j2 j3 j4
  unfold LegV
  dsimp only
  go_enter Try.func30, Try.ntmps30
  go_wp2_with fail
  have hA : Below w.heap.size w ((w.alloc (.cells #[Value.string nm, Value.string fr, Value.string to, Value.int IntKind.i64 dep, Value.int IntKind.i64 arr, Value.int IntKind.i64 cap, Value.slice aL nL cL, Value.slice aS nS cS, Value.slice aB nB cB, Value.slice aH nH cH] 34)).alloc (.cells #[Value.string nm, Value.string fr, Value.string to, Value.int IntKind.i64 dep, Value.int IntKind.i64 arr, Value.int IntKind.i64 cap, Value.slice bL nL kL, Value.slice bS nS kS, Value.slice bB nB kB, Value.slice bH nH kH] 34)) := ((Below.refl _ _).alloc (Nat.le_refl _) _).alloc (by simp only [World.size_alloc]; omega) _
  have HA := Lib.hid hA
  clear hA
  refine (eqInts aL bL nL _ _ L _ (I1.out.kept HA.out) (J1.out.kept HA.out) f4).mono ?_
  rintro e w' ⟨rfl, q1, rfl⟩
  go_wp2_with fail
  refine (eqInts aS bS nS _ _ S _ (I2.out.kept (belowN HA.out _)) (J2.out.kept (belowN HA.out _)) f5).mono ?_
  rintro e w' ⟨rfl, q2, rfl⟩
  go_wp2_with fail
  refine (eqInts aB bB nB _ _ B _ (I3.out.kept (belowN HA.out _)) (J3.out.kept (belowN HA.out _)) f6).mono ?_
  rintro e w' ⟨rfl, q3, rfl⟩
  go_wp2_with fail
  refine (eqHolds aH bH nH _ _ t c s _ (I4.out.kept (belowN HA.out _)) (J4.out.kept (belowN HA.out _)) f7).mono ?_
  rintro e w' ⟨rfl, hb⟩
  go_wp2
  go_ret
  exact ⟨rfl, (belowN HA.out _).trans (hb.mono (belowN HA.out _).size)⟩
end Go.Proofs.Ytjlfbcplocjemaa
