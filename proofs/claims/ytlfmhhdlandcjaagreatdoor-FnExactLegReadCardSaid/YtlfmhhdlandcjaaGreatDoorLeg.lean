/-
  Legs in memory: their size, a copy, and whether two are the same.
-/
import Derived.Test.YtlfmhhdlandcjaaGreatDoorHolds
import Derived.Test.YtlfmhhdlandcjaaGreatDoorNums
namespace Go.Proofs.YtlfmhhdlandcjaaGreatDoor
open Go.RowKit
set_option linter.unusedVariables false
set_option linter.unusedSimpArgs false

/-- What a leg says, its lists as functions with their lengths. -/
structure LegD where
  name : ByteArray
  fr : ByteArray
  to : ByteArray
  dep : Int
  arr : Int
  cap : Int
  nL : Nat
  L : Nat → Int
  nS : Nat
  S : Nat → Int
  nB : Nat
  B : Nat → Int
  nH : Nat
  t : Nat → Int
  c : Nat → Int
  s : Nat → Int
/-- Where a leg's lists lie. -/
structure LegP where
  aL : Option Addr
  cL : Nat
  aS : Option Addr
  cS : Nat
  aB : Option Addr
  cB : Nat
  aH : Option Addr
  cH : Nat
def LegV (d : LegD) (p : LegP) : Value := .agg #[.string d.name, .string d.fr, .string d.to, .int .i64 d.dep, .int .i64 d.arr, .int .i64 d.cap, .slice p.aL d.nL p.cL, .slice p.aS d.nS p.cS, .slice p.aB d.nB p.cB, .slice p.aH d.nH p.cH]
def LegIn (w : World) (d : LegD) (p : LegP) : Prop := Nums w p.aL d.nL d.L ∧ Nums w p.aS d.nS d.S ∧ Nums w p.aB d.nB d.B ∧ Holds w p.aH d.nH d.t d.c d.s
theorem LegIn.kept {w w' : World} {d : LegD} {p : LegP} (h : LegIn w d p) (hb : Below w.heap.size w w') : LegIn w' d p := ⟨h.1.kept hb, h.2.1.kept hb, h.2.2.1.kept hb, h.2.2.2.kept hb⟩
/-- No list, and no name, is too great. -/
def Fits (d : LegD) : Prop := d.name.size ≤ 1048576 ∧ d.fr.size ≤ 1048576 ∧ d.to.size ≤ 1048576 ∧ d.nL ≤ 1048576 ∧ d.nS ≤ 1048576 ∧ d.nB ≤ 1048576 ∧ d.nH ≤ 1048576
def Wide (d : LegD) : Prop := (d.name.size : Int) ≤ 9223372036854775807 ∧ (d.fr.size : Int) ≤ 9223372036854775807 ∧ (d.to.size : Int) ≤ 9223372036854775807 ∧ (d.nL : Int) ≤ 9223372036854775807 ∧ (d.nS : Int) ≤ 9223372036854775807 ∧ (d.nB : Int) ≤ 9223372036854775807 ∧ (d.nH : Int) ≤ 9223372036854775807

def SzLeg (d : LegD) (w : World) (e : Ending) (w' : World) : Prop := ∃ r : Int, -1 ≤ r ∧ r ≤ 1048576 ∧ e = .returned (.int .i64 r) ∧ Hid (0 ≤ r → Fits d) ∧ Below w.heap.size w w'
theorem NumsW.far {B : Nat} {w w' : World} {a : Option Addr} {len : Nat} {z : Nat → Int} {row : Option Nat} (h : NumsW B w a len z) (hg : w.grownBy w' row) (hr : ∀ k, row = some k → k < B) : NumsW B w' a len z := by
  rcases h with h | ⟨g, h1, h2, h3, h4⟩
  · exact Or.inl h
  · have e := hg.block g h3 (fun e => by have := hr g e.symm; omega)
    exact Or.inr ⟨g, h1, h2, Nat.lt_of_lt_of_le h3 hg.size, fun i hi => ⟨(World.cell?_of_block (a := ⟨g, i, none⟩) e).trans (h4 i hi).1, (World.frozen?_of_block (a := ⟨g, i, none⟩) e).trans (h4 i hi).2⟩⟩
theorem Holds.far {w w' : World} {g len : Nat} {t c s : Nat → Int} {row : Option Nat} (h : Holds w (some ⟨g, 0, none⟩) len t c s) (hg : w.grownBy w' row) (hr : some g ≠ row) : Holds w' (some ⟨g, 0, none⟩) len t c s := by
  rcases h with h | ⟨b, off, h2, h3, h4⟩
  · exact Or.inl h
  · simp only [Option.some.injEq, Addr.mk.injEq] at h2
    obtain ⟨rfl, rfl, -⟩ := h2
    have e := hg.block g h3 hr
    exact Or.inr ⟨g, 0, rfl, Nat.lt_of_lt_of_le h3 hg.size, fun i hi => ⟨(World.cell?_of_block (a := ⟨g, 0 + i * 3, none⟩) e).trans (h4 i hi).1, (World.cell?_of_block (a := ⟨g, 0 + i * 3 + 1, none⟩) e).trans (h4 i hi).2.1, (World.cell?_of_block (a := ⟨g, 0 + i * 3 + 2, none⟩) e).trans (h4 i hi).2.2⟩⟩

theorem lt_heap {w : World} {b : Nat} {o : Obj} (h : w.heap[b]? = some o) : b < w.heap.size := (Array.getElem?_eq_some_iff.1 h).1
theorem toGr {w w' : World} (h : Below w.heap.size w w') : w.grownBy w' none := below_grown h
theorem legSize : (Tryz.prog.info? 25).map (·.size) = some 10 := by kernel_rfl
theorem grown_setRow (w : World) (g : Nat) (cs : Array Value) : w.grownBy (w.setRow g cs) (some g) := ⟨rfl, rfl, rfl, by simp, fun k _ hne => setRow_other w g k cs (by intro e; subst e; exact hne rfl)⟩
/-- A copy: its lists lie in new memory, each as long as its room. -/
def CopyLeg (d : LegD) (w : World) (e : Ending) (w' : World) : Prop := ∃ p : LegP, e = .returned (LegV d p) ∧ LegIn w' d p ∧ (d.nL ≤ p.cL ∧ d.nS ≤ p.cS ∧ d.nB ≤ p.cB ∧ d.nH ≤ p.cH) ∧ Below w.heap.size w w'
set_option maxHeartbeats 4000000 in
theorem eqLegS (d : LegD) (p q : LegP) (w : World) (h : LegIn w d p) (h' : LegIn w d q) (hf : Fits d) :
    Calls Tryz.prog 7 #[LegV d p, LegV d q] w fun e w' => e = .returned (.bool true) ∧ Below w.heap.size w w' := by
  obtain ⟨nm, fr, to, dep, arr, cap, nL, L, nS, S, nB, B, nH, t, c, s⟩ := d
  obtain ⟨aL, cL, aS, cS, aB, cB, aH, cH⟩ := p
  obtain ⟨bL, kL, bS, kS, bB, kB, bH, kH⟩ := q
  obtain ⟨f1, f2, f3, f4, f5, f6, f7⟩ := hf
  obtain ⟨i1, i2, i3, i4⟩ := h
  obtain ⟨j1, j2, j3, j4⟩ := h'
  dsimp only at f1 f2 f3 f4 f5 f6 f7 i1 i2 i3 i4 j1 j2 j3 j4
  have I1 := Lib.hid i1
  have I2 := Lib.hid i2
  have I3 := Lib.hid i3
  have I4 := Lib.hid i4
  have J1 := Lib.hid j1
  have J2 := Lib.hid j2
  have J3 := Lib.hid j3
  have J4 := Lib.hid j4
  clear i1 i2 i3 i4 j1 j2 j3 j4
  unfold LegV
  dsimp only
  go_enter Tryz.func7, Tryz.ntmps7
  go_wp2_with fail
  have hA : Below w.heap.size w ((w.alloc (.cells #[Value.string nm, Value.string fr, Value.string to, Value.int IntKind.i64 dep, Value.int IntKind.i64 arr, Value.int IntKind.i64 cap, Value.slice aL nL cL, Value.slice aS nS cS, Value.slice aB nB cB, Value.slice aH nH cH] 25)).alloc (.cells #[Value.string nm, Value.string fr, Value.string to, Value.int IntKind.i64 dep, Value.int IntKind.i64 arr, Value.int IntKind.i64 cap, Value.slice bL nL kL, Value.slice bS nS kS, Value.slice bB nB kB, Value.slice bH nH kH] 25)) := ((Below.refl _ _).alloc (Nat.le_refl _) _).alloc (by simp only [World.size_alloc]; omega) _
  have HA := Lib.hid hA
  clear hA
  refine (eqInts aL bL nL _ _ L _ (I1.out.kept HA.out) (J1.out.kept HA.out) f4).mono ?_
  rintro e w' ⟨rfl, q1, rfl⟩
  go_wp2_with fail
  refine (eqInts aS bS nS _ _ S _ (I2.out.kept (belowN HA.out _)) (J2.out.kept (belowN HA.out _)) f5).mono ?_
  rintro e w' ⟨rfl, q2, rfl⟩
  go_wp2_with fail
  refine (eqInts aB bB nB _ _ B _ (I3.out.kept (belowN HA.out _)) (J3.out.kept (belowN HA.out _)) f6).mono ?_
  rintro e w' ⟨rfl, q3, rfl⟩
  go_wp2_with fail
  refine (eqHolds aH bH nH _ _ t c s _ (I4.out.kept (belowN HA.out _)) (J4.out.kept (belowN HA.out _)) f7).mono ?_
  rintro e w' ⟨rfl, hb⟩
  go_wp2
  go_ret
  exact ⟨rfl, (belowN HA.out _).trans (hb.mono (belowN HA.out _).size)⟩
end Go.Proofs.YtlfmhhdlandcjaaGreatDoor
