/-
  What is held of a leg, in memory: lists of three numbers each; a copy of them, and whether two are the same.
  Legs in memory: their size, a copy, and whether two are the same.
  What is used and what is to be given back of a leg, as sums: in plain words; and what a hold read from a list leaves in the world.
  What is used of a leg, and what is to be given back: the program's answers and the model's.
-/
import Derived.Test.YtdaccpffdnbkiaaGreatDoorJ1
import Derived.IntWalk
import Derived.OwnWalk
import Derived.Deep.RegionWith
import Derived.Deep.DeepMust
import Derived.SliceStrings
import Derived.Deep.SlicePairs
import Derived.Deep.Strs
import Derived.Test.YtdaccpffdnbkiaaGreatDoorNums
namespace Go.Proofs.YtdaccpffdnbkiaaGreatDoor
open Go.RowKit
set_option linter.unusedVariables false
set_option linter.unusedSimpArgs false

/-- The slice (a, len) reads as what is held: Txn, Class, Seats. -/
def Holds (w : World) (a : Option Addr) (len : Nat) (t c s : Nat → Int) : Prop :=
  len = 0 ∨ ∃ b off, a = some ⟨b, off, none⟩ ∧ b < w.heap.size ∧ ∀ i, i < len → w.cell? ⟨b, off + i * 3, none⟩ = some (.int .i64 (t i)) ∧ w.cell? ⟨b, off + i * 3 + 1, none⟩ = some (.int .i64 (c i)) ∧ w.cell? ⟨b, off + i * 3 + 2, none⟩ = some (.int .i64 (s i))
theorem Holds.kept {w w' : World} {a : Option Addr} {len : Nat} {t c s : Nat → Int} (h : Holds w a len t c s) (hb : Below w.heap.size w w') : Holds w' a len t c s := by
  rcases h with h | ⟨b, off, h2, h3, h4⟩
  · exact Or.inl h
  · exact Or.inr ⟨b, off, h2, Nat.lt_of_lt_of_le h3 hb.size, fun i hi => ⟨(hb.cell (p := ⟨b, off + i * 3, none⟩) h3).trans (h4 i hi).1, (hb.cell (p := ⟨b, off + i * 3 + 1, none⟩) h3).trans (h4 i hi).2.1, (hb.cell (p := ⟨b, off + i * 3 + 2, none⟩) h3).trans (h4 i hi).2.2⟩⟩

def SzInto (len : Nat) (left : Int) (w : World) (e : Ending) (w' : World) : Prop := ∃ r : Int, ((len ≤ left ∧ r = left - len) ∨ (left < len ∧ r = -1)) ∧ e = .returned (.int .i64 r) ∧ w = w'
theorem below_grown {w w' : World} (h : Below w.heap.size w w') : w.grownBy w' none := ⟨h.os, h.tape, h.output, h.size, fun i hi _ => h.block i hi⟩
theorem cell_of {w : World} {a : Addr} {xs : List Value} {i : Nat} (h : w.cell? a = xs[i]?) (hi : i < xs.length) : ∃ v, w.cell? a = some v := ⟨xs[i], by rw [h]; simp [hi]⟩
theorem results_cell1 {fn : Func} {p : Tmp} {ty : TypeId} (h : fn.results = #[.cell p ty]) (tmps : Array Value) (P : Program) (w : World) :
    (results fn tmps).run P w = ((asAddr (tmps.getD p undef)).run P w).andThen fun a w₁ => (loadVar ty a).run P w₁ := by
  simp only [results, h]
  simp [Sem.run_bind, Result.andThen]

set_option maxHeartbeats 400000 in
theorem eqHold1 (x y z : Int) (w : World) :
    Calls Tryz.prog 51 #[.agg #[.int .i64 x, .int .i64 y, .int .i64 z], .agg #[.int .i64 x, .int .i64 y, .int .i64 z]] w fun e w' => e = .returned (.bool true) ∧ Below w.heap.size w w' := by
  go_enter Tryz.func51, Tryz.ntmps51
  go_wp2
  go_ret
  refine ⟨rfl, ?_⟩
  repeat first
    | exact Below.refl _ _
    | refine Below.alloc ?_ (by simp only [World.size_alloc]; omega) _
    | refine Below.alloc ?_ (Nat.le_refl _) _
    | refine Below.drew ?_
    | refine belowN ?_ _
theorem infoHold : (Tryz.prog.info? 58).map (fun i => (i.zero, i.size, i.bytes)) = some (some (.agg #[.int .i64 0, .int .i64 0, .int .i64 0]), 3, 24) := by kernel_rfl
def CopyH (len : Nat) (t c s : Nat → Int) (w : World) (e : Ending) (w' : World) : Prop :=
  ∃ g : Nat, w.heap.size ≤ g ∧ e = .returned (.slice (some ⟨g, 0, none⟩) len len) ∧ Holds w' (some ⟨g, 0, none⟩) len t c s ∧ Below w.heap.size w w'

set_option maxHeartbeats 2000000 in
theorem eqHolds (a a' : Option Addr) (len cap cap' : Nat) (t c s : Nat → Int) (w : World) (h : Holds w a len t c s) (h' : Holds w a' len t c s) (hl : len ≤ 1048576) :
    Calls Tryz.prog 24 #[.slice a len cap, .slice a' len cap'] w fun e w' => e = .returned (.bool true) ∧ Below w.heap.size w w' := by
  go_enter Tryz.func24, Tryz.ntmps24
  go_wp2_with fail
  go_loopw [5] (fun i wr => ∃ k : Nat, k ≤ len ∧ i = .int .i64 k ∧ Below w.heap.size w wr) (fun i _ => len - (intOf i).toNat)
  case atStart => exact ⟨0, Nat.zero_le _, rfl, Below.refl _ _⟩
  case round =>
    obtain ⟨k, hk, rfl, hb⟩ := hrel
    rcases Nat.lt_or_ge k len with hlt | hge
    · rcases h.kept hb with hc | ⟨b, off, rfl, hbl, hcell⟩
      · omega
      rcases h'.kept hb with hc' | ⟨b', off', rfl, hbl', hcell'⟩
      · omega
      obtain ⟨c1, c2, c3⟩ := hcell k hlt
      obtain ⟨d1, d2, d3⟩ := hcell' k hlt
      clear hcell hcell'
      generalize t k = x at *
      generalize c k = y at *
      generalize s k = z at *
      have k1 : (k : Int) < len := by omega
      have k0 : (0 : Int) ≤ k := by omega
      go_wp2_with fail
      go_region_with (go_at_call 51; refine (eqHold1 x y z _).mono ?_; rintro e w2 ⟨rfl, hb2⟩)
      all_goals
        have hb3 : Below w.heap.size w w2 := hb.trans (Below.trans (belowN (Below.refl _ _) 1) (hb2.mono hb.size))
        go_wp2
        go_roundw
        case rel => exact ⟨k + 1, by omega, by go_num, hb3⟩
        case measure => simp [intOf]; omega
    · obtain rfl : k = len := by omega
      go_wp2
      go_ret
      exact ⟨rfl, hb⟩
end Go.Proofs.YtdaccpffdnbkiaaGreatDoor

namespace Go.Proofs.YtdaccpffdnbkiaaGreatDoor
open Go.RowKit
set_option linter.unusedVariables false
set_option linter.unusedSimpArgs false

/-- What a leg says, its lists as functions with their lengths. -/
structure LegD where
  name : ByteArray
  fr : ByteArray
  to : ByteArray
  dep : Int
  arr : Int
  cap : Int
  nL : Nat
  L : Nat → Int
  nS : Nat
  S : Nat → Int
  nB : Nat
  B : Nat → Int
  nH : Nat
  t : Nat → Int
  c : Nat → Int
  s : Nat → Int
/-- Where a leg's lists lie. -/
structure LegP where
  aL : Option Addr
  cL : Nat
  aS : Option Addr
  cS : Nat
  aB : Option Addr
  cB : Nat
  aH : Option Addr
  cH : Nat
def LegV (d : LegD) (p : LegP) : Value := .agg #[.string d.name, .string d.fr, .string d.to, .int .i64 d.dep, .int .i64 d.arr, .int .i64 d.cap, .slice p.aL d.nL p.cL, .slice p.aS d.nS p.cS, .slice p.aB d.nB p.cB, .slice p.aH d.nH p.cH]
def LegIn (w : World) (d : LegD) (p : LegP) : Prop := Nums w p.aL d.nL d.L ∧ Nums w p.aS d.nS d.S ∧ Nums w p.aB d.nB d.B ∧ Holds w p.aH d.nH d.t d.c d.s
theorem LegIn.kept {w w' : World} {d : LegD} {p : LegP} (h : LegIn w d p) (hb : Below w.heap.size w w') : LegIn w' d p := ⟨h.1.kept hb, h.2.1.kept hb, h.2.2.1.kept hb, h.2.2.2.kept hb⟩
/-- No list, and no name, is too great. -/
def Fits (d : LegD) : Prop := d.name.size ≤ 1048576 ∧ d.fr.size ≤ 1048576 ∧ d.to.size ≤ 1048576 ∧ d.nL ≤ 1048576 ∧ d.nS ≤ 1048576 ∧ d.nB ≤ 1048576 ∧ d.nH ≤ 1048576
def Wide (d : LegD) : Prop := (d.name.size : Int) ≤ 9223372036854775807 ∧ (d.fr.size : Int) ≤ 9223372036854775807 ∧ (d.to.size : Int) ≤ 9223372036854775807 ∧ (d.nL : Int) ≤ 9223372036854775807 ∧ (d.nS : Int) ≤ 9223372036854775807 ∧ (d.nB : Int) ≤ 9223372036854775807 ∧ (d.nH : Int) ≤ 9223372036854775807

def SzLeg (d : LegD) (w : World) (e : Ending) (w' : World) : Prop := ∃ r : Int, -1 ≤ r ∧ r ≤ 1048576 ∧ e = .returned (.int .i64 r) ∧ Hid (0 ≤ r → Fits d) ∧ Below w.heap.size w w'
theorem NumsW.far {B : Nat} {w w' : World} {a : Option Addr} {len : Nat} {z : Nat → Int} {row : Option Nat} (h : NumsW B w a len z) (hg : w.grownBy w' row) (hr : ∀ k, row = some k → k < B) : NumsW B w' a len z := by
  rcases h with h | ⟨g, h1, h2, h3, h4⟩
  · exact Or.inl h
  · have e := hg.block g h3 (fun e => by have := hr g e.symm; omega)
    exact Or.inr ⟨g, h1, h2, Nat.lt_of_lt_of_le h3 hg.size, fun i hi => ⟨(World.cell?_of_block (a := ⟨g, i, none⟩) e).trans (h4 i hi).1, (World.frozen?_of_block (a := ⟨g, i, none⟩) e).trans (h4 i hi).2⟩⟩
theorem Holds.far {w w' : World} {g len : Nat} {t c s : Nat → Int} {row : Option Nat} (h : Holds w (some ⟨g, 0, none⟩) len t c s) (hg : w.grownBy w' row) (hr : some g ≠ row) : Holds w' (some ⟨g, 0, none⟩) len t c s := by
  rcases h with h | ⟨b, off, h2, h3, h4⟩
  · exact Or.inl h
  · simp only [Option.some.injEq, Addr.mk.injEq] at h2
    obtain ⟨rfl, rfl, -⟩ := h2
    have e := hg.block g h3 hr
    exact Or.inr ⟨g, 0, rfl, Nat.lt_of_lt_of_le h3 hg.size, fun i hi => ⟨(World.cell?_of_block (a := ⟨g, 0 + i * 3, none⟩) e).trans (h4 i hi).1, (World.cell?_of_block (a := ⟨g, 0 + i * 3 + 1, none⟩) e).trans (h4 i hi).2.1, (World.cell?_of_block (a := ⟨g, 0 + i * 3 + 2, none⟩) e).trans (h4 i hi).2.2⟩⟩

theorem lt_heap {w : World} {b : Nat} {o : Obj} (h : w.heap[b]? = some o) : b < w.heap.size := (Array.getElem?_eq_some_iff.1 h).1
theorem toGr {w w' : World} (h : Below w.heap.size w w') : w.grownBy w' none := below_grown h
theorem legSize : (Tryz.prog.info? 25).map (·.size) = some 10 := by kernel_rfl
theorem grown_setRow (w : World) (g : Nat) (cs : Array Value) : w.grownBy (w.setRow g cs) (some g) := ⟨rfl, rfl, rfl, by simp, fun k _ hne => setRow_other w g k cs (by intro e; subst e; exact hne rfl)⟩
/-- A copy: its lists lie in new memory, each as long as its room. -/
def CopyLeg (d : LegD) (w : World) (e : Ending) (w' : World) : Prop := ∃ p : LegP, e = .returned (LegV d p) ∧ LegIn w' d p ∧ (d.nL ≤ p.cL ∧ d.nS ≤ p.cS ∧ d.nB ≤ p.cB ∧ d.nH ≤ p.cH) ∧ Below w.heap.size w w'
set_option maxHeartbeats 4000000 in
theorem eqLegS (d : LegD) (p q : LegP) (w : World) (h : LegIn w d p) (h' : LegIn w d q) (hf : Fits d) :
    Calls Tryz.prog 7 #[LegV d p, LegV d q] w fun e w' => e = .returned (.bool true) ∧ Below w.heap.size w w' := by
  obtain ⟨nm, fr, to, dep, arr, cap, nL, L, nS, S, nB, B, nH, t, c, s⟩ := d
  obtain ⟨aL, cL, aS, cS, aB, cB, aH, cH⟩ := p
  obtain ⟨bL, kL, bS, kS, bB, kB, bH, kH⟩ := q
  obtain ⟨f1, f2, f3, f4, f5, f6, f7⟩ := hf
  obtain ⟨i1, i2, i3, i4⟩ := h
  obtain ⟨j1, j2, j3, j4⟩ := h'
  dsimp only at f1 f2 f3 f4 f5 f6 f7 i1 i2 i3 i4 j1 j2 j3 j4
  have I1 := Lib.hid i1
  have I2 := Lib.hid i2
  have I3 := Lib.hid i3
  have I4 := Lib.hid i4
  have J1 := Lib.hid j1
  have J2 := Lib.hid j2
  have J3 := Lib.hid j3
  have J4 := Lib.hid j4
  clear i1 i2 i3 i4 j1 j2 j3 j4
  unfold LegV
  dsimp only
  go_enter Tryz.func7, Tryz.ntmps7
  go_wp2_with fail
  have hA : Below w.heap.size w ((w.alloc (.cells #[Value.string nm, Value.string fr, Value.string to, Value.int IntKind.i64 dep, Value.int IntKind.i64 arr, Value.int IntKind.i64 cap, Value.slice aL nL cL, Value.slice aS nS cS, Value.slice aB nB cB, Value.slice aH nH cH] 25)).alloc (.cells #[Value.string nm, Value.string fr, Value.string to, Value.int IntKind.i64 dep, Value.int IntKind.i64 arr, Value.int IntKind.i64 cap, Value.slice bL nL kL, Value.slice bS nS kS, Value.slice bB nB kB, Value.slice bH nH kH] 25)) := ((Below.refl _ _).alloc (Nat.le_refl _) _).alloc (by simp only [World.size_alloc]; omega) _
  have HA := Lib.hid hA
  clear hA
  refine (eqInts aL bL nL _ _ L _ (I1.out.kept HA.out) (J1.out.kept HA.out) f4).mono ?_
  rintro e w' ⟨rfl, q1, rfl⟩
  go_wp2_with fail
  refine (eqInts aS bS nS _ _ S _ (I2.out.kept (belowN HA.out _)) (J2.out.kept (belowN HA.out _)) f5).mono ?_
  rintro e w' ⟨rfl, q2, rfl⟩
  go_wp2_with fail
  refine (eqInts aB bB nB _ _ B _ (I3.out.kept (belowN HA.out _)) (J3.out.kept (belowN HA.out _)) f6).mono ?_
  rintro e w' ⟨rfl, q3, rfl⟩
  go_wp2_with fail
  refine (eqHolds aH bH nH _ _ t c s _ (I4.out.kept (belowN HA.out _)) (J4.out.kept (belowN HA.out _)) f7).mono ?_
  rintro e w' ⟨rfl, hb⟩
  go_wp2
  go_ret
  exact ⟨rfl, (belowN HA.out _).trans (hb.mono (belowN HA.out _).size)⟩
end Go.Proofs.YtdaccpffdnbkiaaGreatDoor

namespace Go.Proofs.YtdaccpffdnbkiaaGreatDoor
open Go.RowKit
set_option linter.unusedVariables false

def sumS (S : Nat → Int) (k : Nat) : Nat → Int
  | 0 => 0
  | m + 1 => sumS S k m + S (k + m)
def usedH (c s : Nat → Int) (k : Int) : Nat → Int
  | 0 => 0
  | n + 1 => usedH c s k n + (if k ≤ c n then max (s n) 0 else 0)
def backH (c s : Nat → Int) (k : Int) : Nat → Int
  | 0 => 0
  | n + 1 => backH c s k n + (if c n = k then max (-(s n)) 0 else 0)
def SoldOk (d : LegD) : Prop := d.nS = 3 ∧ ∀ i, i < 3 → 0 ≤ d.S i ∧ d.S i ≤ 9
def HeldOk (d : LegD) : Prop := d.nH ≤ 6 ∧ ∀ i, i < d.nH → -9 ≤ d.s i ∧ d.s i ≤ 9
theorem sumS_box {S : Nat → Int} {k : Nat} : ∀ (m : Nat), (∀ i, i < m → 0 ≤ S (k + i) ∧ S (k + i) ≤ 9) → 0 ≤ sumS S k m ∧ sumS S k m ≤ 9 * m
  | 0, _ => ⟨Int.le_refl _, Int.le_refl _⟩
  | m + 1, h => by
    have ih := sumS_box m (fun i hi => h i (by omega))
    have := h m (by omega)
    simp only [sumS]; omega
theorem usedH_box {c s : Nat → Int} {k : Int} : ∀ (n : Nat), (∀ i, i < n → -9 ≤ s i ∧ s i ≤ 9) → 0 ≤ usedH c s k n ∧ usedH c s k n ≤ 9 * n
  | 0, _ => ⟨Int.le_refl _, Int.le_refl _⟩
  | n + 1, h => by
    have ih := usedH_box (c := c) (k := k) n (fun i hi => h i (by omega))
    have := h n (by omega)
    simp only [usedH]; split <;> omega
theorem backH_box {c s : Nat → Int} {k : Int} : ∀ (n : Nat), (∀ i, i < n → -9 ≤ s i ∧ s i ≤ 9) → 0 ≤ backH c s k n ∧ backH c s k n ≤ 9 * n
  | 0, _ => ⟨Int.le_refl _, Int.le_refl _⟩
  | n + 1, h => by
    have ih := backH_box (c := c) (k := k) n (fun i hi => h i (by omega))
    have := h n (by omega)
    simp only [backH]; split <;> omega
def usedB (d : LegD) (k : Nat) : Int := sumS d.S k (3 - k) + usedH d.c d.s k d.nH
def backB (d : LegD) (k : Nat) : Int := backH d.c d.s k d.nH
theorem usedB_box {d : LegD} (hS : SoldOk d) (hH : HeldOk d) (k : Nat) (hk : k < 3) : 0 ≤ usedB d k ∧ usedB d k ≤ 100 := by
  have h1 := sumS_box (S := d.S) (k := k) (3 - k) (fun i hi => hS.2 _ (by omega))
  have h2 := usedH_box (c := d.c) (k := k) d.nH hH.2
  have h3 := hH.1
  unfold usedB; omega
theorem backB_box {d : LegD} (hH : HeldOk d) (k : Nat) : 0 ≤ backB d k ∧ backB d k ≤ 100 := by
  have h2 := backH_box (c := d.c) (k := k) d.nH hH.2
  have h3 := hH.1
  unfold backB; omega

theorem Nums.cells {w : World} {a : Option Addr} {len : Nat} {z : Nat → Int} (h : Nums w a len z) (h0 : 0 < len) : ∃ b off, a = some ⟨b, off, none⟩ ∧ b < w.heap.size ∧ ∀ i, i < len → w.cell? ⟨b, off + i, none⟩ = some (.int .i64 (z i)) := by
  rcases h with h2 | ⟨b, off, h1, h3, h4⟩
  · omega
  · exact ⟨b, off, h1, h3, h4⟩
theorem Holds.cells {w : World} {a : Option Addr} {len : Nat} {t c s : Nat → Int} (h : Holds w a len t c s) (h0 : 0 < len) : ∃ b off, a = some ⟨b, off, none⟩ ∧ b < w.heap.size ∧ ∀ i, i < len → w.cell? ⟨b, off + i * 3, none⟩ = some (.int .i64 (t i)) ∧ w.cell? ⟨b, off + i * 3 + 1, none⟩ = some (.int .i64 (c i)) ∧ w.cell? ⟨b, off + i * 3 + 2, none⟩ = some (.int .i64 (s i)) := by
  rcases h with h2 | ⟨b, off, h1, h3, h4⟩
  · omega
  · exact ⟨b, off, h1, h3, h4⟩
/-- The block of a leg. -/
def LegC (d : LegD) (p : LegP) : Array Value := #[.string d.name, .string d.fr, .string d.to, .int .i64 d.dep, .int .i64 d.arr, .int .i64 d.cap, .slice p.aL d.nL p.cL, .slice p.aS d.nS p.cS, .slice p.aB d.nB p.cB, .slice p.aH d.nH p.cH]
def LegBox (W : World) (b : Nat) (d : LegD) (p : LegP) : Prop := W.heap[b]? = some (.cells (LegC d p) 25 (0, 0))
theorem LegBox.new (w : World) (d : LegD) (p : LegP) : LegBox (w.alloc (.cells (LegC d p) 25)) w.heap.size d p := heap_alloc_new w _
theorem LegBox.kept {w w' : World} {b : Nat} {d : LegD} {p : LegP} (h : LegBox w b d p) (hb : Below w.heap.size w w') : LegBox w' b d p := (hb.block _ (lt_heap h)).trans h
theorem LegBox.c0 {W : World} {b : Nat} {d : LegD} {p : LegP} (h : LegBox W b d p) : W.cell? ⟨b, 0, none⟩ = some (.string d.name) := by rw [Lib.cell_of_heap h]; rfl
theorem LegBox.c1 {W : World} {b : Nat} {d : LegD} {p : LegP} (h : LegBox W b d p) : W.cell? ⟨b, 1, none⟩ = some (.string d.fr) := by rw [Lib.cell_of_heap h]; rfl
theorem LegBox.c2 {W : World} {b : Nat} {d : LegD} {p : LegP} (h : LegBox W b d p) : W.cell? ⟨b, 2, none⟩ = some (.string d.to) := by rw [Lib.cell_of_heap h]; rfl
theorem LegBox.c3 {W : World} {b : Nat} {d : LegD} {p : LegP} (h : LegBox W b d p) : W.cell? ⟨b, 3, none⟩ = some (.int .i64 d.dep) := by rw [Lib.cell_of_heap h]; rfl
theorem LegBox.c4 {W : World} {b : Nat} {d : LegD} {p : LegP} (h : LegBox W b d p) : W.cell? ⟨b, 4, none⟩ = some (.int .i64 d.arr) := by rw [Lib.cell_of_heap h]; rfl
theorem LegBox.c5 {W : World} {b : Nat} {d : LegD} {p : LegP} (h : LegBox W b d p) : W.cell? ⟨b, 5, none⟩ = some (.int .i64 d.cap) := by rw [Lib.cell_of_heap h]; rfl
theorem LegBox.c6 {W : World} {b : Nat} {d : LegD} {p : LegP} (h : LegBox W b d p) : W.cell? ⟨b, 6, none⟩ = some (.slice p.aL d.nL p.cL) := by rw [Lib.cell_of_heap h]; rfl
theorem LegBox.c7 {W : World} {b : Nat} {d : LegD} {p : LegP} (h : LegBox W b d p) : W.cell? ⟨b, 7, none⟩ = some (.slice p.aS d.nS p.cS) := by rw [Lib.cell_of_heap h]; rfl
theorem LegBox.c8 {W : World} {b : Nat} {d : LegD} {p : LegP} (h : LegBox W b d p) : W.cell? ⟨b, 8, none⟩ = some (.slice p.aB d.nB p.cB) := by rw [Lib.cell_of_heap h]; rfl
theorem LegBox.c9 {W : World} {b : Nat} {d : LegD} {p : LegP} (h : LegBox W b d p) : W.cell? ⟨b, 9, none⟩ = some (.slice p.aH d.nH p.cH) := by rw [Lib.cell_of_heap h]; rfl
theorem holdSize : (Tryz.prog.info? 58).map (·.size) = some 3 := by kernel_rfl
theorem hold_one (x y z : Int) : (#[.int .i64 x, .int .i64 y, .int .i64 z] : Array Value).all (·.oneCell') = true := by simp [Value.oneCell']
/-- A hold of its own, just written. -/
theorem holdBox (w : World) (x y z : Int) : ((w.alloc (.cells #[.int .i64 0, .int .i64 0, .int .i64 0] 58)).setRow w.heap.size #[.int .i64 x, .int .i64 y, .int .i64 z]).heap[w.heap.size]? = some (.cells #[.int .i64 x, .int .i64 y, .int .i64 z] 58 (0, 0)) :=
  setRow_heap _ w.heap.size _ _ _ _ (heap_alloc_new w _)
theorem holdBelow (w : World) (x y z : Int) : Below w.heap.size w ((w.alloc (.cells #[.int .i64 0, .int .i64 0, .int .i64 0] 58)).setRow w.heap.size #[.int .i64 x, .int .i64 y, .int .i64 z]) :=
  ((Below.refl _ _).alloc (Nat.le_refl _) _).grown (grown_setRow _ _ _) (by simp) (fun k e => by cases e; exact Nat.le_refl _)
theorem row3 {w : World} {b : Nat} {x y z : Value} {t : TypeId} {i : Nat × Nat} (h : w.heap[b]? = some (.cells #[x, y, z] t i)) : w.cell? ⟨b, 0, none⟩ = some x ∧ w.cell? ⟨b, 1, none⟩ = some y ∧ w.cell? ⟨b, 2, none⟩ = some z := by
  obtain ⟨i1, i2⟩ := i
  refine ⟨?_, ?_, ?_⟩ <;> (rw [Lib.cell_of_heap h]; rfl)
theorem cell_kept {w w' : World} {b off : Nat} {v : Value} (hb : Below w.heap.size w w') (h : b < w.heap.size) (hc : w.cell? ⟨b, off, none⟩ = some v) : w'.cell? ⟨b, off, none⟩ = some v := (hb.cell (p := ⟨b, off, none⟩) h).trans hc
theorem bt {a b c : World} (h : Below a.heap.size a b) (k : Below b.heap.size b c) : Below a.heap.size a c := h.trans (k.mono h.size)
end Go.Proofs.YtdaccpffdnbkiaaGreatDoor

namespace Go.Proofs.YtdaccpffdnbkiaaGreatDoor
open Go.RowKit
set_option linter.unusedVariables false
set_option linter.unusedSimpArgs false

set_option maxHeartbeats 4000000 in
theorem usedI (d : LegD) (p : LegP) (k : Nat) (hk : k < 3) (w : World) (h : LegIn w d p) (hS : SoldOk d) (hH : HeldOk d) (hc : d.nS ≤ p.cS) :
    Calls Tryz.prog 85 #[LegV d p, .int .i64 (k : Int)] w fun e w' => e = .returned (.int .i64 (usedB d k)) ∧ Below w.heap.size w w' := by
  have HU : Hid (usedB d k = sumS d.S k (3 - k) + usedH d.c d.s k d.nH) := rfl
  generalize usedB d k = U at *
  obtain ⟨nm, fr, to, dep, arr, cap, nL, L, nS, S, nB, B, nH, t, c, s⟩ := d
  obtain ⟨aL, cL, aS, cS, aB, cB, aH, cH⟩ := p
  obtain ⟨e3, HS⟩ := hS
  obtain ⟨hn6, HH⟩ := hH
  obtain ⟨hi1, hi2, hi3, hi4⟩ := h
  dsimp only at e3 HS HH hn6 hc HU hi1 hi2 hi3 hi4
  subst e3
  obtain ⟨bS, oS, rfl, hbS, hcS⟩ := hi2.cells (by omega)
  unfold LegV
  dsimp only
  generalize hV : (#[.string nm, .string fr, .string to, .int .i64 dep, .int .i64 arr, .int .i64 cap, .slice aL nL cL, .slice (some ⟨bS, oS, none⟩) 3 cS, .slice aB nB cB, .slice aH nH cH] : Array Value) = V at *
  have hbA : Below w.heap.size w (w.alloc (.cells V 25)) := (Below.refl _ _).alloc (Nat.le_refl _) _
  have hbox : (w.alloc (.cells V 25)).heap[w.heap.size]? = some (.cells V 25 (0, 0)) := heap_alloc_new w _
  have cL7 : (w.alloc (.cells V 25)).cell? ⟨w.heap.size, 7, none⟩ = some (.slice (some ⟨bS, oS, none⟩) 3 cS) := by rw [Lib.cell_of_heap hbox, ← hV]; rfl
  have Hbox := Lib.hid hbox
  have HbA := Lib.hid hbA
  have HcS := Lib.hid hcS
  have HHo := Lib.hid hi4
  have Hs := Lib.hid HS
  have Hh := Lib.hid HH
  have HV := Lib.hid hV
  clear hbA HS HH hi4 hcS hV hbox hi1 hi3 hi2
  go_enter Tryz.func85, Tryz.ntmps85
  go_wp2_with fail
  generalize hM : 3 - k = M at *
  have hkM : k + M = 3 := by omega
  clear hM
  go_loopw [5, 15] (fun v i wr => ∃ m : Nat, m ≤ M ∧ v = .int .i64 (sumS S k m) ∧ i = .int .i64 m ∧ wr = w.alloc (.cells V 25)) (fun _ i _ => M - (intOf i).toNat)
  case atStart => exact ⟨0, Nat.zero_le _, rfl, rfl, rfl⟩
  case round =>
    obtain ⟨m, hm, rfl, rfl, rfl⟩ := hrel
    rcases Nat.lt_or_ge m M with hlt | hge
    · have c1 := HcS.out (k + m) (by omega)
      rw [← Nat.add_assoc] at c1
      have hbox1 := Hs.out (k + m) (by omega)
      have hsum := sumS_box (S := S) (k := k) m (fun i hi => Hs.out _ (by omega))
      have hnx : Hid (sumS S k m + S (k + m) = sumS S k (m + 1)) := rfl
      have m1 : (m : Int) < M := by omega
      have m0 : (0 : Int) ≤ m := by omega
      generalize S (k + m) = x at *
      generalize sumS S k m = y at *
      have c2 := cell_kept HbA.out hbS c1
      go_wp2
      go_roundw
      case rel => exact ⟨m + 1, by omega, by rw [← hnx.out], by go_num, (by first | rfl | trivial)⟩
      case measure => simp [intOf]; omega
    · obtain rfl : m = M := by omega
      have hsum := sumS_box (S := S) (k := k) m (fun i hi => Hs.out _ (by omega))
      generalize hy : sumS S k m = y at *
      have Hy := Lib.hid hy
      clear hy
      have cL9 : (w.alloc (.cells V 25)).cell? ⟨w.heap.size, 9, none⟩ = some (.slice aH nH cH) := by rw [Lib.cell_of_heap Hbox.out, ← HV.out]; rfl
      go_wp2_with fail
      generalize w.alloc (.cells V 25) = W at *
      have HHW := HHo.out.kept HbA.out
      go_loopw [5, 26] (fun v i wr => ∃ n : Nat, n ≤ nH ∧ v = .int .i64 (y + usedH c s k n) ∧ i = .int .i64 n ∧ Below W.heap.size W wr) (fun _ i _ => nH - (intOf i).toNat)
      case atStart => exact ⟨0, Nat.zero_le _, by simp [usedH], rfl, Below.refl _ _⟩
      case round =>
        obtain ⟨n, hn, rfl, rfl, hb⟩ := hrel
        rcases Nat.lt_or_ge n nH with hlt | hge
        · obtain ⟨bH, oH, rfl, hbH, hcH⟩ := HHW.cells (by omega)
          have hbHr : bH < wr.heap.size := Nat.lt_of_lt_of_le hbH hb.size
          have c1 := cell_kept hb hbH (hcH n hlt).1
          have c2 := cell_kept hb hbH (hcH n hlt).2.1
          have c3 := cell_kept hb hbH (hcH n hlt).2.2
          have hbox1 := Hh.out n hlt
          have hsum := usedH_box (c := c) (s := s) (k := k) n (fun i hi => Hh.out i (by omega))
          have hnx : Hid (usedH c s k n + (if (k : Int) ≤ c n then max (s n) 0 else 0) = usedH c s k (n + 1)) := rfl
          have n1 : (n : Int) < nH := by omega
          have n0 : (0 : Int) ≤ n := by omega
          clear hcH
          generalize t n = x1 at *
          generalize c n = x2 at *
          generalize s n = x3 at *
          generalize usedH c s k n = z at *
          obtain ⟨d0, d1, d2⟩ := row3 (holdBox wr x1 x2 x3)
          have hb2 := bt hb (holdBelow wr x1 x2 x3)
          have hnx2 : Hid (usedH c s k (n + 1) = z + (if (k : Int) ≤ x2 then max x3 0 else 0)) := hnx.out.symm
          clear hnx
          rcases Int.lt_or_le x2 (k : Int) with hlt2 | hle2
          all_goals
           go_wp2_with (first
            | (refine wpList_store_row rfl 58 _ _ rfl wr.heap.size #[.int .i64 x1, .int .i64 x2, .int .i64 x3] rfl rfl 58 #[.int .i64 0, .int .i64 0, .int .i64 0] (heap_alloc_new wr _) holdSize rfl (hold_one x1 x2 x3) ?_)
            | fail)
           generalize (wr.alloc (.cells #[.int .i64 0, .int .i64 0, .int .i64 0] 58)).setRow wr.heap.size #[.int .i64 x1, .int .i64 x2, .int .i64 x3] = W5 at *
           go_roundw
           case rel =>
            refine ⟨n + 1, by omega, ?_, by go_num, hb2⟩
            rw [hnx2.out]
            first | (rw [if_neg (by omega)]; simp; done) | (rw [if_pos hle2]; first | rfl | (congr 1; omega))
           case measure => simp [intOf]; omega
        · obtain rfl : n = nH := by omega
          go_wp2
          go_ret
          exact ⟨retI (by rw [HU.out]), bt HbA.out hb⟩

set_option maxHeartbeats 4000000 in
theorem backI (d : LegD) (p : LegP) (k : Nat) (w : World) (h : LegIn w d p) (hH : HeldOk d) :
    Calls Tryz.prog 70 #[LegV d p, .int .i64 (k : Int)] w fun e w' => e = .returned (.int .i64 (backB d k)) ∧ Below w.heap.size w w' := by
  have HU : Hid (backB d k = backH d.c d.s k d.nH) := rfl
  generalize backB d k = U at *
  obtain ⟨nm, fr, to, dep, arr, cap, nL, L, nS, S, nB, B, nH, t, c, s⟩ := d
  obtain ⟨aL, cL, aS, cS, aB, cB, aH, cH⟩ := p
  obtain ⟨hn6, HH⟩ := hH
  obtain ⟨hi1, hi2, hi3, hi4⟩ := h
  dsimp only at HH hn6 HU hi4
  unfold LegV
  dsimp only
  generalize hV : (#[.string nm, .string fr, .string to, .int .i64 dep, .int .i64 arr, .int .i64 cap, .slice aL nL cL, .slice aS nS cS, .slice aB nB cB, .slice aH nH cH] : Array Value) = V at *
  have hbA : Below w.heap.size w (w.alloc (.cells V 25)) := (Below.refl _ _).alloc (Nat.le_refl _) _
  have hbox : (w.alloc (.cells V 25)).heap[w.heap.size]? = some (.cells V 25 (0, 0)) := heap_alloc_new w _
  have cL9 : (w.alloc (.cells V 25)).cell? ⟨w.heap.size, 9, none⟩ = some (.slice aH nH cH) := by rw [Lib.cell_of_heap hbox, ← hV]; rfl
  have HbA := Lib.hid hbA
  have HHo := Lib.hid hi4
  have Hh := Lib.hid HH
  clear hbA HH hi4 hV hbox hi1 hi3 hi2
  go_enter Tryz.func70, Tryz.ntmps70
  go_wp2_with fail
  generalize w.alloc (.cells V 25) = W at *
  have HHW := HHo.out.kept HbA.out
  go_loopw [5, 11] (fun v i wr => ∃ n : Nat, n ≤ nH ∧ v = .int .i64 (backH c s k n) ∧ i = .int .i64 n ∧ Below W.heap.size W wr) (fun _ i _ => nH - (intOf i).toNat)
  case atStart => exact ⟨0, Nat.zero_le _, by simp [backH], rfl, Below.refl _ _⟩
  case round =>
    obtain ⟨n, hn, rfl, rfl, hb⟩ := hrel
    rcases Nat.lt_or_ge n nH with hlt | hge
    · obtain ⟨bH, oH, rfl, hbH, hcH⟩ := HHW.cells (by omega)
      have hbHr : bH < wr.heap.size := Nat.lt_of_lt_of_le hbH hb.size
      have c1 := cell_kept hb hbH (hcH n hlt).1
      have c2 := cell_kept hb hbH (hcH n hlt).2.1
      have c3 := cell_kept hb hbH (hcH n hlt).2.2
      have hbox1 := Hh.out n hlt
      have hsum := backH_box (c := c) (s := s) (k := k) n (fun i hi => Hh.out i (by omega))
      have hnx : Hid (backH c s k n + (if c n = k then max (-(s n)) 0 else 0) = backH c s k (n + 1)) := rfl
      have n1 : (n : Int) < nH := by omega
      have n0 : (0 : Int) ≤ n := by omega
      clear hcH
      generalize t n = x1 at *
      generalize c n = x2 at *
      generalize s n = x3 at *
      generalize backH c s k n = z at *
      obtain ⟨d0, d1, d2⟩ := row3 (holdBox wr x1 x2 x3)
      have hb2 := bt hb (holdBelow wr x1 x2 x3)
      have hnx2 : Hid (backH c s k (n + 1) = z + (if x2 = k then max (-x3) 0 else 0)) := hnx.out.symm
      clear hnx
      generalize (k : Int) = kk at *
      by_cases hx : x2 = kk
      subst hx
      all_goals
       go_wp2_with (first
        | (refine wpList_store_row rfl 58 _ _ rfl wr.heap.size #[.int .i64 x1, .int .i64 x2, .int .i64 x3] rfl rfl 58 #[.int .i64 0, .int .i64 0, .int .i64 0] (heap_alloc_new wr _) holdSize rfl (hold_one x1 x2 x3) ?_)
        | fail)
       generalize (wr.alloc (.cells #[.int .i64 0, .int .i64 0, .int .i64 0] 58)).setRow wr.heap.size #[.int .i64 x1, .int .i64 x2, .int .i64 x3] = W5 at *
       go_roundw
       case rel =>
        refine ⟨n + 1, by omega, ?_, by go_num, hb2⟩
        rw [hnx2.out]
        first | (rw [if_neg hx]; simp; done) | (rw [if_pos rfl]; first | rfl | (congr 1; omega))
       case measure => simp [intOf]; omega
    · obtain rfl : n = nH := by omega
      go_wp2
      go_ret
      exact ⟨retI (by rw [HU.out]), bt HbA.out hb⟩

set_option maxHeartbeats 4000000 in
theorem usedM (d : LegD) (p : LegP) (k : Nat) (hk : k < 3) (w : World) (h : LegIn w d p) (hS : SoldOk d) (hH : HeldOk d) :
    Calls Tryz.prog 44 #[LegV d p, .int .i64 (k : Int)] w fun e w' => e = .returned (.int .i64 (usedB d k)) ∧ Below w.heap.size w w' := by
  have HU : Hid (usedB d k = sumS d.S k (3 - k) + usedH d.c d.s k d.nH) := rfl
  generalize usedB d k = U at *
  obtain ⟨nm, fr, to, dep, arr, cap, nL, L, nS, S, nB, B, nH, t, c, s⟩ := d
  obtain ⟨aL, cL, aS, cS, aB, cB, aH, cH⟩ := p
  obtain ⟨e3, HS⟩ := hS
  obtain ⟨hn6, HH⟩ := hH
  obtain ⟨hi1, hi2, hi3, hi4⟩ := h
  dsimp only at e3 HS HH hn6 HU hi1 hi2 hi3 hi4
  subst e3
  obtain ⟨bS, oS, rfl, hbS, hcS⟩ := hi2.cells (by omega)
  unfold LegV
  dsimp only
  generalize hV : (#[.string nm, .string fr, .string to, .int .i64 dep, .int .i64 arr, .int .i64 cap, .slice aL nL cL, .slice (some ⟨bS, oS, none⟩) 3 cS, .slice aB nB cB, .slice aH nH cH] : Array Value) = V at *
  have hbA : Below w.heap.size w (w.alloc (.cells V 25)) := (Below.refl _ _).alloc (Nat.le_refl _) _
  have hbox : (w.alloc (.cells V 25)).heap[w.heap.size]? = some (.cells V 25 (0, 0)) := heap_alloc_new w _
  have cL7 : (w.alloc (.cells V 25)).cell? ⟨w.heap.size, 7, none⟩ = some (.slice (some ⟨bS, oS, none⟩) 3 cS) := by rw [Lib.cell_of_heap hbox, ← hV]; rfl
  have cL9 : (w.alloc (.cells V 25)).cell? ⟨w.heap.size, 9, none⟩ = some (.slice aH nH cH) := by rw [Lib.cell_of_heap hbox, ← hV]; rfl
  have HcS := Lib.hid hcS
  have HHo := Lib.hid hi4
  have Hs := Lib.hid HS
  have Hh := Lib.hid HH
  have HbA := Lib.hid hbA
  clear hbA HH hi4 hV hbox hi1 hi3 hi2 HS hcS
  go_enter Tryz.func44, Tryz.ntmps44
  go_wp2_with fail
  generalize w.alloc (.cells V 25) = W at *
  have HHW := HHo.out.kept HbA.out
  go_loopw [5, 6] (fun v i wr => ∃ m : Nat, k + m ≤ 3 ∧ v = .int .i64 (sumS S k m) ∧ i = .int .i64 ((k + m : Nat) : Int) ∧ W = wr) (fun _ i _ => 3 - (intOf i).toNat)
  case atStart => exact ⟨0, by omega, rfl, rfl, rfl⟩
  case round =>
    obtain ⟨m, hm, rfl, rfl, rfl⟩ := hrel
    rcases Nat.lt_or_ge (k + m) 3 with hlt | hge
    · have c1 := cell_kept HbA.out hbS (HcS.out (k + m) (by omega))
      have hbox1 := Hs.out (k + m) (by omega)
      have hsum := sumS_box (S := S) (k := k) m (fun i hi => Hs.out _ (by omega))
      have hnx : Hid (sumS S k m + S (k + m) = sumS S k (m + 1)) := rfl
      have m3 : (m : Int) ≤ 3 := by omega
      generalize hj : k + m = j at *
      have hjx : Hid (k + m = j) := hj
      have m1 : (j : Int) < 3 := by omega
      have m0 : (0 : Int) ≤ j := by omega
      generalize S j = x at *
      generalize sumS S k m = y at *
      clear hj
      go_wp2
      go_roundw
      case rel => exact ⟨m + 1, by have := hjx.out; omega, by rw [← hnx.out]; try go_num, by have := hjx.out; rw [show k + (m + 1) = j + 1 by omega]; go_num, (by first | rfl | trivial)⟩
      case measure => simp [intOf]; omega
    · have em : m = 3 - k := by omega
      have hsum := sumS_box (S := S) (k := k) m (fun i hi => Hs.out _ (by omega))
      generalize hj : k + m = j at *
      have hj3 : ¬ ((j : Int) < 3) := by omega
      clear hj hm hge
      subst em
      generalize sumS S k (3 - k) = y at *
      go_wp2_with fail
      go_loopw [5, 7] (fun v i wr => ∃ n : Nat, n ≤ nH ∧ v = .int .i64 (y + usedH c s k n) ∧ i = .int .i64 n ∧ W = wr) (fun _ i _ => nH - (intOf i).toNat)
      case atStart => exact ⟨0, Nat.zero_le _, by simp [usedH], rfl, rfl⟩
      case round =>
        obtain ⟨n, hn, rfl, rfl, rfl⟩ := hrel
        rcases Nat.lt_or_ge n nH with hlt | hge
        · obtain ⟨bH, oH, rfl, hbH, hcH⟩ := HHW.cells (by omega)
          obtain ⟨c1, c2, c3⟩ := hcH n hlt
          have hbox1 := Hh.out n hlt
          have hsum2 := usedH_box (c := c) (s := s) (k := k) n (fun i hi => Hh.out i (by omega))
          have hnx : Hid (usedH c s k (n + 1) = usedH c s k n + (if (k : Int) ≤ c n then max (s n) 0 else 0)) := rfl
          have n1 : (n : Int) < nH := by omega
          have n0 : (0 : Int) ≤ n := by omega
          clear hcH
          generalize t n = x1 at *
          generalize c n = x2 at *
          generalize s n = x3 at *
          generalize usedH c s k n = z at *
          rcases Int.lt_or_le x2 (k : Int) with hlt2 | hle2
          rotate_left
          rcases Int.lt_or_le 0 x3 with hp | hp
          all_goals
           go_wp2
           go_roundw
           case rel =>
            refine ⟨n + 1, by omega, ?_, by go_num, (by first | rfl | trivial)⟩
            rw [hnx.out]
            first | (rw [if_neg (by omega)]; simp; done) | (rw [if_pos hle2]; congr 1; omega)
           case measure => simp [intOf]; omega
        · obtain rfl : n = nH := by omega
          go_wp2
          go_ret
          exact ⟨retI (by rw [HU.out]), HbA.out⟩

set_option maxHeartbeats 4000000 in
theorem backM (d : LegD) (p : LegP) (k : Nat) (w : World) (h : LegIn w d p) (hH : HeldOk d) :
    Calls Tryz.prog 45 #[LegV d p, .int .i64 (k : Int)] w fun e w' => e = .returned (.int .i64 (backB d k)) ∧ Below w.heap.size w w' := by
  have HU : Hid (backB d k = backH d.c d.s k d.nH) := rfl
  generalize backB d k = U at *
  obtain ⟨nm, fr, to, dep, arr, cap, nL, L, nS, S, nB, B, nH, t, c, s⟩ := d
  obtain ⟨aL, cL, aS, cS, aB, cB, aH, cH⟩ := p
  obtain ⟨hn6, HH⟩ := hH
  obtain ⟨hi1, hi2, hi3, hi4⟩ := h
  dsimp only at HH hn6 HU hi4
  unfold LegV
  dsimp only
  generalize hV : (#[.string nm, .string fr, .string to, .int .i64 dep, .int .i64 arr, .int .i64 cap, .slice aL nL cL, .slice aS nS cS, .slice aB nB cB, .slice aH nH cH] : Array Value) = V at *
  have hbA : Below w.heap.size w (w.alloc (.cells V 25)) := (Below.refl _ _).alloc (Nat.le_refl _) _
  have hbox : (w.alloc (.cells V 25)).heap[w.heap.size]? = some (.cells V 25 (0, 0)) := heap_alloc_new w _
  have cL9 : (w.alloc (.cells V 25)).cell? ⟨w.heap.size, 9, none⟩ = some (.slice aH nH cH) := by rw [Lib.cell_of_heap hbox, ← hV]; rfl
  have HbA := Lib.hid hbA
  have HHo := Lib.hid hi4
  have Hh := Lib.hid HH
  clear hbA HH hi4 hV hbox hi1 hi3 hi2
  go_enter Tryz.func45, Tryz.ntmps45
  go_wp2_with fail
  generalize w.alloc (.cells V 25) = W at *
  have HHW := HHo.out.kept HbA.out
  go_loopw [5, 6] (fun v i wr => ∃ n : Nat, n ≤ nH ∧ v = .int .i64 (backH c s k n) ∧ i = .int .i64 n ∧ W = wr) (fun _ i _ => nH - (intOf i).toNat)
  case atStart => exact ⟨0, Nat.zero_le _, by simp [backH], rfl, rfl⟩
  case round =>
    obtain ⟨n, hn, rfl, rfl, rfl⟩ := hrel
    rcases Nat.lt_or_ge n nH with hlt | hge
    · obtain ⟨bH, oH, rfl, hbH, hcH⟩ := HHW.cells (by omega)
      obtain ⟨c1, c2, c3⟩ := hcH n hlt
      have hbox1 := Hh.out n hlt
      have hsum2 := backH_box (c := c) (s := s) (k := k) n (fun i hi => Hh.out i (by omega))
      have hnx : Hid (backH c s k (n + 1) = backH c s k n + (if c n = k then max (-(s n)) 0 else 0)) := rfl
      have n1 : (n : Int) < nH := by omega
      have n0 : (0 : Int) ≤ n := by omega
      clear hcH
      generalize t n = x1 at *
      generalize c n = x2 at *
      generalize s n = x3 at *
      generalize backH c s k n = z at *
      by_cases hx : x2 = (k : Int)
      rcases Int.lt_or_le x3 0 with hp | hp
      all_goals
       go_wp2
       go_roundw
       case rel =>
        refine ⟨n + 1, by omega, ?_, by go_num, (by first | rfl | trivial)⟩
        rw [hnx.out]
        first | (rw [if_neg hx]; simp; done) | (rw [if_pos hx]; congr 1; omega)
       case measure => simp [intOf]; omega
    · obtain rfl : n = nH := by omega
      go_wp2
      go_ret
      exact ⟨retI (by rw [HU.out]), HbA.out⟩
end Go.Proofs.YtdaccpffdnbkiaaGreatDoor
