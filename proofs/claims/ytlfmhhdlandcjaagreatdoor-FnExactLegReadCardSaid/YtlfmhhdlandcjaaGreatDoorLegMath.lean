/-
  What is used and what is to be given back of a leg, as sums: in plain words; and what a hold read from a list leaves in the world.
-/
import Derived.Test.YtlfmhhdlandcjaaGreatDoorLeg
import Derived.Test.YtlfmhhdlandcjaaGreatDoorNameB
namespace Go.Proofs.YtlfmhhdlandcjaaGreatDoor
open Go.RowKit
set_option linter.unusedVariables false

def sumS (S : Nat → Int) (k : Nat) : Nat → Int
  | 0 => 0
  | m + 1 => sumS S k m + S (k + m)
def usedH (c s : Nat → Int) (k : Int) : Nat → Int
  | 0 => 0
  | n + 1 => usedH c s k n + (if k ≤ c n then max (s n) 0 else 0)
def backH (c s : Nat → Int) (k : Int) : Nat → Int
  | 0 => 0
  | n + 1 => backH c s k n + (if c n = k then max (-(s n)) 0 else 0)
def SoldOk (d : LegD) : Prop := d.nS = 3 ∧ ∀ i, i < 3 → 0 ≤ d.S i ∧ d.S i ≤ 9
def HeldOk (d : LegD) : Prop := d.nH ≤ 6 ∧ ∀ i, i < d.nH → -9 ≤ d.s i ∧ d.s i ≤ 9
theorem sumS_box {S : Nat → Int} {k : Nat} : ∀ (m : Nat), (∀ i, i < m → 0 ≤ S (k + i) ∧ S (k + i) ≤ 9) → 0 ≤ sumS S k m ∧ sumS S k m ≤ 9 * m
  | 0, _ => ⟨Int.le_refl _, Int.le_refl _⟩
  | m + 1, h => by
    have ih := sumS_box m (fun i hi => h i (by omega))
    have := h m (by omega)
    simp only [sumS]; omega
theorem usedH_box {c s : Nat → Int} {k : Int} : ∀ (n : Nat), (∀ i, i < n → -9 ≤ s i ∧ s i ≤ 9) → 0 ≤ usedH c s k n ∧ usedH c s k n ≤ 9 * n
  | 0, _ => ⟨Int.le_refl _, Int.le_refl _⟩
  | n + 1, h => by
    have ih := usedH_box (c := c) (k := k) n (fun i hi => h i (by omega))
    have := h n (by omega)
    simp only [usedH]; split <;> omega
theorem backH_box {c s : Nat → Int} {k : Int} : ∀ (n : Nat), (∀ i, i < n → -9 ≤ s i ∧ s i ≤ 9) → 0 ≤ backH c s k n ∧ backH c s k n ≤ 9 * n
  | 0, _ => ⟨Int.le_refl _, Int.le_refl _⟩
  | n + 1, h => by
    have ih := backH_box (c := c) (k := k) n (fun i hi => h i (by omega))
    have := h n (by omega)
    simp only [backH]; split <;> omega
def usedB (d : LegD) (k : Nat) : Int := sumS d.S k (3 - k) + usedH d.c d.s k d.nH
def backB (d : LegD) (k : Nat) : Int := backH d.c d.s k d.nH
theorem usedB_box {d : LegD} (hS : SoldOk d) (hH : HeldOk d) (k : Nat) (hk : k < 3) : 0 ≤ usedB d k ∧ usedB d k ≤ 100 := by
  have h1 := sumS_box (S := d.S) (k := k) (3 - k) (fun i hi => hS.2 _ (by omega))
  have h2 := usedH_box (c := d.c) (k := k) d.nH hH.2
  have h3 := hH.1
  unfold usedB; omega
theorem backB_box {d : LegD} (hH : HeldOk d) (k : Nat) : 0 ≤ backB d k ∧ backB d k ≤ 100 := by
  have h2 := backH_box (c := d.c) (k := k) d.nH hH.2
  have h3 := hH.1
  unfold backB; omega

theorem Nums.cells {w : World} {a : Option Addr} {len : Nat} {z : Nat → Int} (h : Nums w a len z) (h0 : 0 < len) : ∃ b off, a = some ⟨b, off, none⟩ ∧ b < w.heap.size ∧ ∀ i, i < len → w.cell? ⟨b, off + i, none⟩ = some (.int .i64 (z i)) := by
  rcases h with h2 | ⟨b, off, h1, h3, h4⟩
  · omega
  · exact ⟨b, off, h1, h3, h4⟩
theorem Holds.cells {w : World} {a : Option Addr} {len : Nat} {t c s : Nat → Int} (h : Holds w a len t c s) (h0 : 0 < len) : ∃ b off, a = some ⟨b, off, none⟩ ∧ b < w.heap.size ∧ ∀ i, i < len → w.cell? ⟨b, off + i * 3, none⟩ = some (.int .i64 (t i)) ∧ w.cell? ⟨b, off + i * 3 + 1, none⟩ = some (.int .i64 (c i)) ∧ w.cell? ⟨b, off + i * 3 + 2, none⟩ = some (.int .i64 (s i)) := by
  rcases h with h2 | ⟨b, off, h1, h3, h4⟩
  · omega
  · exact ⟨b, off, h1, h3, h4⟩
/-- The block of a leg. -/
def LegC (d : LegD) (p : LegP) : Array Value := #[.string d.name, .string d.fr, .string d.to, .int .i64 d.dep, .int .i64 d.arr, .int .i64 d.cap, .slice p.aL d.nL p.cL, .slice p.aS d.nS p.cS, .slice p.aB d.nB p.cB, .slice p.aH d.nH p.cH]
def LegBox (W : World) (b : Nat) (d : LegD) (p : LegP) : Prop := W.heap[b]? = some (.cells (LegC d p) 25 (0, 0))
theorem LegBox.new (w : World) (d : LegD) (p : LegP) : LegBox (w.alloc (.cells (LegC d p) 25)) w.heap.size d p := heap_alloc_new w _
theorem LegBox.kept {w w' : World} {b : Nat} {d : LegD} {p : LegP} (h : LegBox w b d p) (hb : Below w.heap.size w w') : LegBox w' b d p := (hb.block _ (lt_heap h)).trans h
theorem LegBox.c0 {W : World} {b : Nat} {d : LegD} {p : LegP} (h : LegBox W b d p) : W.cell? ⟨b, 0, none⟩ = some (.string d.name) := by rw [Lib.cell_of_heap h]; rfl
theorem LegBox.c1 {W : World} {b : Nat} {d : LegD} {p : LegP} (h : LegBox W b d p) : W.cell? ⟨b, 1, none⟩ = some (.string d.fr) := by rw [Lib.cell_of_heap h]; rfl
theorem LegBox.c2 {W : World} {b : Nat} {d : LegD} {p : LegP} (h : LegBox W b d p) : W.cell? ⟨b, 2, none⟩ = some (.string d.to) := by rw [Lib.cell_of_heap h]; rfl
theorem LegBox.c3 {W : World} {b : Nat} {d : LegD} {p : LegP} (h : LegBox W b d p) : W.cell? ⟨b, 3, none⟩ = some (.int .i64 d.dep) := by rw [Lib.cell_of_heap h]; rfl
theorem LegBox.c4 {W : World} {b : Nat} {d : LegD} {p : LegP} (h : LegBox W b d p) : W.cell? ⟨b, 4, none⟩ = some (.int .i64 d.arr) := by rw [Lib.cell_of_heap h]; rfl
theorem LegBox.c5 {W : World} {b : Nat} {d : LegD} {p : LegP} (h : LegBox W b d p) : W.cell? ⟨b, 5, none⟩ = some (.int .i64 d.cap) := by rw [Lib.cell_of_heap h]; rfl
theorem LegBox.c6 {W : World} {b : Nat} {d : LegD} {p : LegP} (h : LegBox W b d p) : W.cell? ⟨b, 6, none⟩ = some (.slice p.aL d.nL p.cL) := by rw [Lib.cell_of_heap h]; rfl
theorem LegBox.c7 {W : World} {b : Nat} {d : LegD} {p : LegP} (h : LegBox W b d p) : W.cell? ⟨b, 7, none⟩ = some (.slice p.aS d.nS p.cS) := by rw [Lib.cell_of_heap h]; rfl
theorem LegBox.c8 {W : World} {b : Nat} {d : LegD} {p : LegP} (h : LegBox W b d p) : W.cell? ⟨b, 8, none⟩ = some (.slice p.aB d.nB p.cB) := by rw [Lib.cell_of_heap h]; rfl
theorem LegBox.c9 {W : World} {b : Nat} {d : LegD} {p : LegP} (h : LegBox W b d p) : W.cell? ⟨b, 9, none⟩ = some (.slice p.aH d.nH p.cH) := by rw [Lib.cell_of_heap h]; rfl
theorem holdSize : (Tryz.prog.info? 58).map (·.size) = some 3 := by kernel_rfl
theorem hold_one (x y z : Int) : (#[.int .i64 x, .int .i64 y, .int .i64 z] : Array Value).all (·.oneCell') = true := by simp [Value.oneCell']
/-- A hold of its own, just written. -/
theorem holdBox (w : World) (x y z : Int) : ((w.alloc (.cells #[.int .i64 0, .int .i64 0, .int .i64 0] 58)).setRow w.heap.size #[.int .i64 x, .int .i64 y, .int .i64 z]).heap[w.heap.size]? = some (.cells #[.int .i64 x, .int .i64 y, .int .i64 z] 58 (0, 0)) :=
  setRow_heap _ w.heap.size _ _ _ _ (heap_alloc_new w _)
theorem holdBelow (w : World) (x y z : Int) : Below w.heap.size w ((w.alloc (.cells #[.int .i64 0, .int .i64 0, .int .i64 0] 58)).setRow w.heap.size #[.int .i64 x, .int .i64 y, .int .i64 z]) :=
  ((Below.refl _ _).alloc (Nat.le_refl _) _).grown (grown_setRow _ _ _) (by simp) (fun k e => by cases e; exact Nat.le_refl _)
theorem row3 {w : World} {b : Nat} {x y z : Value} {t : TypeId} {i : Nat × Nat} (h : w.heap[b]? = some (.cells #[x, y, z] t i)) : w.cell? ⟨b, 0, none⟩ = some x ∧ w.cell? ⟨b, 1, none⟩ = some y ∧ w.cell? ⟨b, 2, none⟩ = some z := by
  obtain ⟨i1, i2⟩ := i
  refine ⟨?_, ?_, ?_⟩ <;> (rw [Lib.cell_of_heap h]; rfl)
theorem cell_kept {w w' : World} {b off : Nat} {v : Value} (hb : Below w.heap.size w w') (h : b < w.heap.size) (hc : w.cell? ⟨b, off, none⟩ = some v) : w'.cell? ⟨b, off, none⟩ = some v := (hb.cell (p := ⟨b, off, none⟩) h).trans hc
theorem bt {a b c : World} (h : Below a.heap.size a b) (k : Below b.heap.size b c) : Below a.heap.size a c := h.trans (k.mono h.size)
end Go.Proofs.YtlfmhhdlandcjaaGreatDoor
