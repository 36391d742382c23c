/-
  A leg in a row of cells of its own, as the laws on legs lay it.
-/
import Derived.Test.YtdaccpffdnbkiaaGreatDoorOpenLeg
import Derived.Test.YtdaccpffdnbkiaaGreatDoorJ21
namespace Go.Proofs.YtdaccpffdnbkiaaGreatDoor
open Go.RowKit
set_option linter.unusedVariables false
set_option linter.unusedSimpArgs false

def LegBx (W : World) (b : Nat) (t : TypeId) (d : LegD) (p : LegP) : Prop := W.heap[b]? = some (.cells (LegC d p) t (0, 0))
theorem LegBx.new (w : World) (t : TypeId) (d : LegD) (p : LegP) : LegBx (w.alloc (.cells (LegC d p) t)) w.heap.size t d p := heap_alloc_new w _
theorem LegBx.kept {w w' : World} {b : Nat} {t : TypeId} {d : LegD} {p : LegP} (h : LegBx w b t d p) (hb : Below w.heap.size w w') : LegBx w' b t d p := (hb.block _ (lt_heap h)).trans h
theorem LegBx.c0 {W : World} {b : Nat} {t : TypeId} {d : LegD} {p : LegP} (h : LegBx W b t d p) : W.cell? ⟨b, 0, none⟩ = some (.string d.name) := by rw [Lib.cell_of_heap h]; rfl
theorem LegBx.c1 {W : World} {b : Nat} {t : TypeId} {d : LegD} {p : LegP} (h : LegBx W b t d p) : W.cell? ⟨b, 1, none⟩ = some (.string d.fr) := by rw [Lib.cell_of_heap h]; rfl
theorem LegBx.c2 {W : World} {b : Nat} {t : TypeId} {d : LegD} {p : LegP} (h : LegBx W b t d p) : W.cell? ⟨b, 2, none⟩ = some (.string d.to) := by rw [Lib.cell_of_heap h]; rfl
theorem LegBx.c3 {W : World} {b : Nat} {t : TypeId} {d : LegD} {p : LegP} (h : LegBx W b t d p) : W.cell? ⟨b, 3, none⟩ = some (.int .i64 d.dep) := by rw [Lib.cell_of_heap h]; rfl
theorem LegBx.c4 {W : World} {b : Nat} {t : TypeId} {d : LegD} {p : LegP} (h : LegBx W b t d p) : W.cell? ⟨b, 4, none⟩ = some (.int .i64 d.arr) := by rw [Lib.cell_of_heap h]; rfl
theorem LegBx.c5 {W : World} {b : Nat} {t : TypeId} {d : LegD} {p : LegP} (h : LegBx W b t d p) : W.cell? ⟨b, 5, none⟩ = some (.int .i64 d.cap) := by rw [Lib.cell_of_heap h]; rfl
theorem LegBx.c6 {W : World} {b : Nat} {t : TypeId} {d : LegD} {p : LegP} (h : LegBx W b t d p) : W.cell? ⟨b, 6, none⟩ = some (.slice p.aL d.nL p.cL) := by rw [Lib.cell_of_heap h]; rfl
theorem LegBx.c7 {W : World} {b : Nat} {t : TypeId} {d : LegD} {p : LegP} (h : LegBx W b t d p) : W.cell? ⟨b, 7, none⟩ = some (.slice p.aS d.nS p.cS) := by rw [Lib.cell_of_heap h]; rfl
theorem LegBx.c8 {W : World} {b : Nat} {t : TypeId} {d : LegD} {p : LegP} (h : LegBx W b t d p) : W.cell? ⟨b, 8, none⟩ = some (.slice p.aB d.nB p.cB) := by rw [Lib.cell_of_heap h]; rfl
theorem LegBx.c9 {W : World} {b : Nat} {t : TypeId} {d : LegD} {p : LegP} (h : LegBx W b t d p) : W.cell? ⟨b, 9, none⟩ = some (.slice p.aH d.nH p.cH) := by rw [Lib.cell_of_heap h]; rfl
theorem legRowBox (w : World) (d : LegD) (p : LegP) : LegBx ((w.alloc (.cells #[.string ⟨#[]⟩, .string ⟨#[]⟩, .string ⟨#[]⟩, .int .i64 0, .int .i64 0, .int .i64 0, .slice none 0 0, .slice none 0 0, .slice none 0 0, .slice none 0 0] 25)).setRow w.heap.size (LegC d p)) w.heap.size 25 d p := setRow_heap _ w.heap.size _ _ _ _ (heap_alloc_new w _)
theorem legRowBelow (w : World) (cs : Array Value) : Below w.heap.size w ((w.alloc (.cells #[.string ⟨#[]⟩, .string ⟨#[]⟩, .string ⟨#[]⟩, .int .i64 0, .int .i64 0, .int .i64 0, .slice none 0 0, .slice none 0 0, .slice none 0 0, .slice none 0 0] 25)).setRow w.heap.size cs) :=
  ((Below.refl _ _).alloc (Nat.le_refl _) _).grown (grown_setRow _ _ _) (by simp) (fun k e => by cases e; exact Nat.le_refl _)
theorem leg_one (d : LegD) (p : LegP) : (LegC d p).all (·.oneCell') = true := by simp [LegC, Value.oneCell']
theorem iff_eq {S : Prop} {a b : Bool} (h : a = true ↔ S) (k : b = true ↔ S) : a = b := by
  cases a with
  | true => exact (k.2 (h.1 rfl)).symm
  | false =>
    cases b with
    | false => rfl
    | true => exact h.2 (k.1 rfl)

end Go.Proofs.YtdaccpffdnbkiaaGreatDoor
