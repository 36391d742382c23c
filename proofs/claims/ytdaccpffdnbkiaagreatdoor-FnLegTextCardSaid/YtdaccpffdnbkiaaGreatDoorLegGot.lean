/-
  What both LegReads come to, in one form; boxes of legs.
-/
import Derived.Test.YtdaccpffdnbkiaaGreatDoorLegReadM
namespace Go.Proofs.YtdaccpffdnbkiaaGreatDoor
open Go.RowKit
set_option linter.unusedVariables false
set_option linter.unusedSimpArgs false

def GotL (s : ByteArray) (b : Bool) (d : LegD) : Prop := (b = false ∧ ¬ IsLegT s ∧ d = zeroD) ∨ (b = true ∧ ∃ x, d = leg8D x ∧ OkLeg (leg8D x) ∧ legB (leg8D x) = s)
theorem got_one {s : ByteArray} {b b' : Bool} {d d' : LegD} (h : GotL s b d) (h' : GotL s b' d') : b = b' ∧ d = d' := by
  rcases h with ⟨rfl, a, rfl⟩ | ⟨rfl, x, rfl, a1, a2⟩ <;> rcases h' with ⟨rfl, c, rfl⟩ | ⟨rfl, y, rfl, c1, c2⟩
  · exact ⟨rfl, rfl⟩
  · exact absurd ⟨_, c1, c2⟩ a
  · exact absurd ⟨_, a1, a2⟩ c
  · rw [leg_uniq a1 c1 (a2.trans c2.symm)]; exact ⟨rfl, rfl⟩
theorem got_fits {s : ByteArray} {b : Bool} {d : LegD} (h : GotL s b d) : Fits d := by
  rcases h with ⟨-, -, rfl⟩ | ⟨-, x, rfl, h, -⟩
  · exact ⟨Nat.zero_le _, Nat.zero_le _, Nat.zero_le _, Nat.zero_le _, Nat.zero_le _, Nat.zero_le _, Nat.zero_le _⟩
  · have z := h.sizes
    have q := parts_of h
    have l1 := q.nL
    have l2 := q.nS
    have l3 := q.mB
    exact ⟨Nat.le_trans z.n1 (by omega), Nat.le_trans z.n2 (by omega), Nat.le_trans z.n3 (by omega), show x.ll.length ≤ _ by omega, show x.ls.length ≤ _ by omega, show x.lb.length ≤ _ by omega, Nat.zero_le _⟩
theorem leg_oneL (d : LegD) (p : LegP) : (LegC d p).all (·.oneCell') = true := by simp [LegC, Value.oneCell']
def GotI (s : ByteArray) (w : World) (e : Ending) (w' : World) : Prop := ∃ (b : Bool) (d : LegD) (p : LegP), e = .returned (.tuple #[LegV d p, .bool b]) ∧ Hid (GotL s b d) ∧ LegNew w.heap.size w' d p ∧ Below w.heap.size w w'
def GotM (s : ByteArray) (w : World) (e : Ending) (w' : World) : Prop := ∃ (b : Bool) (d : LegD) (p : LegP), e = .returned (.tuple #[LegV d p, .bool b]) ∧ Hid (GotL s b d) ∧ LegIn w' d p ∧ Below w.heap.size w w'
theorem gotI_of {s : ByteArray} {w : World} {e : Ending} {w' : World} (h : ReadPostL s w e w') : GotI s w e w' := by
  obtain ⟨hb, ⟨hn, rfl⟩ | ⟨x, q, hg, rfl, ho⟩⟩ := h
  · exact ⟨false, zeroD, zeroP, rfl, Or.inl ⟨rfl, hn.out, rfl⟩, ⟨⟨Nat.le_refl _, Nat.le_refl _, Nat.le_refl _, Nat.le_refl _⟩, w.heap.size, w.heap.size, w.heap.size, w.heap.size, Nat.le_refl _, Nat.le_refl _, Nat.le_refl _, Nat.le_refl _, hb.size, .inl rfl, .inl rfl, .inl rfl, .inl rfl⟩, hb⟩
  · exact ⟨true, leg8D x, plP q, rfl, Or.inr ⟨rfl, x, rfl, hg.out.1, hg.out.2⟩, ho.new, hb⟩
theorem gotM_of {s : ByteArray} {w : World} {e : Ending} {w' : World} (h : SPostL s w e w') : GotM s w e w' := by
  obtain ⟨hb, ⟨hn, rfl⟩ | ⟨x, q, hg, rfl, ho⟩⟩ := h
  · exact ⟨false, zeroD, zeroP, rfl, Or.inl ⟨rfl, hn.out, rfl⟩, ⟨.inl rfl, .inl rfl, .inl rfl, .inl rfl⟩, hb⟩
  · exact ⟨true, leg8D x, plP q, rfl, Or.inr ⟨rfl, x, rfl, hg.out.1, hg.out.2⟩, ho, hb⟩
theorem legCells {W : World} {k : Nat} {d : LegD} {p : LegP} (h : W.heap[k]? = some (.cells (LegC d p) 25 (0, 0))) :
    W.cell? ⟨k, 0, none⟩ = some (.string d.name) ∧ W.cell? ⟨k, 1, none⟩ = some (.string d.fr) ∧ W.cell? ⟨k, 2, none⟩ = some (.string d.to) ∧ W.cell? ⟨k, 3, none⟩ = some (.int .i64 d.dep) ∧ W.cell? ⟨k, 4, none⟩ = some (.int .i64 d.arr) ∧ W.cell? ⟨k, 5, none⟩ = some (.int .i64 d.cap) ∧ W.cell? ⟨k, 6, none⟩ = some (.slice p.aL d.nL p.cL) ∧ W.cell? ⟨k, 7, none⟩ = some (.slice p.aS d.nS p.cS) ∧ W.cell? ⟨k, 8, none⟩ = some (.slice p.aB d.nB p.cB) ∧ W.cell? ⟨k, 9, none⟩ = some (.slice p.aH d.nH p.cH) := by
  refine ⟨?_, ?_, ?_, ?_, ?_, ?_, ?_, ?_, ?_, ?_⟩ <;> (rw [Lib.cell_of_heap h]; rfl)
/-- Storing a leg into a new box. -/
theorem leg_box (w : World) (d : LegD) (p : LegP) : Below w.heap.size w ((w.alloc (.cells (rowG ⟨#[]⟩ ⟨#[]⟩ ⟨#[]⟩ 0 0 0 (.slice none 0 0) (.slice none 0 0) (.slice none 0 0)) 25)).setRow w.heap.size (LegC d p)) ∧ ((w.alloc (.cells (rowG ⟨#[]⟩ ⟨#[]⟩ ⟨#[]⟩ 0 0 0 (.slice none 0 0) (.slice none 0 0) (.slice none 0 0)) 25)).setRow w.heap.size (LegC d p)).heap[w.heap.size]? = some (.cells (LegC d p) 25 (0, 0)) :=
  ⟨below_row ((Below.refl _ _).alloc (Nat.le_refl _) _) (by simp) (Nat.le_refl _) (grown_setRow _ _ _), setRow_heap _ _ _ _ _ _ (heap_alloc_new w _)⟩
end Go.Proofs.YtdaccpffdnbkiaaGreatDoor
