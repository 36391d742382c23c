/-
  A program of one's own is marked, and held against its marks: the laws' own helpers walked.
-/
import Derived.Test.YtjphjnopdlfplaaGreatDoorCodeMark
import Derived.Lib.QuietBelow
namespace Go.Proofs.YtjphjnopdlfplaaGreatDoor
open Go.RowKit
set_option linter.unusedVariables false
set_option linter.unusedSimpArgs false

/-- A program of which one place is looked at. -/
def AtF (B : Nat) (w : World) (g n c : Nat) (D : List Pl) (fs : List FI) (i : Nat) (d : Pl) (f : FI) : Prop := CodeF B w (.slice (some ⟨g, 0, none⟩) n c) (D.set i d) (fs.set i f) ∧ n = D.length ∧ i < n
theorem AtF.lens {B : Nat} {w : World} {g n c i : Nat} {D : List Pl} {fs : List FI} {d : Pl} {f : FI} (h : AtF B w g n c D fs i d f) : i < D.length ∧ i < fs.length := by
  have := allO_len h.1.2.1
  rw [List.length_set, List.length_set] at this
  have := h.2.1
  have := h.2.2
  omega
theorem AtF.cell {B : Nat} {w : World} {g n c i : Nat} {D : List Pl} {fs : List FI} {d : Pl} {f : FI} (h : AtF B w g n c D fs i d f) (cc : Nat) (hc : cc < 4) : w.cell? ⟨g, i * 4 + cc, none⟩ = (cells4 f)[cc]? ∧ w.frozen? ⟨g, i * 4 + cc, none⟩ = false := by
  obtain ⟨l1, l2⟩ := h.lens
  have h1 := h.1.1
  rw [List.length_set, ← h.2.1] at h1
  have r := rowsI_get (fs.set i f) i cc (by rw [List.length_set]; exact l2) hc
  rw [List.getElem_set_self] at r
  exact ⟨(h1.cellAt (i * 4 + cc) (by have := h.2.2; omega)).trans r, h1.frozenAt _⟩
theorem AtF.upd {B : Nat} {w : World} {g n c i : Nat} {D : List Pl} {fs : List FI} {d d' : Pl} {f f' : FI} (h : AtF B w g n c D fs i d f) {c0 : Nat} {u : Value} (hc : c0 < 4) (he : (cells4 f).set c0 u = cells4 f') (hp : PlO B w d' f') (hm : MkV f' = MkV f) :
    AtF B (w.setCell ⟨g, i * 4 + c0, none⟩ u) g n c D fs i d' f' ∧ w.grownBy (w.setCell ⟨g, i * 4 + c0, none⟩ u) (some g) := by
  obtain ⟨l1, l2⟩ := h.lens
  have k := h.1.setF (i := i) (c0 := c0) (u := u) (d' := d') (f' := f') (by rw [List.length_set]; exact h.2.1) (by rw [List.length_set]; exact l2) hc (by rw [List.getElem_set_self]; exact he) hp (by rw [List.getElem_set_self]; exact hm)
  rw [List.set_set, List.set_set] at k
  exact ⟨⟨k.1, h.2⟩, k.2⟩
theorem AtF.below {B : Nat} {w w' : World} {g n c i : Nat} {D : List Pl} {fs : List FI} {d : Pl} {f : FI} (h : AtF B w g n c D fs i d f) (hb : Below w.heap.size w w') : AtF B w' g n c D fs i d f := ⟨h.1.below hb, h.2⟩
theorem AtF.mark {B : Nat} {w w' : World} {g n c i : Nat} {D : List Pl} {fs : List FI} {d : Pl} {f : FI} (h : AtF B w g n c D fs i d f) {ms' : List (Int × Int)} (hl : ms'.length = d.ms.length)
    (hown : w'.ownsRow B tK 2 (MkV f) f.ml (rowsM ms')) (hg : w.grownBy w' (MkV f).ownBlock) : AtF B w' g n c D fs i ⟨d.op, d.num, d.nm, ms'⟩ f := by
  obtain ⟨l1, l2⟩ := h.lens
  have k := h.1.setM (i := i) (by rw [List.length_set]; exact l2) (by rw [List.length_set]; exact l1) (ms' := ms') (by rw [List.getElem_set_self]; exact hl) (by rw [List.getElem_set_self]; exact hown) (by rw [List.getElem_set_self]; exact hg)
  rw [List.getElem_set_self, List.set_set] at k
  exact ⟨k, h.2⟩
theorem AtF.start {B : Nat} {w : World} {g n c i : Nat} {D : List Pl} {fs : List FI} (h : CodeF B w (.slice (some ⟨g, 0, none⟩) n c) D fs) (hn : n = D.length) (hi : i < D.length) (hf : i < fs.length) : AtF B w g n c D fs i D[i] fs[i] := by
  refine ⟨?_, hn, by omega⟩
  rw [List.set_getElem_self, List.set_getElem_self]
  exact h
end Go.Proofs.YtjphjnopdlfplaaGreatDoor
