/-
  The law that holds the program's LogRead against the model's.
-/
import Derived.Test.YtiganhkmnklhlaaDoorLawLog
import Derived.Test.YtiganhkmnklhlaaDoorMarkStr
import Derived.Test.YtiganhkmnklhlaaDoorEqStrs
namespace Go.Proofs.YtiganhkmnklhlaaDoor
open Go.RowKit
set_option linter.unusedVariables false
set_option linter.unusedSimpArgs false

theorem strs_own {w : World} {B e : Nat} {a : Option Addr} {len cap : Nat} {ss : List ByteArray} (h : w.ownsRow B e 1 (.slice a len cap) len (ss.map Value.string)) (hl : ss.length = len) : Strs w a len ss := by
  refine ⟨hl, ?_⟩
  by_cases h0 : len = 0
  · exact Or.inl h0
  · obtain ⟨g, c, e1, -, hg⟩ := h.form (by omega)
    obtain ⟨rfl, -, -⟩ : a = some ⟨g, 0, none⟩ ∧ len = len ∧ cap = c := by simpa using e1
    refine Or.inr ⟨g, 0, rfl, hg, fun i hi => ?_⟩
    have hi2 : i < (ss.map Value.string).length := by simpa [hl] using hi
    have := h.cellAt i (by omega)
    rw [Nat.zero_add, this]
    simp [hl, hi]
theorem strsW_own {w : World} {B e : Nat} {a : Option Addr} {len cap : Nat} {ss : List ByteArray} (h : w.ownsRow B e 1 (.slice a len cap) len (ss.map Value.string)) (hl : ss.length = len) : StrsW B w a len := by
  by_cases h0 : len = 0
  · exact Or.inl h0
  · obtain ⟨g, c, e1, hB, hg⟩ := h.form (by omega)
    obtain ⟨rfl, -, -⟩ : a = some ⟨g, 0, none⟩ ∧ len = len ∧ cap = c := by simpa using e1
    refine Or.inr ⟨g, rfl, hB, hg, fun i hi => ⟨⟨ss.getD i ByteArray.empty, ?_⟩, h.frozenAt i⟩⟩
    rw [h.cellAt i (by omega)]
    simp [hl, hi]
theorem Marked.kept {w w' : World} {g len k0 : Nat} (h : Marked w g len k0) (hg : g < w.heap.size) (hb : Below w.heap.size w w') : Marked w' g len k0 := fun i hi => (hb.cell (p := ⟨g, i, none⟩) hg).trans (h i hi)

end Go.Proofs.YtiganhkmnklhlaaDoor
