/-
  Plain facts on drawn words: what they are in memory, and how long they are together.
-/
import Derived.Test.YtifpdamghmlcfaaDoorDrawWire
import Derived.Test.YtifpdamghmlcfaaDoorWireDef
namespace Go.Proofs.YtifpdamghmlcfaaDoor
open Go.RowKit
set_option linter.unusedVariables false

theorem isRow_below {k : IntKind} {w w' : World} {a : Option Addr} {len cap : Nat} {z : List Int} (h : IsRow k w a len cap z) (hb : Below w.heap.size w w') : IsRow k w' a len cap z := by
  rcases h with h | ⟨x, h1, h2, h3, h4, h5, h6⟩
  · exact Or.inl h
  · refine Or.inr ⟨x, h1, h2, h3, h4, fun i hi => ?_, h6⟩
    have hc := h5 i hi
    exact (hb.cell (p := x.add i) (World.block_lt_of_cell? w _ hc)).trans hc
theorem owns_strs {B n : Nat} {w : World} {v : Value} {ss : List ByteArray} (hlen : ss.length = n) (hown : w.ownsRow B 9 1 v n (ss.map Value.string)) (hv : v ≠ .slice none 0 0) :
    ∃ g cap, v = .slice (some ⟨g, 0, none⟩) n cap ∧ B ≤ g ∧ Strs w (some ⟨g, 0, none⟩) n ss := by
  have hlt := hown.lt
  obtain ⟨hl, h | ⟨g, cap, cur, rfl, hg, -⟩⟩ := id hown
  · exact absurd h.1 hv
  · refine ⟨g, cap, rfl, hg, hlen, ?_⟩
    by_cases h0 : n = 0
    · exact Or.inl h0
    · refine Or.inr ⟨g, 0, rfl, (hlt g rfl).2, fun i hi => ?_⟩
      rw [Nat.zero_add, hown.cellAt i (by omega)]
      simp [hlen, hi]
theorem total_le (ss : List ByteArray) (h : ∀ s ∈ ss, s.size ≤ 6000) : total ss ≤ 6000 * ss.length := by
  induction ss with
  | nil => simp [total]
  | cons x r ih =>
    have := ih (fun s hs => h s (by simp [hs]))
    have := h x (by simp)
    simp only [total, List.length_cons]; omega
theorem getD_size {ss : List ByteArray} (h : ∀ s ∈ ss, s.size ≤ 6000) (k : Nat) (hk : k < ss.length) : (ss.getD k ByteArray.empty).size ≤ 1048576 := by
  have : ss.getD k ByteArray.empty = ss[k] := by simp [hk]
  rw [this]
  have := h _ (List.getElem_mem hk)
  omega
/-- What a drawn list is. -/
def Drawn (w : World) (g n : Nat) (ss : List ByteArray) : Prop := Strs w (some ⟨g, 0, none⟩) n ss ∧ n ≤ 42 ∧ ss.length = n ∧ (∀ s ∈ ss, s.size ≤ 6000) ∧ total ss ≤ 1048576 ∧ (wireL ss).length ≤ 1000000
theorem drawn_of {B n : Nat} {w : World} {v : Value} (h : Words B w v n) (hn : n ≤ 42) : ∃ g cap ss, v = .slice (some ⟨g, 0, none⟩) n cap ∧ Drawn w g n ss := by
  obtain ⟨ss, hlen, hown, hss, hv⟩ := h
  obtain ⟨g, cap, hv', -, hs⟩ := owns_strs hlen hown hv
  have ht := total_le ss hss
  have ht2 : total ss ≤ 1048576 := by omega
  exact ⟨g, cap, ss, hv', hs, hn, hlen, hss, ht2, by have := wireL_len ss ht2; omega⟩
end Go.Proofs.YtifpdamghmlcfaaDoor
