/-
  One of a list of ints that was just written out.
-/
import Derived.Test.YtfadadddofijnaaRd
namespace Go.Proofs.Ytfadadddofijnaa
open Go.RowKit
set_option linter.unusedVariables false

theorem ints_at {w : World} {cs : Array Value} (T : TypeId) (lb : Nat) (hb : lb = w.heap.size) (vs : List Int) (hc : cs = (vs.map (Value.int .i64)).toArray) (i : Nat) (hi : i < vs.length) :
    (w.alloc (.cells cs T)).cell? ⟨lb, i, none⟩ = some (.int .i64 (vs.getD i 0)) := by
  subst hb hc
  have : (w.alloc (.cells (vs.map (Value.int .i64)).toArray T)).heap[w.heap.size]? = some (.cells (vs.map (Value.int .i64)).toArray T) := (MapKept.heap_alloc w _).1
  unfold World.cell?
  rw [this]
  simp [hi]
/-- One of a list of ints that was just written out, all within bounds. -/
theorem one_of {w : World} {cs : Array Value} {T : TypeId} {w' : World} {b : Nat} (lb : Nat) (hb : lb = w.heap.size) (vs : List Int) (hc : cs = (vs.map (Value.int .i64)).toArray) (lo hi : Int) (hv : ∀ v ∈ vs, lo ≤ v ∧ v ≤ hi) (i : Nat) (hi' : i < vs.length)
    (hg : (w.alloc (.cells cs T)).grownBy w' (some b)) (hne : lb ≠ b) : ∃ y : Int, lo ≤ y ∧ y ≤ hi ∧ w'.cell? ⟨lb, i, none⟩ = some (.int .i64 y) := by
  have hm : vs.getD i 0 ∈ vs := by
    have : vs.getD i 0 = vs[i] := by simp [hi']
    rw [this]; exact List.getElem_mem _
  exact ⟨vs.getD i 0, (hv _ hm).1, (hv _ hm).2, hg.cell (ints_at T lb hb vs hc i hi') (by simpa using hne)⟩

theorem lit_here (vs : List Int) (lo hi : Int) (hv : ∀ v ∈ vs, lo ≤ v ∧ v ≤ hi) (i : Nat) (hi' : i < vs.length) :
    ∃ y : Int, lo ≤ y ∧ y ≤ hi ∧ ∀ h, (vs.map (Value.int .i64))[i]'h = .int .i64 y := by
  have hm : vs[i] ∈ vs := List.getElem_mem _
  exact ⟨vs[i], (hv _ hm).1, (hv _ hm).2, fun h => by simp⟩
end Go.Proofs.Ytfadadddofijnaa
