/-
  An amount, drawn by the reader; and what the two laws on plain amounts draw.
-/
import Derived.Test.YtjbnelbfpglkfaaRd
namespace Go.Proofs.Ytjbnelbfpglkfaa
open Go.RowKit
set_option linter.unusedVariables false

def DrawnInt (B b p : Nat) (lo hi : Int) (w : World) (e : Ending) (w' : World) : Prop :=
  ∃ x : Int, lo ≤ x ∧ x ≤ hi ∧ e = .returned (.int .i64 x) ∧ Rd B w' b p ∧ w.grownBy w' (some b)

theorem ints_at {w : World} {cs : Array Value} (T : TypeId) (lb : Nat) (hb : lb = w.heap.size) (vs : List Int) (hc : cs = (vs.map (Value.int .i64)).toArray) (i : Nat) (hi : i < vs.length) :
    (w.alloc (.cells cs T)).cell? ⟨lb, i, none⟩ = some (.int .i64 (vs.getD i 0)) := by
  subst hb hc
  have : (w.alloc (.cells (vs.map (Value.int .i64)).toArray T)).heap[w.heap.size]? = some (.cells (vs.map (Value.int .i64)).toArray T) := (MapKept.heap_alloc w _).1
  unfold World.cell?
  rw [this]
  simp [hi]
/-- One of a list of ints that was just written out, all within bounds. -/
theorem one_of {w : World} {cs : Array Value} {T : TypeId} {w' : World} {b : Nat} (lb : Nat) (hb : lb = w.heap.size) (vs : List Int) (hc : cs = (vs.map (Value.int .i64)).toArray) (lo hi : Int) (hv : ∀ v ∈ vs, lo ≤ v ∧ v ≤ hi) (i : Nat) (hi' : i < vs.length)
    (hg : (w.alloc (.cells cs T)).grownBy w' (some b)) (hne : lb ≠ b) : ∃ y : Int, lo ≤ y ∧ y ≤ hi ∧ w'.cell? ⟨lb, i, none⟩ = some (.int .i64 y) := by
  have hm : vs.getD i 0 ∈ vs := by
    have : vs.getD i 0 = vs[i] := by simp [hi']
    rw [this]; exact List.getElem_mem _
  exact ⟨vs.getD i 0, (hv _ hm).1, (hv _ hm).2, hg.cell (ints_at T lb hb vs hc i hi') (by simpa using hne)⟩

set_option maxHeartbeats 1000000 in
theorem drawAmount (B b p : Nat) (w : World) (hr : Rd B w b p) (hp : p ≤ 100000000) :
    Calls Try.prog 8 #[.pointer (some ⟨b, 0, none⟩)] w (DrawnInt B b (p + 4) (-1000000000000) 1000000000000 w) := by
  go_enter Try.func8, Try.ntmps8
  go_wp2_with fail
  refine (pick B b p 200 _ hr (by omega) (by omega) (by omega)).mono ?_
  rintro e w1 ⟨x1, l1, u1, rfl, hr1, hg1, -⟩
  go_wp2_with fail
  refine (pick B b _ 100000 _ hr1 (by omega) (by omega) (by omega)).mono ?_
  rintro e w2 ⟨x2, l2, u2, rfl, hr2, hg2, -⟩
  go_wp2_with fail
  refine (pick B b _ 3 _ hr2 (by omega) (by omega) (by omega)).mono ?_
  rintro e w3 ⟨x3, l3, u3, rfl, hr3, hg3, -⟩
  go_wp2_with fail
  refine (pick B b _ 6 _ (rd_alloc hr3 _) (by omega) (by omega) (by omega)).mono ?_
  rintro e w4 ⟨x4, l4, u4, rfl, hr4, hg4, -⟩
  obtain ⟨i, rfl⟩ := Int.eq_ofNat_of_zero_le l4
  have hi : i < 6 := by omega
  obtain ⟨y, y1, y2, c1⟩ := one_of w3.heap.size rfl [x1 - 100, x2, 1000000000000, -1000000000000, 1000000000000 - x3, 0] rfl (-1000000000000) 1000000000000 (by intro v hv; simp at hv; omega) i hi hg4 (by have := hr3.le; omega)
  have hfin : w.grownBy w4 (some b) := grown_trans hg1 (grown_trans hg2 (grown_trans hg3 (grown_trans (World.grownBy_alloc _ _ _) hg4)))
  go_wp2
  go_ret
  exact ⟨y, y1, y2, rfl, hr4, hfin⟩
end Go.Proofs.Ytjbnelbfpglkfaa
