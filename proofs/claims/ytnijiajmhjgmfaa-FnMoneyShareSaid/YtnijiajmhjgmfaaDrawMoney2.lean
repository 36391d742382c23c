/-
  What DrawMoneyAdd and DrawMoneyPart draw: ints within bounds, in a world that has only grown.
-/
import Derived.Test.YtnijiajmhjgmfaaDrawMoney
import Derived.Deep.RegionWith
namespace Go.Proofs.Ytnijiajmhjgmfaa
open Go.RowKit
set_option linter.unusedVariables false

def DrawnTwo (w : World) (e : Ending) (w' : World) : Prop :=
  ∃ x y : Int, -1000000000001 ≤ x ∧ x ≤ 1000000000001 ∧ -1000000000001 ≤ y ∧ y ≤ 1000000000001 ∧ e = .returned (.tuple #[.int .i64 x, .int .i64 y]) ∧ Below w.heap.size w w'
def DrawnThree (w : World) (e : Ending) (w' : World) : Prop :=
  ∃ x y z : Int, -1000000000000 ≤ x ∧ x ≤ 1000000000000 ∧ -1 ≤ y ∧ y ≤ 1000001 ∧ 0 ≤ z ∧ z ≤ 1000000 ∧ e = .returned (.tuple #[.int .i64 x, .int .i64 y, .int .i64 z]) ∧ Below w.heap.size w w'

theorem below_step {w w1 w2 : World} (h : Below w.heap.size w w1) (hg : w1.grownBy w2 (some w.heap.size)) : Below w.heap.size w w2 :=
  h.grown hg h.size (fun k e => by cases e; exact Nat.le_refl _)

theorem rd_drew {B : Nat} {w : World} {b p : Nat} (h : Rd B w b p) : Rd B w.drew b p := h.kept (Below.refl _ _).drew rfl

theorem rd_ne {B : Nat} {w : World} {b p : Nat} (h : Rd B w b p) : w.heap.size ≠ b := by have := h.le; omega
theorem lit_here (vs : List Int) (lo hi : Int) (hv : ∀ v ∈ vs, lo ≤ v ∧ v ≤ hi) (i : Nat) (hi' : i < vs.length) :
    ∃ y : Int, lo ≤ y ∧ y ≤ hi ∧ ∀ h, (vs.map (Value.int .i64))[i]'h = .int .i64 y := by
  have hm : vs[i] ∈ vs := List.getElem_mem _
  exact ⟨vs[i], (hv _ hm).1, (hv _ hm).2, fun h => by simp⟩

set_option maxHeartbeats 1000000 in
theorem drawTwo (a0 : Option Addr) (len cap : Nat) (z : List Int) (w : World) (w0 : IsRow .u8 w a0 len cap z) :
    Calls Try.prog 23 #[.slice a0 len cap] w (DrawnTwo w) := by
  go_enter Try.func23, Try.ntmps23
  go_wp2_with fail
  refine (opened a0 len cap z _ w0).mono ?_
  rintro e w1 ⟨rfl, hr1, hb1, -⟩
  go_wp2_with fail
  go_region_with (first
    | (go_at_call 37; refine (drawAmount w.heap.size w.heap.size 0 _ ?_ ?_).mono ?_; exact rd_drew hr1; omega; rintro e w2 ⟨x, l1, u1, rfl, hr2, hg2⟩)
    | (go_at_call 37; refine (drawAmount w.heap.size w.heap.size 4 _ ?_ ?_).mono ?_; exact hr2; omega; rintro e w3 ⟨y, l2, u2, rfl, hr3, hg3⟩)
    | (go_at_call 38; refine (pick w.heap.size w.heap.size 8 10 _ ?_ ?_ ?_ ?_).mono ?_; exact hr3; omega; omega; omega; rintro e w4 ⟨k, l3, u3, rfl, hr4, hg4, -⟩; obtain ⟨i, rfl⟩ := Int.eq_ofNat_of_zero_le l3; have q0 : i / 9 < 2 := (by omega); have q1 : ((i / 9 : Nat) : Int) < 2 := (by omega); have q2 : 0 ≤ ((i / 9 : Nat) : Int) := (by omega);  have hv : ∀ v ∈ [y, 1000000000001], (-1000000000001 : Int) ≤ v ∧ v ≤ 1000000000001 := (by intro v hv; simp at hv; omega); obtain ⟨v, v1, v2, c1⟩ := lit_here [y, 1000000000001] (-1000000000001) 1000000000001 hv (i / 9) q0; have cv : ∀ h, [Value.int .i64 y, Value.int .i64 1000000000001][i / 9]'h = .int .i64 v := c1; clear c1; have hfin := Lib.hid (below_step (below_step (below_step hb1.drew hg2) hg3) hg4); have e1 : IntKind.i64.wrap ((i : Int) / 9) = ((i / 9 : Nat) : Int) := (by rw [IntWalk.i64_in _ (by omega)]; omega))
    | (go_at_call 38; refine (pick w.heap.size w.heap.size 8 10 _ ?_ ?_ ?_ ?_).mono ?_; refine rd_alloc hr3 _; omega; omega; omega; rintro e w4 ⟨k, l3, u3, rfl, hr4, hg4, -⟩; obtain ⟨i, rfl⟩ := Int.eq_ofNat_of_zero_le l3; have q0 : i / 9 < 2 := (by omega); have q1 : ((i / 9 : Nat) : Int) < 2 := (by omega); have q2 : 0 ≤ ((i / 9 : Nat) : Int) := (by omega);  have hv : ∀ v ∈ [y, 1000000000001], (-1000000000001 : Int) ≤ v ∧ v ≤ 1000000000001 := (by intro v hv; simp at hv; omega); obtain ⟨v, v1, v2, c1⟩ := one_of w3.heap.size rfl [y, 1000000000001] rfl (-1000000000001) 1000000000001 hv (i / 9) q0 hg4 (rd_ne hr3); have hfin := Lib.hid (below_step (below_step (below_step hb1.drew hg2) hg3) (grown_trans (World.grownBy_alloc _ _ _) hg4)); have e1 : IntKind.i64.wrap ((i : Int) / 9) = ((i / 9 : Nat) : Int) := (by rw [IntWalk.i64_in _ (by omega)]; omega)))
  all_goals
    go_wp2
    go_ret2
    refine ⟨x, v, by omega, by omega, v1, v2, rfl, ?_⟩
    first | exact hfin.out | exact hfin.out.alloc hfin.out.size _

end Go.Proofs.Ytnijiajmhjgmfaa
