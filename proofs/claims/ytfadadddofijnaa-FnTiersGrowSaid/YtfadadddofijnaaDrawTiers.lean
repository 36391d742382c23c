/-
  What DrawTiersOf draws: an int within bounds, and a list of marks in new memory.
-/
import Derived.Test.YtfadadddofijnaaDrawMarks
import Derived.Test.YtfadadddofijnaaInts
namespace Go.Proofs.Ytfadadddofijnaa
open Go.RowKit
set_option linter.unusedVariables false

theorem cellsM_set0 (ms : List (Int × Int)) (v : Int) (h : 0 < ms.length) : (cellsM ms).set 0 (.int .i64 v) = cellsM (ms.set 0 (v, (ms[0]).2)) := by
  cases ms with
  | nil => simp at h
  | cons m r => simp [cellsM]
theorem marks_own {w : World} {B g n cap : Nat} {ms : List (Int × Int)} (hl : ms.length = n) (h : w.ownsRow B 29 2 (.slice (some ⟨g, 0, none⟩) n cap) n (cellsM ms)) :
    Marks w (some ⟨g, 0, none⟩) n (fun i => (ms.getD i (0, 0)).1) (fun i => (ms.getD i (0, 0)).2) := by
  refine Or.inr ⟨g, 0, rfl, (h.lt g rfl).2, fun i hi => ?_⟩
  have hx := cellsM_len ms
  have hm : i < ms.length := by omega
  have e : ms.getD i (0, 0) = ms[i] := by simp [hm]
  simp only [e]
  rw [Nat.zero_add, h.cellAt (i * 2) (by omega), h.cellAt (i * 2 + 1) (by omega)]
  exact cellsM_at ms i hm

def DrawnT (w : World) (e : Ending) (w' : World) : Prop :=
  ∃ (n : Int) (g len cap : Nat) (f p : Nat → Int), -1 ≤ n ∧ n ≤ 1000000000001 ∧ 1 ≤ len ∧ len ≤ 4 ∧ e = .returned (.tuple #[.int .i64 n, .slice (some ⟨g, 0, none⟩) len cap]) ∧ Marks w' (some ⟨g, 0, none⟩) len f p ∧ Below w.heap.size w w'

theorem below_step {w w1 w2 : World} (h : Below w.heap.size w w1) (hg : w1.grownBy w2 (some w.heap.size)) : Below w.heap.size w w2 :=
  h.grown hg h.size (fun k e => by cases e; exact Nat.le_refl _)
theorem rd_ne {B : Nat} {w : World} {b p : Nat} (h : Rd B w b p) : w.heap.size ≠ b := by have := h.le; omega

set_option maxHeartbeats 1000000 in
theorem drawTiers (a0 : Option Addr) (len cap : Nat) (z : List Int) (w : World) (w0 : IsRow .u8 w a0 len cap z) :
    Calls Try.prog 5 #[.slice a0 len cap] w (DrawnT w) := by
  go_enter Try.func5, Try.ntmps5
  go_wp2_with fail
  refine (opened a0 len cap z _ w0).mono ?_
  rintro e w1 ⟨rfl, hr1, hb1, -⟩
  clear w0
  go_wp2_with fail
  refine (drawMarks w.heap.size 0 _ hr1 (by omega)).mono ?_
  rintro e w2 ⟨v, m, q, m1, m2, rfl, ⟨ms, hml, hown, hms, hnil⟩, hr2, hq, hb2⟩
  obtain ⟨g, cp, rfl⟩ := own_form hown hnil
  have hbw2 : Below w.heap.size w w2 := hb1.trans hb2
  have hg := hown.lt g rfl
  have hr1le := hr1.le
  go_wp2_with fail
  refine (pick w.heap.size w.heap.size q 10 _ hr2 (by omega) (by omega) (by omega)).mono ?_
  rintro e w3 ⟨r1, a1, b1, rfl, hr3, hg3, -⟩
  have hown3 := hown.kept hg3 (Or.inr (by simp [Value.ownBlock]; omega))
  have hbw3 := below_step hbw2 hg3
  clear hown
  obtain ⟨w4, ms4, hml4, hown4, hr4, hbw4, hw4⟩ : ∃ (w4 : World) (ms4 : List (Int × Int)), ms4.length = m ∧ w4.ownsRow w1.heap.size 29 2 (.slice (some ⟨g, 0, none⟩) m cp) m (cellsM ms4) ∧ Rd w.heap.size w4 w.heap.size (q + 1) ∧ Below w.heap.size w w4 ∧ w4 = (if r1 == 0 then w3.setCell ⟨g, 0, none⟩ (.int .i64 1) else w3) := by
    cases hx : (r1 == 0) with
    | false => exact ⟨w3, ms, hml, hown3, hr3, hbw3, by simp⟩
    | true =>
      refine ⟨w3.setCell ⟨g, 0, none⟩ (.int .i64 1), ms.set 0 (1, (ms[0]'(by omega)).2), by simp; omega, ?_, ?_, hbw3.setCell (by show w.heap.size ≤ g; omega) _, by simp⟩
      · rw [← cellsM_set0 ms 1 (by omega)]; exact (hown3.stored 0 _).1
      · exact hr3.kept ((Below.refl _ _).setCell (by show w.heap.size ≤ g; omega) _) (Below.heap_setCell _ _ _ _ (by show w.heap.size ≠ g; omega))
  have HW := Lib.hid hw4
  have H4 := Lib.hid hown4
  cases hx : (r1 == 0) with
  | true =>
    have f1 := hown3.frozenAt 0
    have e1 : w3.cell? ⟨g, 0, none⟩ = some (.int .i64 (ms[0]'(by omega)).1) := by rw [hown3.cellAt 0 (by omega)]; exact (cellsM_at ms 0 (by omega)).1
    generalize (ms[0]'(by omega)).1 = yy at *
    have hw5 : w3.setCell ⟨g, 0, none⟩ (.int .i64 1) = w4 := by rw [HW.out, hx]; rfl
    clear hw4 hown3 hown4
    have k1 : (0 : Int) < (m : Int) := by omega
    go_wp2_with fail
    refine (pick w.heap.size w.heap.size (q + 1) 100 _ hr4 (by omega) (by omega) (by omega)).mono ?_
    rintro e w5 ⟨x5, l5, u5, rfl, hr5, hg5, -⟩
    have hown5 := H4.out.kept hg5 (Or.inr (by simp [Value.ownBlock]; omega))
    have hbw5 := below_step hbw4 hg5
    go_wp2_with fail
    refine (pick w.heap.size w.heap.size _ 12 _ (rd_alloc hr5 _) (by omega) (by omega) (by omega)).mono ?_
    rintro e w6 ⟨x6, l6, u6, rfl, hr6, hg6, -⟩
    obtain ⟨i, rfl⟩ := Int.eq_ofNat_of_zero_le l6
    have q0 : i * 5 / 12 < 5 := by omega
    have q1 : ((i * 5 / 12 : Nat) : Int) < 5 := by omega
    have q2 : 0 ≤ ((i * 5 / 12 : Nat) : Int) := by omega
    have e2 : IntKind.i64.wrap ((i : Int) * 5 / 12) = ((i * 5 / 12 : Nat) : Int) := by rw [IntWalk.i64_in _ (by omega)]; omega
    have hown6 := (hown5.alloc (.cells #[.int .i64 x5, .int .i64 0, .int .i64 (-1), .int .i64 1000000000000, .int .i64 1000000000001] 3)).kept hg6 (Or.inr (by simp [Value.ownBlock]; omega))
    have hbw6 := below_step (hbw5.alloc hbw5.size (.cells #[.int .i64 x5, .int .i64 0, .int .i64 (-1), .int .i64 1000000000000, .int .i64 1000000000001] 3)) hg6
    obtain ⟨y, y1, y2, c1⟩ := one_of w5.heap.size rfl [x5, 0, -1, 1000000000000, 1000000000001] rfl (-1) 1000000000001 (by intro v hv; simp at hv; omega) (i * 5 / 12) q0 hg6 (rd_ne hr5)
    have HM := Lib.hid (marks_own hml4 hown6)
    clear hown6 hown5
    go_wp2
    go_ret2
    exact ⟨y, g, m, cp, _, _, y1, y2, m1, m2, rfl, HM.out, hbw6⟩
  | false =>
    have hw5 : w3 = w4 := by rw [HW.out, hx]; rfl
    subst hw5
    clear hw4 hown3 hown4
    go_wp2_with fail
    refine (pick w.heap.size w.heap.size (q + 1) 100 _ hr4 (by omega) (by omega) (by omega)).mono ?_
    rintro e w5 ⟨x5, l5, u5, rfl, hr5, hg5, -⟩
    have hown5 := H4.out.kept hg5 (Or.inr (by simp [Value.ownBlock]; omega))
    have hbw5 := below_step hbw4 hg5
    go_wp2_with fail
    refine (pick w.heap.size w.heap.size _ 12 _ (rd_alloc hr5 _) (by omega) (by omega) (by omega)).mono ?_
    rintro e w6 ⟨x6, l6, u6, rfl, hr6, hg6, -⟩
    obtain ⟨i, rfl⟩ := Int.eq_ofNat_of_zero_le l6
    have q0 : i * 5 / 12 < 5 := by omega
    have q1 : ((i * 5 / 12 : Nat) : Int) < 5 := by omega
    have q2 : 0 ≤ ((i * 5 / 12 : Nat) : Int) := by omega
    have e2 : IntKind.i64.wrap ((i : Int) * 5 / 12) = ((i * 5 / 12 : Nat) : Int) := by rw [IntWalk.i64_in _ (by omega)]; omega
    have hown6 := (hown5.alloc (.cells #[.int .i64 x5, .int .i64 0, .int .i64 (-1), .int .i64 1000000000000, .int .i64 1000000000001] 3)).kept hg6 (Or.inr (by simp [Value.ownBlock]; omega))
    have hbw6 := below_step (hbw5.alloc hbw5.size (.cells #[.int .i64 x5, .int .i64 0, .int .i64 (-1), .int .i64 1000000000000, .int .i64 1000000000001] 3)) hg6
    obtain ⟨y, y1, y2, c1⟩ := one_of w5.heap.size rfl [x5, 0, -1, 1000000000000, 1000000000001] rfl (-1) 1000000000001 (by intro v hv; simp at hv; omega) (i * 5 / 12) q0 hg6 (rd_ne hr5)
    have HM := Lib.hid (marks_own hml4 hown6)
    clear hown6 hown5
    go_wp2
    go_ret2
    exact ⟨y, g, m, cp, _, _, y1, y2, m1, m2, rfl, HM.out, hbw6⟩
end Go.Proofs.Ytfadadddofijnaa
