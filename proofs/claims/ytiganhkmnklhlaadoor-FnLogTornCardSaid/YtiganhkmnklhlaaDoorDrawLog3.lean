/-
  What the laws on logs draw.
-/
import Derived.Test.YtiganhkmnklhlaaDoorDrawLog2
namespace Go.Proofs.YtiganhkmnklhlaaDoor
open Go.RowKit
set_option linter.unusedVariables false
set_option linter.unusedSimpArgs false

def addWords (tt : ByteArray) : List ByteArray := [⟨#[]⟩, ⟨#[98]⟩, ⟨#[49, 58, 50, 58, 120, 120]⟩, tt]
def addWord (tt : ByteArray) (i : Nat) : ByteArray := (addWords tt).getD i ByteArray.empty
theorem addWord_size {tt : ByteArray} (h : tt.size ≤ 400) (i : Nat) (hi : i < 4) : (addWord tt i).size ≤ 400 := by
  have : i = 0 ∨ i = 1 ∨ i = 2 ∨ i = 3 := by omega
  rcases this with rfl | rfl | rfl | rfl
  · show (⟨#[]⟩ : ByteArray).size ≤ 400; decide
  · show (⟨#[98]⟩ : ByteArray).size ≤ 400; decide
  · show (⟨#[49, 58, 50, 58, 120, 120]⟩ : ByteArray).size ≤ 400; decide
  · exact h
def tornWords : List ByteArray := [⟨#[]⟩, ⟨#[98]⟩, ⟨#[97, 32, 114, 101, 99, 111, 114, 100]⟩]
def tornWord (i : Nat) : ByteArray := tornWords.getD i ByteArray.empty
theorem tornWord_size (i : Nat) (hi : i < 3) : (tornWord i).size ≤ 8 := by
  have : ∀ i, i < 3 → (tornWord i).size ≤ 8 := by decide
  exact this i hi
theorem ints_at {w : World} {cs : Array Value} (T : TypeId) (lb : Nat) (hb : lb = w.heap.size) (vs : List Int) (hc : cs = (vs.map (Value.int .i64)).toArray) (i : Nat) (hi : i < vs.length) :
    (w.alloc (.cells cs T)).cell? ⟨lb, i, none⟩ = some (.int .i64 (vs.getD i 0)) := by
  subst hb hc
  have : (w.alloc (.cells (vs.map (Value.int .i64)).toArray T)).heap[w.heap.size]? = some (.cells (vs.map (Value.int .i64)).toArray T) := (MapKept.heap_alloc w _).1
  unfold World.cell?
  rw [this]
  simp [hi]
/-- One of a list of ints that was just written out, all within bounds. -/
theorem one_of {w : World} {cs : Array Value} {T : TypeId} {w' : World} {b : Nat} (lb : Nat) (hb : lb = w.heap.size) (vs : List Int) (hc : cs = (vs.map (Value.int .i64)).toArray) (lo hi : Int) (hv : ∀ v ∈ vs, lo ≤ v ∧ v ≤ hi) (i : Nat) (hi' : i < vs.length)
    (hg : (w.alloc (.cells cs T)).grownBy w' (some b)) (hne : lb ≠ b) : ∃ y : Int, lo ≤ y ∧ y ≤ hi ∧ w'.cell? ⟨lb, i, none⟩ = some (.int .i64 y) := by
  have hm : vs.getD i 0 ∈ vs := by
    have : vs.getD i 0 = vs[i] := by simp [hi']
    rw [this]; exact List.getElem_mem _
  exact ⟨vs.getD i 0, (hv _ hm).1, (hv _ hm).2, hg.cell (ints_at T lb hb vs hc i hi') (by simpa using hne)⟩

theorem rd_ne {B : Nat} {w : World} {b p : Nat} (h : Rd B w b p) : w.heap.size ≠ b := by have := h.le; omega
theorem lit_here (vs : List Int) (lo hi : Int) (hv : ∀ v ∈ vs, lo ≤ v ∧ v ≤ hi) (i : Nat) (hi' : i < vs.length) :
    ∃ y : Int, lo ≤ y ∧ y ≤ hi ∧ ∀ h, (vs.map (Value.int .i64))[i]'h = .int .i64 y := by
  have hm : vs[i] ∈ vs := List.getElem_mem _
  exact ⟨vs[i], (hv _ hm).1, (hv _ hm).2, fun h => by simp⟩

theorem below_stepL {w w1 w2 : World} (h : Below w.heap.size w w1) (hg : w1.grownBy w2 (some w.heap.size)) : Below w.heap.size w w2 :=
  h.grown hg h.size (fun k e => by cases e; exact Nat.le_refl _)
def DrawRead (w : World) (e : Ending) (w' : World) : Prop := ∃ s : ByteArray, e = .returned (.string s) ∧ s.size ≤ 9000 ∧ Below w.heap.size w w'
def DrawAdd (w : World) (e : Ending) (w' : World) : Prop := ∃ s x : ByteArray, e = .returned (.tuple #[.string s, .string x]) ∧ s.size ≤ 9000 ∧ x.size ≤ 1000 ∧ Below w.heap.size w w'
def DrawTorn (w : World) (e : Ending) (w' : World) : Prop := ∃ (s x : ByteArray) (n : Int), e = .returned (.tuple #[.string s, .string x, .int .i64 n]) ∧ s.size ≤ 9000 ∧ x.size ≤ 1000 ∧ -1 ≤ n ∧ n ≤ 1000 ∧ Below w.heap.size w w'

set_option maxHeartbeats 4000000 in
theorem drawTorn (a0 : Option Addr) (len cap : Nat) (z : List Int) (w : World) (w0 : IsRow .u8 w a0 len cap z) :
    Calls Tryd.prog 5 #[.slice a0 len cap] w (DrawTorn w) := by
  go_enter Tryd.func5, Tryd.ntmps5
  go_wp2_with fail
  refine (opened a0 len cap z _ w0).mono ?_
  rintro e w1 ⟨rfl, hr1, hb1, -⟩
  clear w0
  go_wp2_with fail
  have hszA := hr1.le.2
  go_region_with (first
    | (go_at_call 13; refine (drawAny w.heap.size w.heap.size 0 _ ?_ ?_ ?_).mono ?_; (first | exact rd_drewL hr1 | exact rd_alloc (rd_drewL hr1) _); omega; omega; rintro e w2 ⟨s, q, rfl, hs, hr2, hq, hg2⟩; have hb2 : Below w.heap.size w w2 := (by first | exact below_stepL hb1.drew hg2 | exact below_stepL (hb1.drew.alloc hb1.size _) hg2); have hl2 := hr2.le.2)
    | (go_at_call 14; refine (pickOf w.heap.size w.heap.size q 3 _ _ tornWord _ ?_ ?_ ?_ ?_ ?_ ?_).mono ?_; (first | exact hr2 | exact rd_alloc hr2 _); omega; omega; omega; (first | exact fun i hi => lits_at _ _ rfl tornWords rfl i hi | exact fun i hi => hg2.cell (lits_at _ _ rfl tornWords rfl i hi) (by simp; omega)); (first | omega | (show w1.heap.size ≠ _; omega)); rintro e w3 ⟨i, hi, rfl, hr3, hg3, -⟩; have hx := tornWord_size i hi; have hb3 : Below w.heap.size w w3 := (by first | exact below_stepL hb2 hg3 | exact below_stepL (hb2.alloc hb2.size _) hg3))
    | (go_at_call_of 15 (40 : Int); refine (pick w.heap.size w.heap.size (q + 1) 40 _ ?_ ?_ ?_ ?_).mono ?_; exact hr3; omega; omega; omega; rintro e w4 ⟨x, x0, x1, rfl, hr4, hg4, -⟩; have hb4 := below_stepL hb3 hg4)
    | (go_at_call 15; refine (pick w.heap.size w.heap.size (q + 1 + 1) 4 _ ?_ ?_ ?_ ?_).mono ?_; exact hr4; omega; omega; omega; rintro e w5 ⟨y, y0, y1, rfl, hr5, hg5, -⟩; obtain ⟨j, rfl⟩ := Int.eq_ofNat_of_zero_le y0; have q0 : j < 4 := (by omega); have hv : ∀ v ∈ [x, 0, -1, 1000], (-1 : Int) ≤ v ∧ v ≤ 1000 := (by intro v hv; simp at hv; omega); obtain ⟨v, v1, v2, c1⟩ := lit_here [x, 0, -1, 1000] (-1) 1000 hv j q0; have cv : ∀ h, [Value.int .i64 x, Value.int .i64 0, Value.int .i64 (-1), Value.int .i64 1000][j]'h = .int .i64 v := c1; clear c1; have hfin := Lib.hid (below_stepL hb4 hg5))
    | (go_at_call 15; refine (pick w.heap.size w.heap.size (q + 1 + 1) 4 _ ?_ ?_ ?_ ?_).mono ?_; refine rd_alloc hr4 _; omega; omega; omega; rintro e w5 ⟨y, y0, y1, rfl, hr5, hg5, -⟩; obtain ⟨j, rfl⟩ := Int.eq_ofNat_of_zero_le y0; have q0 : j < 4 := (by omega); have hv : ∀ v ∈ [x, 0, -1, 1000], (-1 : Int) ≤ v ∧ v ≤ 1000 := (by intro v hv; simp at hv; omega); obtain ⟨v, v1, v2, c1⟩ := one_of w4.heap.size rfl [x, 0, -1, 1000] rfl (-1) 1000 hv j q0 hg5 (rd_ne hr4); have hfin := Lib.hid (below_stepL (hb4.alloc hb4.size _) hg5)))
  all_goals
    go_wp2
    go_ret3
    refine ⟨s, tornWord i, v, rfl, hs, by omega, v1, v2, ?_⟩
    first
      | exact hfin.out
      | exact hfin.out.drew
      | exact hfin.out.alloc hfin.out.size _
      | exact (hfin.out.alloc hfin.out.size _).drew
end Go.Proofs.YtiganhkmnklhlaaDoor
