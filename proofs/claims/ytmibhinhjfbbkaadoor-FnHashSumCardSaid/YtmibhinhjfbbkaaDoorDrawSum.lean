/-
  The text that the law on sums draws: not long.
-/
import Derived.Test.YtmibhinhjfbbkaaDoorOf
import Derived.Test.YtmibhinhjfbbkaaDoorMany
import Derived.OwnWalk
import Derived.Deep.DeepMust
import Derived.Deep.RegionLaw
import Derived.Deep.RegionWith
import Derived.Maps.AppendAt
namespace Go.Proofs.YtmibhinhjfbbkaaDoor
open Go.RowKit
set_option linter.unusedVariables false
set_option linter.unusedSimpArgs false

def sumTexts : List ByteArray := [⟨#[97]⟩, ⟨#[0]⟩, ⟨#[97, 98, 99]⟩]
def sumText (i : Nat) : ByteArray := sumTexts.getD i ByteArray.empty
def DrawSumPost (w : World) (e : Ending) (w' : World) : Prop := ∃ t : ByteArray, t.size ≤ 1000 ∧ e = .returned (.string t) ∧ Below w.heap.size w w'

set_option maxHeartbeats 4000000 in
theorem drawSum (a0 : Option Addr) (len cap : Nat) (z : List Int) (w : World) (w0 : IsRow .u8 w a0 len cap z) :
    Calls Tryd.prog 14 #[.slice a0 len cap] w (DrawSumPost w) := by
  go_enter Tryd.func14, Tryd.ntmps14
  go_wp2_with fail
  refine (opened a0 len cap z _ w0).mono ?_
  rintro e w1 ⟨rfl, hr1, hb1, -⟩
  clear w0
  have hsz1 := hr1.le.2
  go_wp2_with fail
  refine (pickOf w.heap.size w.heap.size 0 3 _ 3 sumText _ (rd_alloc hr1 _) (by omega) (by omega) (by omega) (fun i hi => lits_at _ _ rfl sumTexts rfl i hi) (by omega)).mono ?_
  rintro e w2 ⟨i, hi, rfl, hr2, hg2, -⟩
  have hbA : Below w.heap.size w (w1.alloc (.cells #[.string ⟨#[97]⟩, .string ⟨#[0]⟩, .string ⟨#[97, 98, 99]⟩] 9)) := hb1.alloc hb1.size _
  have hb2 : Below w.heap.size w w2 := hbA.grown hg2 hbA.size (fun k e => by cases e; exact Nat.le_refl _)
  have hts : (sumText i).size ≤ 3 := by
    have : ∀ i, i < 3 → (sumText i).size ≤ 3 := by decide
    exact this i hi
  generalize sumText i = tx at *
  go_wp2_with fail
  refine (pick w.heap.size w.heap.size _ 5 _ hr2 (by omega) (by omega) (by omega)).mono ?_
  rintro e w3 ⟨x1, l1, u1, rfl, hr3, hg3, -⟩
  have hb3 : Below w.heap.size w w3 := hb2.grown hg3 hb2.size (fun k e => by cases e; exact Nat.le_refl _)
  have hsz3 := hr3.le.2
  obtain ⟨m, rfl⟩ := Int.eq_ofNat_of_zero_le l1
  go_wp2_with fail
  refine (pick w.heap.size w.heap.size _ 6 _ (rd_alloc hr3 _) (by omega) (by omega) (by omega)).mono ?_
  rintro e w4 ⟨x2, l2, u2, rfl, hr4, hg4, -⟩
  have hbC : Below w.heap.size w (w3.alloc (.cells #[.int .i64 m, .int .i64 18, .int .i64 19, .int .i64 55, .int .i64 56, .int .i64 64] 3)) := hb3.alloc hb3.size _
  have hb4 : Below w.heap.size w w4 := hbC.grown hg4 hbC.size (fun k e => by cases e; exact Nat.le_refl _)
  obtain ⟨j, rfl⟩ := Int.eq_ofNat_of_zero_le l2
  have hcell : ∃ n : Nat, n ≤ 64 ∧ w4.cell? ⟨w3.heap.size, j, none⟩ = some (.int .i64 n) := by
    have hc : ∀ (v : Value), (#[Value.int .i64 m, .int .i64 18, .int .i64 19, .int .i64 55, .int .i64 56, .int .i64 64] : Array Value)[j]? = some v → w4.cell? ⟨w3.heap.size, j, none⟩ = some v := fun v hv =>
      hg4.cell (a := ⟨w3.heap.size, j, none⟩) (by have : (w3.alloc (.cells #[.int .i64 m, .int .i64 18, .int .i64 19, .int .i64 55, .int .i64 56, .int .i64 64] 3)).heap[w3.heap.size]? = some (.cells #[.int .i64 m, .int .i64 18, .int .i64 19, .int .i64 55, .int .i64 56, .int .i64 64] 3) := (MapKept.heap_alloc w3 _).1; simp only [World.cell?, this]; simpa using hv) (by simp; omega)
    have : j = 0 ∨ j = 1 ∨ j = 2 ∨ j = 3 ∨ j = 4 ∨ j = 5 := by omega
    rcases this with rfl | rfl | rfl | rfl | rfl | rfl
    · exact ⟨m, by omega, hc _ rfl⟩
    · exact ⟨18, by omega, hc _ rfl⟩
    · exact ⟨19, by omega, hc _ rfl⟩
    · exact ⟨55, by omega, hc _ rfl⟩
    · exact ⟨56, by omega, hc _ rfl⟩
    · exact ⟨64, by omega, hc _ rfl⟩
  obtain ⟨n, hn, hcell⟩ := hcell
  have hj6 : (j : Int) < 6 := by omega
  go_wp2_with fail
  refine (manyS tx n 192 _ (by have := Nat.mul_le_mul hts hn; omega) (by omega) (by omega) (by omega)).mono ?_
  rintro e w5 ⟨T, hT, rfl, rfl⟩
  go_wp2_with fail
  go_ret
  exact ⟨T, by omega, rfl, hb4⟩
end Go.Proofs.YtmibhinhjfbbkaaDoor
