/-
  Trips in memory: their size, a copy, and whether two are the same.
-/
import Derived.Test.YtjlfbcplocjemaaTripMathN
import Derived.Test.YtjlfbcplocjemaaLegMath
import Derived.Test.YtjlfbcplocjemaaCopyStrs
import Derived.Test.YtjlfbcplocjemaaEqStrs
import Derived.Laws.Tables
import Derived.Maps.AppendAt
namespace Go.Proofs.Ytjlfbcplocjemaa
open Go.RowKit
set_option linter.unusedVariables false
set_option linter.unusedSimpArgs false

set_option maxHeartbeats 2000000 in
theorem szTripS (a : Option Addr) (len cap : Nat) (ss : List ByteArray) (f : ByteArray) (n : Int) (w : World) (h : Strs w a len ss) (hl : (len : Int) ≤ 9223372036854775807) (hss : ∀ s ∈ ss, s.size ≤ 9223372036854775807) (hf : f.size ≤ 9223372036854775807) :
    Calls Try.prog 11 #[.agg #[.slice a len cap, .string f, .int .i64 n], .int .i64 1048576] w fun e w' => ∃ r : Int, -1 ≤ r ∧ r ≤ 1048576 ∧ e = .returned (.int .i64 r) ∧ Hid (0 ≤ r → (total ss : Int) + ss.length ≤ 1048576 ∧ f.size ≤ 1048576) ∧ Below w.heap.size w w' := by
  go_enter Try.func11, Try.ntmps11
  go_wp2_with fail
  refine (szStrs a len cap ss 1048576 _ (h.kept ((Below.refl _ _).alloc (Nat.le_refl _) _)) hl (by omega) (by omega) hss).mono ?_
  rintro e w' ⟨r, r0, r1, rfl, hr, rfl⟩
  rcases Int.lt_or_le r 0 with c | c
  · have g0 : decide (r < 0) = true := by simp; omega
    go_wp2
    go_ret
    exact ⟨-1, by omega, by omega, rfl, fun h => by omega, (Below.refl _ _).alloc (Nat.le_refl _) _⟩
  · have g0 : decide (r < 0) = false := by simp; omega
    have hrr := hr.out c
    have hw : IntKind.i64.wrap (r - (f.size : Int)) = r - f.size := IntWalk.i64_in _ (by omega)
    have HR := Lib.hid hrr
    clear hrr hr
    rcases Int.lt_or_le (r - f.size) 0 with c2 | c2
    · have g1 : decide (r - (f.size : Int) < 0) = true := by simp; omega
      go_wp2
      go_ret
      exact ⟨-1, by omega, by omega, rfl, fun h => by omega, (Below.refl _ _).alloc (Nat.le_refl _) _⟩
    · have g1 : decide (r - (f.size : Int) < 0) = false := by simp; omega
      go_wp2
      go_ret
      exact ⟨r - f.size, by omega, by omega, rfl, fun _ => ⟨HR.out, by omega⟩, (Below.refl _ _).alloc (Nat.le_refl _) _⟩

theorem tripSize : (Try.prog.info? 26).map (·.size) = some 3 := by kernel_rfl
theorem Strs.far {w w' : World} {g len : Nat} {ss : List ByteArray} {row : Option Nat} (h : Strs w (some ⟨g, 0, none⟩) len ss) (hg : w.grownBy w' row) (hr : some g ≠ row) : Strs w' (some ⟨g, 0, none⟩) len ss := by
  obtain ⟨h0, h⟩ := h
  refine ⟨h0, ?_⟩
  rcases h with h | ⟨b, off, h2, h3, h4⟩
  · exact Or.inl h
  · simp only [Option.some.injEq, Addr.mk.injEq] at h2
    obtain ⟨rfl, rfl, -⟩ := h2
    have e := hg.block g h3 hr
    exact Or.inr ⟨g, 0, rfl, Nat.lt_of_lt_of_le h3 hg.size, fun i hi => (World.cell?_of_block (a := ⟨g, 0 + i, none⟩) e).trans (h4 i hi)⟩

set_option maxHeartbeats 4000000 in
theorem toTripS (a : Option Addr) (len cap : Nat) (ss : List ByteArray) (f : ByteArray) (n : Int) (w : World) (h : Strs w a len ss) (hl : len ≤ 1048576) :
    Calls Try.prog 13 #[.agg #[Value.slice a len cap, Value.string f, Value.int IntKind.i64 n]] w fun e w' => ∃ g : Nat, w.heap.size ≤ g ∧ e = .returned (.agg #[Value.slice (some ⟨g, 0, none⟩) ss.length ss.length, Value.string f, Value.int IntKind.i64 n]) ∧ Strs w' (some ⟨g, 0, none⟩) ss.length ss ∧ Below w.heap.size w w' := by
  have H := Lib.hid h
  clear h
  go_enter Try.func13, Try.ntmps13
  go_wp2_with fail
  have hArg : (((w.alloc (.cells #[Value.slice a len cap, Value.string f, Value.int IntKind.i64 n] 37)).alloc (.cells #[.slice none 0 0, .string ⟨#[]⟩, .int .i64 0] 26)).alloc (.cells #[.slice none 0 0, .string ⟨#[]⟩, .int .i64 0] 26)).heap[w.heap.size]? = some (.cells #[Value.slice a len cap, Value.string f, Value.int IntKind.i64 n] 37 (0, 0)) := by
    rw [Lib.alloc_old _ _ _ (by simp only [World.size_alloc]; omega), Lib.alloc_old _ _ _ (by simp only [World.size_alloc]; omega)]
    exact heap_alloc_new w _
  have hRes : (((w.alloc (.cells #[Value.slice a len cap, Value.string f, Value.int IntKind.i64 n] 37)).alloc (.cells #[.slice none 0 0, .string ⟨#[]⟩, .int .i64 0] 26)).alloc (.cells #[.slice none 0 0, .string ⟨#[]⟩, .int .i64 0] 26)).heap[w.heap.size + 1]? = some (.cells #[.slice none 0 0, .string ⟨#[]⟩, .int .i64 0] 26 (0, 0)) := by
    rw [Lib.alloc_old _ _ _ (by simp only [World.size_alloc]; omega)]
    have := heap_alloc_new (w.alloc (.cells #[Value.slice a len cap, Value.string f, Value.int IntKind.i64 n] 37)) (.cells #[.slice none 0 0, .string ⟨#[]⟩, .int .i64 0] 26)
    simpa only [World.size_alloc] using this
  have hOut : (((w.alloc (.cells #[Value.slice a len cap, Value.string f, Value.int IntKind.i64 n] 37)).alloc (.cells #[.slice none 0 0, .string ⟨#[]⟩, .int .i64 0] 26)).alloc (.cells #[.slice none 0 0, .string ⟨#[]⟩, .int .i64 0] 26)).heap[w.heap.size + 1 + 1]? = some (.cells #[.slice none 0 0, .string ⟨#[]⟩, .int .i64 0] 26 (0, 0)) := by
    have := heap_alloc_new ((w.alloc (.cells #[Value.slice a len cap, Value.string f, Value.int IntKind.i64 n] 37)).alloc (.cells #[.slice none 0 0, .string ⟨#[]⟩, .int .i64 0] 26)) (.cells #[.slice none 0 0, .string ⟨#[]⟩, .int .i64 0] 26)
    simpa only [World.size_alloc] using this
  have hAB : Below w.heap.size w (((w.alloc (.cells #[Value.slice a len cap, Value.string f, Value.int IntKind.i64 n] 37)).alloc (.cells #[.slice none 0 0, .string ⟨#[]⟩, .int .i64 0] 26)).alloc (.cells #[.slice none 0 0, .string ⟨#[]⟩, .int .i64 0] 26)) :=
    ((((Below.refl _ _).alloc (Nat.le_refl _) _).alloc (by simp only [World.size_alloc]; omega) _).alloc (by simp only [World.size_alloc]; omega) _)
  generalize (((w.alloc (.cells #[Value.slice a len cap, Value.string f, Value.int IntKind.i64 n] 37)).alloc (.cells #[.slice none 0 0, .string ⟨#[]⟩, .int .i64 0] 26)).alloc (.cells #[.slice none 0 0, .string ⟨#[]⟩, .int .i64 0] 26)) = A at *
  have sA := lt_heap hOut
  refine (copyStrs a len cap ss _ (H.out.kept hAB) hl).mono ?_
  rintro e w1 ⟨g, hg, rfl, hS, d1⟩
  have arg1 := (d1.block _ (by omega)).trans hArg
  have out1 := (d1.block _ (by omega)).trans hOut
  have res1 := (d1.block _ (by omega)).trans hRes
  have bw1 : Below w.heap.size w w1 := hAB.trans (d1.mono hAB.size)
  clear hArg hOut hRes hAB d1
  have ca1 : w1.cell? ⟨w.heap.size, 1, none⟩ = some (Value.string f) := by rw [Lib.cell_of_heap arg1]; rfl
  have ca2 : w1.cell? ⟨w.heap.size, 2, none⟩ = some (Value.int IntKind.i64 n) := by rw [Lib.cell_of_heap arg1]; rfl
  have co0 : w1.cell? ⟨w.heap.size + 1 + 1, 0, none⟩ = some (Value.slice none 0 0) := by rw [Lib.cell_of_heap out1]; rfl
  have co1 : w1.cell? ⟨w.heap.size + 1 + 1, 1, none⟩ = some (Value.string ⟨#[]⟩) := by rw [Lib.cell_of_heap out1]; rfl
  have co2 : w1.cell? ⟨w.heap.size + 1 + 1, 2, none⟩ = some (Value.int IntKind.i64 0) := by rw [Lib.cell_of_heap out1]; rfl
  have cf0 : w1.frozen? ⟨w.heap.size + 1 + 1, 0, none⟩ = false := Lib.frozen_of_heap out1 0
  have cf1 : w1.frozen? ⟨w.heap.size + 1 + 1, 1, none⟩ = false := Lib.frozen_of_heap out1 1
  have cf2 : w1.frozen? ⟨w.heap.size + 1 + 1, 2, none⟩ = false := Lib.frozen_of_heap out1 2
  have r3 : (((w1.setCell ⟨w.heap.size + 1 + 1, 0, none⟩ (Value.slice (some ⟨g, 0, none⟩) ss.length ss.length)).setCell ⟨w.heap.size + 1 + 1, 1, none⟩ (Value.string f)).setCell ⟨w.heap.size + 1 + 1, 2, none⟩ (Value.int IntKind.i64 n)).heap[w.heap.size + 1]? = some (.cells #[.slice none 0 0, .string ⟨#[]⟩, .int .i64 0] 26 (0, 0)) := (Below.heap_setCell _ _ _ _ (by show w.heap.size + 1 ≠ w.heap.size + 1 + 1; omega)).trans ((Below.heap_setCell _ _ _ _ (by show w.heap.size + 1 ≠ w.heap.size + 1 + 1; omega)).trans ((Below.heap_setCell _ _ _ _ (by show w.heap.size + 1 ≠ w.heap.size + 1 + 1; omega)).trans res1))
  have b3 : Below w.heap.size w (((w1.setCell ⟨w.heap.size + 1 + 1, 0, none⟩ (Value.slice (some ⟨g, 0, none⟩) ss.length ss.length)).setCell ⟨w.heap.size + 1 + 1, 1, none⟩ (Value.string f)).setCell ⟨w.heap.size + 1 + 1, 2, none⟩ (Value.int IntKind.i64 n)) := ((bw1.setCell (p := ⟨w.heap.size + 1 + 1, 0, none⟩) (by show w.heap.size ≤ w.heap.size + 1 + 1; omega) _).setCell (p := ⟨w.heap.size + 1 + 1, 1, none⟩) (by show w.heap.size ≤ w.heap.size + 1 + 1; omega) _).setCell (p := ⟨w.heap.size + 1 + 1, 2, none⟩) (by show w.heap.size ≤ w.heap.size + 1 + 1; omega) _
  have gne : ∀ k, some g ≠ some ((⟨w.heap.size + 1 + 1, k, none⟩ : Addr)).block := fun k e => by simp only [Option.some.injEq] at e; omega
  have s3 := ((hS.far (grown_set w1 ⟨w.heap.size + 1 + 1, 0, none⟩ (Value.slice (some ⟨g, 0, none⟩) ss.length ss.length)) (gne 0)).far (grown_set _ ⟨w.heap.size + 1 + 1, 1, none⟩ (Value.string f)) (gne 1)).far (grown_set _ ⟨w.heap.size + 1 + 1, 2, none⟩ (Value.int IntKind.i64 n)) (gne 2)
  have one : (#[Value.slice (some ⟨g, 0, none⟩) ss.length ss.length, Value.string f, Value.int IntKind.i64 n] : Array Value).all (·.oneCell') = true := by simp [Value.oneCell']
  clear arg1 out1 res1 bw1 hS gne
  go_wp2_with (first
    | (refine wpList_store_row rfl 26 _ _ rfl (w.heap.size + 1) #[Value.slice (some ⟨g, 0, none⟩) ss.length ss.length, Value.string f, Value.int IntKind.i64 n] rfl rfl 26 #[.slice none 0 0, .string ⟨#[]⟩, .int .i64 0] r3 tripSize rfl one ?_)
    | fail)
  generalize (((w1.setCell ⟨w.heap.size + 1 + 1, 0, none⟩ (Value.slice (some ⟨g, 0, none⟩) ss.length ss.length)).setCell ⟨w.heap.size + 1 + 1, 1, none⟩ (Value.string f)).setCell ⟨w.heap.size + 1 + 1, 2, none⟩ (Value.int IntKind.i64 n)) = W4 at *
  have hfin := setRow_heap W4 (w.heap.size + 1) _ #[Value.slice (some ⟨g, 0, none⟩) ss.length ss.length, Value.string f, Value.int IntKind.i64 n] _ _ r3
  have gr := grown_setRow W4 (w.heap.size + 1) #[Value.slice (some ⟨g, 0, none⟩) ss.length ss.length, Value.string f, Value.int IntKind.i64 n]
  have l1 := s3.far gr (by intro e; simp only [Option.some.injEq] at e; omega)
  have bfin : Below w.heap.size w (W4.setRow (w.heap.size + 1) #[Value.slice (some ⟨g, 0, none⟩) ss.length ss.length, Value.string f, Value.int IntKind.i64 n]) := b3.grown gr b3.size (fun k e => by cases e; omega)
  generalize W4.setRow (w.heap.size + 1) #[Value.slice (some ⟨g, 0, none⟩) ss.length ss.length, Value.string f, Value.int IntKind.i64 n] = W5 at *
  have z0 : W5.cell? ⟨w.heap.size + 1, 0, none⟩ = some (Value.slice (some ⟨g, 0, none⟩) ss.length ss.length) := by rw [Lib.cell_of_heap hfin]; rfl
  have z1 : W5.cell? ⟨w.heap.size + 1, 1, none⟩ = some (Value.string f) := by rw [Lib.cell_of_heap hfin]; rfl
  have z2 : W5.cell? ⟨w.heap.size + 1, 2, none⟩ = some (Value.int IntKind.i64 n) := by rw [Lib.cell_of_heap hfin]; rfl
  refine bodyPost_ret (v := .agg #[Value.slice (some ⟨g, 0, none⟩) ss.length ss.length, Value.string f, Value.int IntKind.i64 n]) ?_ rfl ⟨g, by omega, rfl, l1, bfin⟩
  rw [results_cell1 rfl]
  go_simp

set_option maxHeartbeats 2000000 in
theorem eqTripS (a a' : Option Addr) (len cap cap' : Nat) (ss : List ByteArray) (f : ByteArray) (n : Int) (w : World) (h : Strs w a len ss) (h' : Strs w a' len ss) (hl : len ≤ 1048576) :
    Calls Try.prog 15 #[.agg #[.slice a len cap, .string f, .int .i64 n], .agg #[.slice a' len cap', .string f, .int .i64 n]] w fun e w' => e = .returned (.bool true) ∧ Below w.heap.size w w' := by
  go_enter Try.func15, Try.ntmps15
  go_wp2_with fail
  have hA : Below w.heap.size w ((w.alloc (.cells #[.slice a len cap, .string f, .int .i64 n] 26)).alloc (.cells #[.slice a' len cap', .string f, .int .i64 n] 26)) := ((Below.refl _ _).alloc (Nat.le_refl _) _).alloc (by simp only [World.size_alloc]; omega) _
  refine (eqStrs a a' len cap cap' ss _ (h.kept hA) (h'.kept hA) hl).mono ?_
  rintro e w1 ⟨rfl, q, rfl⟩
  go_wp2
  go_ret
  exact ⟨rfl, belowN hA q⟩
end Go.Proofs.Ytjlfbcplocjemaa
