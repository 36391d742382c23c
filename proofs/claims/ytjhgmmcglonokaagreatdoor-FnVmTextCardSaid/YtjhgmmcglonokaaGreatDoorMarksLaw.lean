/-
  Marks in memory: how many, a copy, and whether two lists are alike.
-/
import Derived.Test.YtjhgmmcglonokaaGreatDoorJ10
import Derived.OwnWalk
import Derived.Deep.RegionWith
import Derived.Deep.DeepMust
namespace Go.Proofs.YtjhgmmcglonokaaGreatDoor
open Go.RowKit
set_option linter.unusedVariables false

theorem below_grownM {w w' : World} (h : Below w.heap.size w w') : w.grownBy w' none := ⟨h.os, h.tape, h.output, h.size, fun i hi _ => h.block i hi⟩
theorem results_cellM {fn : Func} {p : Tmp} {ty : TypeId} (h : fn.results = #[.cell p ty]) (tmps : Array Value) (P : Program) (w : World) :
    (results fn tmps).run P w = ((asAddr (tmps.getD p undef)).run P w).andThen fun a w₁ => (loadVar ty a).run P w₁ := by
  simp only [results, h]
  simp [Sem.run_bind, Result.andThen]

set_option maxHeartbeats 400000 in
theorem eqMark1 (x y : Int) (w : World) :
    Calls Tryz.prog 99 #[.agg #[.int .i64 x, .int .i64 y], .agg #[.int .i64 x, .int .i64 y]] w fun e w' => e = .returned (.bool true) ∧ Below w.heap.size w w' := by
  go_enter Tryz.func99, Tryz.ntmps99
  go_wp2
  go_ret
  refine ⟨rfl, ?_⟩
  repeat first
    | exact Below.refl _ _
    | refine Below.alloc ?_ (by simp only [World.size_alloc]; omega) _
    | refine Below.alloc ?_ (Nat.le_refl _) _
    | refine Below.drew ?_
    | refine belowN ?_ _
theorem infoMark : (Tryz.prog.info? 93).map (fun i => (i.zero, i.size, i.bytes)) = some (some (.agg #[.int .i64 0, .int .i64 0]), 2, 16) := by kernel_rfl
set_option maxHeartbeats 1000000 in
theorem eqMarks (a a' : Option Addr) (len cap cap' : Nat) (f p : Nat → Int) (w : World) (h : Marks w a len f p) (h' : Marks w a' len f p) (hl : len ≤ 1048576) :
    Calls Tryz.prog 57 #[.slice a len cap, .slice a' len cap'] w fun e w' => e = .returned (.bool true) ∧ Below w.heap.size w w' := by
  go_enter Tryz.func57, Tryz.ntmps57
  go_wp2_with fail
  go_loopw [5] (fun i wr => ∃ k : Nat, k ≤ len ∧ i = .int .i64 k ∧ Below w.heap.size w wr) (fun i _ => len - (intOf i).toNat)
  case atStart => exact ⟨0, Nat.zero_le _, rfl, Below.refl _ _⟩
  case round =>
    obtain ⟨k, hk, rfl, hb⟩ := hrel
    rcases Nat.lt_or_ge k len with hlt | hge
    · rcases h.kept hb with hc | ⟨b, off, rfl, hbl, hcell⟩
      · omega
      rcases h'.kept hb with hc' | ⟨b', off', rfl, hbl', hcell'⟩
      · omega
      obtain ⟨c1, c2⟩ := hcell k hlt
      obtain ⟨d1, d2⟩ := hcell' k hlt
      clear hcell hcell'
      generalize f k = x at *
      generalize p k = y at *
      have k1 : (k : Int) < len := by omega
      have k0 : (0 : Int) ≤ k := by omega
      go_wp2_with fail
      go_region_with (go_at_call 99; refine (eqMark1 x y _).mono ?_; rintro e w2 ⟨rfl, hb2⟩)
      all_goals
        have hb3 : Below w.heap.size w w2 := hb.trans (Below.trans (belowN (Below.refl _ _) 1) (hb2.mono hb.size))
        go_wp2
        go_roundw
        case rel => exact ⟨k + 1, by omega, by go_num, hb3⟩
        case measure => simp [intOf]; omega
    · obtain rfl : k = len := by omega
      go_wp2
      go_ret
      exact ⟨rfl, hb⟩
end Go.Proofs.YtjhgmmcglonokaaGreatDoor
