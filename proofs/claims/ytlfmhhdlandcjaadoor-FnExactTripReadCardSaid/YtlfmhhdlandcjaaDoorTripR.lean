/-
  Trips in memory: their size, a copy, and whether two are the same.
-/
import Derived.Test.YtlfmhhdlandcjaaDoorTripMathR
import Derived.Test.YtlfmhhdlandcjaaDoorCopyStrs
import Derived.Test.YtlfmhhdlandcjaaDoorEqStrs
import Derived.Laws.Tables
import Derived.Maps.AppendAt
namespace Go.Proofs.YtlfmhhdlandcjaaDoor
open Go.RowKit
set_option linter.unusedVariables false
set_option linter.unusedSimpArgs false

theorem results_cell1 {fn : Func} {p : Tmp} {ty : TypeId} (h : fn.results = #[.cell p ty]) (tmps : Array Value) (P : Program) (w : World) :
    (results fn tmps).run P w = ((asAddr (tmps.getD p undef)).run P w).andThen fun a w₁ => (loadVar ty a).run P w₁ := by
  simp only [results, h]
  simp [Sem.run_bind, Result.andThen]

theorem below_grown {w w' : World} (h : Below w.heap.size w w') : w.grownBy w' none := ⟨h.os, h.tape, h.output, h.size, fun i hi _ => h.block i hi⟩
theorem tripSize : (Tryd.prog.info? 33).map (·.size) = some 3 := by kernel_rfl
theorem grown_setRow (w : World) (g : Nat) (cs : Array Value) : w.grownBy (w.setRow g cs) (some g) := ⟨rfl, rfl, rfl, by simp, fun k _ hne => setRow_other w g k cs (by intro e; subst e; exact hne rfl)⟩
theorem lt_heap {w : World} {b : Nat} {o : Obj} (h : w.heap[b]? = some o) : b < w.heap.size := (Array.getElem?_eq_some_iff.1 h).1
theorem Strs.far {w w' : World} {g len : Nat} {ss : List ByteArray} {row : Option Nat} (h : Strs w (some ⟨g, 0, none⟩) len ss) (hg : w.grownBy w' row) (hr : some g ≠ row) : Strs w' (some ⟨g, 0, none⟩) len ss := by
  obtain ⟨h0, h⟩ := h
  refine ⟨h0, ?_⟩
  rcases h with h | ⟨b, off, h2, h3, h4⟩
  · exact Or.inl h
  · simp only [Option.some.injEq, Addr.mk.injEq] at h2
    obtain ⟨rfl, rfl, -⟩ := h2
    have e := hg.block g h3 hr
    exact Or.inr ⟨g, 0, rfl, Nat.lt_of_lt_of_le h3 hg.size, fun i hi => (World.cell?_of_block (a := ⟨g, 0 + i, none⟩) e).trans (h4 i hi)⟩

set_option maxHeartbeats 2000000 in
theorem eqTripS (a a' : Option Addr) (len cap cap' : Nat) (ss : List ByteArray) (f : ByteArray) (n : Int) (w : World) (h : Strs w a len ss) (h' : Strs w a' len ss) (hl : len ≤ 1048576) :
    Calls Tryd.prog 14 #[.agg #[.slice a len cap, .string f, .int .i64 n], .agg #[.slice a' len cap', .string f, .int .i64 n]] w fun e w' => e = .returned (.bool true) ∧ Below w.heap.size w w' := by
  go_enter Tryd.func14, Tryd.ntmps14
  go_wp2_with fail
  have hA : Below w.heap.size w ((w.alloc (.cells #[.slice a len cap, .string f, .int .i64 n] 33)).alloc (.cells #[.slice a' len cap', .string f, .int .i64 n] 33)) := ((Below.refl _ _).alloc (Nat.le_refl _) _).alloc (by simp only [World.size_alloc]; omega) _
  refine (eqStrs a a' len cap cap' ss _ (h.kept hA) (h'.kept hA) hl).mono ?_
  rintro e w1 ⟨rfl, q, rfl⟩
  go_wp2
  go_ret
  exact ⟨rfl, belowN hA q⟩
end Go.Proofs.YtlfmhhdlandcjaaDoor
