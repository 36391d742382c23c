/-
  Ops in memory: what a transaction needs of each leg. Their size, a copy, and whether two are the same.
-/
import Derived.Test.YtlfmhhdlandcjaaDoorBase
import Derived.Laws.Tables
import Derived.Maps.AppendAt
import Derived.Deep.RegionWith
import Derived.OwnWalk
namespace Go.Proofs.YtlfmhhdlandcjaaDoor
open Go.RowKit
set_option linter.unusedVariables false
set_option linter.unusedSimpArgs false

theorem results_cell1 {fn : Func} {p : Tmp} {ty : TypeId} (h : fn.results = #[.cell p ty]) (tmps : Array Value) (P : Program) (w : World) :
    (results fn tmps).run P w = ((asAddr (tmps.getD p undef)).run P w).andThen fun a w₁ => (loadVar ty a).run P w₁ := by
  simp only [results, h]
  simp [Sem.run_bind, Result.andThen]
theorem grown_setRow (w : World) (g : Nat) (cs : Array Value) : w.grownBy (w.setRow g cs) (some g) := ⟨rfl, rfl, rfl, by simp, fun k _ hne => setRow_other w g k cs (by intro e; subst e; exact hne rfl)⟩
theorem lt_heap {w : World} {b : Nat} {o : Obj} (h : w.heap[b]? = some o) : b < w.heap.size := (Array.getElem?_eq_some_iff.1 h).1
theorem bt {a b c : World} (h : Below a.heap.size a b) (k : Below b.heap.size b c) : Below a.heap.size a c := h.trans (k.mono h.size)
theorem opSize : (Tryd.prog.info? 55).map (·.size) = some 4 := by kernel_rfl
theorem infoOp : (Tryd.prog.info? 55).map (fun i => (i.zero, i.size, i.bytes)) = some (some (.agg #[.string ⟨#[]⟩, .int .i64 0, .int .i64 0, .int .i64 0]), 4, 40) := by kernel_rfl
/-- What a trip needs of a leg. -/
structure OpD where
  leg : ByteArray
  cls : Int
  st : Int
  sh : Int
instance : Inhabited OpD := ⟨⟨⟨#[]⟩, 0, 0, 0⟩⟩
def OpC (d : OpD) : Array Value := #[.string d.leg, .int .i64 d.cls, .int .i64 d.st, .int .i64 d.sh]
def OpV (d : OpD) : Value := .agg (OpC d)
theorem op_one (d : OpD) : (OpC d).all (·.oneCell') = true := by simp [OpC, Value.oneCell']
def OpAt (W : World) (b o : Nat) (d : OpD) : Prop := W.cell? ⟨b, o, none⟩ = some (.string d.leg) ∧ W.cell? ⟨b, o + 1, none⟩ = some (.int .i64 d.cls) ∧ W.cell? ⟨b, o + 2, none⟩ = some (.int .i64 d.st) ∧ W.cell? ⟨b, o + 3, none⟩ = some (.int .i64 d.sh)
theorem OpAt.kept {W W' : World} {b o : Nat} {d : OpD} (h : OpAt W b o d) (hb : b < W.heap.size) (hB : Below W.heap.size W W') : OpAt W' b o d :=
  ⟨(hB.cell (p := ⟨b, o, none⟩) hb).trans h.1, (hB.cell (p := ⟨b, o + 1, none⟩) hb).trans h.2.1, (hB.cell (p := ⟨b, o + 2, none⟩) hb).trans h.2.2.1, (hB.cell (p := ⟨b, o + 3, none⟩) hb).trans h.2.2.2⟩
/-- Ops in one slice. -/
def Ops (W : World) (a : Option Addr) (n : Nat) (ds : Nat → OpD) : Prop := n = 0 ∨ ∃ b off, a = some ⟨b, off, none⟩ ∧ b < W.heap.size ∧ ∀ i, i < n → OpAt W b (off + i * 4) (ds i)
theorem Ops.kept {W W' : World} {a : Option Addr} {n : Nat} {ds : Nat → OpD} (h : Ops W a n ds) (hB : Below W.heap.size W W') : Ops W' a n ds := by
  rcases h with h | ⟨b, off, e, hb, hr⟩
  · exact .inl h
  · exact .inr ⟨b, off, e, Nat.lt_of_lt_of_le hb hB.size, fun i hi => (hr i hi).kept hb hB⟩
theorem op_cells {W : World} {b : Nat} {t : TypeId} {i : Nat × Nat} {d : OpD} (h : W.heap[b]? = some (.cells (OpC d) t i)) : OpAt W b 0 d := by
  obtain ⟨i1, i2⟩ := i
  refine ⟨?_, ?_, ?_, ?_⟩ <;> (rw [Lib.cell_of_heap h]; rfl)
def SzPostO (n : Nat) (ds : Nat → OpD) (w : World) (e : Ending) (w' : World) : Prop := ∃ r : Int, -1 ≤ r ∧ r ≤ 1048576 ∧ e = .returned (.int .i64 r) ∧ Hid (0 ≤ r → n ≤ 1048576 ∧ ∀ i, i < n → (ds i).leg.size ≤ 1048576) ∧ Below w.heap.size w w'
theorem grown_of {w w' : World} (h : Below w.heap.size w w') : w.grownBy w' none := ⟨h.os, h.tape, h.output, h.size, fun i hi _ => h.block i hi⟩
theorem cell_of {w : World} {a : Addr} {xs : List Value} {i : Nat} (h : w.cell? a = xs[i]?) (hi : i < xs.length) : ∃ v, w.cell? a = some v := ⟨xs[i], by rw [h]; simp [hi]⟩
def CopyO (n : Nat) (ds : Nat → OpD) (w : World) (e : Ending) (w' : World) : Prop :=
  ∃ g : Nat, w.heap.size ≤ g ∧ e = .returned (.slice (some ⟨g, 0, none⟩) n n) ∧ Ops w' (some ⟨g, 0, none⟩) n ds ∧ Below w.heap.size w w'
def Done4 (k : Nat) (ds : Nat → OpD) (xs : List Value) : Prop := ∀ j, j < k → xs[j * 4]? = some (.string (ds j).leg) ∧ xs[j * 4 + 1]? = some (.int .i64 (ds j).cls) ∧ xs[j * 4 + 2]? = some (.int .i64 (ds j).st) ∧ xs[j * 4 + 3]? = some (.int .i64 (ds j).sh)
theorem done4_next {k : Nat} {ds : Nat → OpD} {xs : List Value} (h : Done4 k ds xs) (hl : k * 4 + 3 < xs.length) : Done4 (k + 1) ds ((((xs.set (k * 4) (.string (ds k).leg)).set (k * 4 + 1) (.int .i64 (ds k).cls)).set (k * 4 + 2) (.int .i64 (ds k).st)).set (k * 4 + 3) (.int .i64 (ds k).sh)) := by
  intro j hj
  by_cases e : j = k
  · subst e
    refine ⟨?_, ?_, ?_, ?_⟩
    · rw [List.getElem?_set_ne (by omega), List.getElem?_set_ne (by omega), List.getElem?_set_ne (by omega), List.getElem?_set_self (by omega)]
    · rw [List.getElem?_set_ne (by omega), List.getElem?_set_ne (by omega), List.getElem?_set_self (by simp; omega)]
    · rw [List.getElem?_set_ne (by omega), List.getElem?_set_self (by simp; omega)]
    · rw [List.getElem?_set_self (by simp; omega)]
  · obtain ⟨h0, h1, h2, h3⟩ := h j (by omega)
    refine ⟨?_, ?_, ?_, ?_⟩ <;> (rw [List.getElem?_set_ne (by omega), List.getElem?_set_ne (by omega), List.getElem?_set_ne (by omega), List.getElem?_set_ne (by omega)]; assumption)
end Go.Proofs.YtlfmhhdlandcjaaDoor
