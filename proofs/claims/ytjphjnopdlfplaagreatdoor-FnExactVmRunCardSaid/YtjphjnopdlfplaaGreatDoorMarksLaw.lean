/-
  Marks in memory: how many, a copy, and whether two lists are alike.
-/
import Derived.Test.YtjphjnopdlfplaaGreatDoorJ2
import Derived.OwnWalk
import Derived.Deep.RegionWith
import Derived.Deep.DeepMust
namespace Go.Proofs.YtjphjnopdlfplaaGreatDoor
open Go.RowKit
set_option linter.unusedVariables false

set_option maxHeartbeats 400000 in
theorem szMarkL (a : Option Addr) (len cap : Nat) (lf : Int) (w : World) (hl : (len : Int) ≤ 9223372036854775807) (l0 : 0 ≤ lf) (l1 : lf ≤ 1048576) :
    Calls Tryz.prog 62 #[.slice a len cap, .int .i64 lf] w fun e w' => ∃ r : Int, ((len ≤ lf ∧ r = lf - len) ∨ (lf < len ∧ r = -1)) ∧ e = .returned (.int .i64 r) ∧ w = w' := by
  have e0 : IntKind.i64.wrap (lf - (len : Int)) = lf - (len : Int) := IntWalk.i64_in _ (by omega)
  rcases Int.lt_or_le (lf - (len : Int)) 0 with h1 | h1
  · have z0 : decide (lf - (len : Int) < 0) = true := decide_eq_true h1
    go_enter Tryz.func62, Tryz.ntmps62
    go_wp2
    go_ret
    exact ⟨_, .inr ⟨by omega, rfl⟩, rfl, rfl⟩
  · have z0 : decide (lf - (len : Int) < 0) = false := decide_eq_false (by omega)
    go_enter Tryz.func62, Tryz.ntmps62
    go_wp2
    go_ret
    exact ⟨_, .inl ⟨by omega, rfl⟩, rfl, rfl⟩

theorem below_grownM {w w' : World} (h : Below w.heap.size w w') : w.grownBy w' none := ⟨h.os, h.tape, h.output, h.size, fun i hi _ => h.block i hi⟩
theorem cell_ofM {w : World} {a : Addr} {xs : List Value} {i : Nat} (h : w.cell? a = xs[i]?) (hi : i < xs.length) : ∃ v, w.cell? a = some v := ⟨xs[i], by rw [h]; simp [hi]⟩
theorem results_cellM {fn : Func} {p : Tmp} {ty : TypeId} (h : fn.results = #[.cell p ty]) (tmps : Array Value) (P : Program) (w : World) :
    (results fn tmps).run P w = ((asAddr (tmps.getD p undef)).run P w).andThen fun a w₁ => (loadVar ty a).run P w₁ := by
  simp only [results, h]
  simp [Sem.run_bind, Result.andThen]

set_option maxHeartbeats 400000 in
theorem toMark1 (x y : Int) (w : World) :
    Calls Tryz.prog 94 #[.agg #[.int .i64 x, .int .i64 y]] w fun e w' => e = .returned (.agg #[.int .i64 x, .int .i64 y]) ∧ Below w.heap.size w w' := by
  go_enter Tryz.func94, Tryz.ntmps94
  go_wp2
  (try simp only [Exit.inBlock, Exit.then])
  refine bodyPost_ret (v := .agg #[.int .i64 x, .int .i64 y]) ?_ rfl ⟨rfl, ?_⟩
  · rw [results_cellM rfl]
    go_simp
  repeat first
    | exact Below.refl _ _
    | refine Below.alloc ?_ (by simp only [World.size_alloc]; omega) _
    | refine Below.alloc ?_ (Nat.le_refl _) _
    | refine Below.drew ?_
    | refine belowN ?_ _
set_option maxHeartbeats 400000 in
theorem eqMark1 (x y : Int) (w : World) :
    Calls Tryz.prog 98 #[.agg #[.int .i64 x, .int .i64 y], .agg #[.int .i64 x, .int .i64 y]] w fun e w' => e = .returned (.bool true) ∧ Below w.heap.size w w' := by
  go_enter Tryz.func98, Tryz.ntmps98
  go_wp2
  go_ret
  refine ⟨rfl, ?_⟩
  repeat first
    | exact Below.refl _ _
    | refine Below.alloc ?_ (by simp only [World.size_alloc]; omega) _
    | refine Below.alloc ?_ (Nat.le_refl _) _
    | refine Below.drew ?_
    | refine belowN ?_ _
theorem infoMark : (Tryz.prog.info? 117).map (fun i => (i.zero, i.size, i.bytes)) = some (some (.agg #[.int .i64 0, .int .i64 0]), 2, 16) := by kernel_rfl
def CopyM (len : Nat) (f p : Nat → Int) (w : World) (e : Ending) (w' : World) : Prop :=
  ∃ g : Nat, w.heap.size ≤ g ∧ e = .returned (.slice (some ⟨g, 0, none⟩) len len) ∧ Marks w' (some ⟨g, 0, none⟩) len f p ∧ Below w.heap.size w w'

set_option maxHeartbeats 1000000 in
theorem copyMarks (a : Option Addr) (len cap : Nat) (f p : Nat → Int) (w : World) (h : Marks w a len f p) (hl : len ≤ 1048576) :
    Calls Tryz.prog 66 #[.slice a len cap] w (CopyM len f p w) := by
  obtain ⟨i0, hi, hz0, hz1, hz2⟩ := info_parts infoMark
  have Hc := Lib.hid h
  clear h
  go_enter Tryz.func66, Tryz.ntmps66
  go_wp2_with (at_make; refine wpList_make_full _ rfl _ _ 37 rfl w.heap.size 117 i0 (.agg #[.int .i64 0, .int .i64 0]) 2 Tryz.underlying37 hi hz0 hz1 .i64 .i64 len len len rfl rfl rfl rfl ?_ ?_ ?_ ?_; rw [hz2]; omega; unfold maxLen; omega; exact Nat.le_refl _; intro w1 hown1 hgrow1)
  have hz := hgrow1.size
  have hb1 : Below w.heap.size w w1 := (Below.refl _ _).grown hgrow1 (Nat.le_refl _) (fun k e => by cases e)
  clear hgrow1
  generalize hg : w.heap.size = g at *
  have Hg := Lib.hid hg
  clear hg
  go_loopw [4] (fun i wr => ∃ k : Nat, k ≤ len ∧ i = .int .i64 k ∧ ∃ xs : List Value, wr.ownsRow g 117 2 (.slice (some ⟨g, 0, none⟩) len len) len xs ∧ Hid (∀ j, j < k → xs[j * 2]? = some (.int .i64 (f j)) ∧ xs[j * 2 + 1]? = some (.int .i64 (p j))) ∧ Below g w wr) (fun i _ => len - (intOf i).toNat)
  case atStart => exact ⟨0, Nat.zero_le _, rfl, _, hown1, fun j hj => by omega, hb1⟩
  case round =>
    obtain ⟨k, hk, rfl, xs, hown, hxs, hb⟩ := hrel
    rcases Nat.lt_or_ge k len with hlt | hge
    · rcases Hc.out with hc | ⟨b, off, rfl, hbl, hcell⟩
      · omega
      · have c1 : wr.cell? ⟨b, off + k * 2, none⟩ = some (.int .i64 (f k)) := (hb.cell (p := ⟨b, off + k * 2, none⟩) (by show b < g; rw [← Hg.out]; exact hbl)).trans (hcell k hlt).1
        have c1' : wr.cell? ⟨b, off + k * 2 + 1, none⟩ = some (.int .i64 (p k)) := (hb.cell (p := ⟨b, off + k * 2 + 1, none⟩) (by show b < g; rw [← Hg.out]; exact hbl)).trans (hcell k hlt).2
        clear hcell
        have hbw := hown.lt g rfl
        go_wp2_with fail
        refine (toMark1 _ _ _).mono ?_
        rintro e w2 ⟨rfl, hb2⟩
        have hown2 := hown.kept (below_grownM hb2) (Or.inr (by simp [Value.ownBlock]))
        have hb3 : Below g w w2 := hb.trans (hb2.mono (by omega))
        have hx := hown2.1
        obtain ⟨v0, e0⟩ := cell_ofM (hown2.cellAt (k * 2) (by omega)) (by omega)
        obtain ⟨v1, e1⟩ := cell_ofM (hown2.cellAt (k * 2 + 1) (by omega)) (by omega)
        have f0 := hown2.frozenAt (k * 2)
        have f1 := hown2.frozenAt (k * 2 + 1)
        go_wp2
        go_roundw
        case rel =>
          refine ⟨k + 1, by omega, by go_num, (xs.set (k * 2) (.int .i64 (f k))).set (k * 2 + 1) (.int .i64 (p k)), ((hown2.stored (k * 2) _).1.stored (k * 2 + 1) _).1, fun j hj => ?_, (hb3.setCell (Nat.le_refl _) _).setCell (Nat.le_refl _) _⟩
          by_cases e : j = k
          · subst e
            refine ⟨?_, ?_⟩
            · rw [List.getElem?_set_ne (by omega), List.getElem?_set_self (by omega)]
            · rw [List.getElem?_set_self (by simp; omega)]
          · refine ⟨?_, ?_⟩
            · rw [List.getElem?_set_ne (by omega), List.getElem?_set_ne (by omega)]; exact (hxs.out j (by omega)).1
            · rw [List.getElem?_set_ne (by omega), List.getElem?_set_ne (by omega)]; exact (hxs.out j (by omega)).2
        case measure => simp [intOf]; omega
    · obtain rfl : k = len := by omega
      go_wp2
      go_ret
      have hlt : g < wr.heap.size := (hown.lt g rfl).2
      have hx := hown.1
      refine ⟨g, by rw [Hg.out]; exact Nat.le_refl _, rfl, ?_, by rw [Hg.out]; exact hb⟩
      refine Or.inr ⟨g, 0, rfl, hlt, fun i hi => ?_⟩
      rw [Nat.zero_add, hown.cellAt (i * 2) (by omega), hown.cellAt (i * 2 + 1) (by omega)]
      exact hxs.out i hi

set_option maxHeartbeats 1000000 in
theorem eqMarks (a a' : Option Addr) (len cap cap' : Nat) (f p : Nat → Int) (w : World) (h : Marks w a len f p) (h' : Marks w a' len f p) (hl : len ≤ 1048576) :
    Calls Tryz.prog 71 #[.slice a len cap, .slice a' len cap'] w fun e w' => e = .returned (.bool true) ∧ Below w.heap.size w w' := by
  go_enter Tryz.func71, Tryz.ntmps71
  go_wp2_with fail
  go_loopw [5] (fun i wr => ∃ k : Nat, k ≤ len ∧ i = .int .i64 k ∧ Below w.heap.size w wr) (fun i _ => len - (intOf i).toNat)
  case atStart => exact ⟨0, Nat.zero_le _, rfl, Below.refl _ _⟩
  case round =>
    obtain ⟨k, hk, rfl, hb⟩ := hrel
    rcases Nat.lt_or_ge k len with hlt | hge
    · rcases h.kept hb with hc | ⟨b, off, rfl, hbl, hcell⟩
      · omega
      rcases h'.kept hb with hc' | ⟨b', off', rfl, hbl', hcell'⟩
      · omega
      obtain ⟨c1, c2⟩ := hcell k hlt
      obtain ⟨d1, d2⟩ := hcell' k hlt
      clear hcell hcell'
      generalize f k = x at *
      generalize p k = y at *
      have k1 : (k : Int) < len := by omega
      have k0 : (0 : Int) ≤ k := by omega
      go_wp2_with fail
      go_region_with (go_at_call 98; refine (eqMark1 x y _).mono ?_; rintro e w2 ⟨rfl, hb2⟩)
      all_goals
        have hb3 : Below w.heap.size w w2 := hb.trans (Below.trans (belowN (Below.refl _ _) 1) (hb2.mono hb.size))
        go_wp2
        go_roundw
        case rel => exact ⟨k + 1, by omega, by go_num, hb3⟩
        case measure => simp [intOf]; omega
    · obtain rfl : k = len := by omega
      go_wp2
      go_ret
      exact ⟨rfl, hb⟩
end Go.Proofs.YtjphjnopdlfplaaGreatDoor
