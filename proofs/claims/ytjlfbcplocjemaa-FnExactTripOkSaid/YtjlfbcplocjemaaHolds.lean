/-
  What is held of a leg, in memory: lists of three numbers each; a copy of them, and whether two are the same.
-/
import Derived.Test.YtjlfbcplocjemaaBase
import Derived.IntWalk
import Derived.OwnWalk
import Derived.Deep.RegionWith
import Derived.Deep.DeepMust
import Derived.SliceStrings
import Derived.Deep.SlicePairs
import Derived.Deep.Strs
namespace Go.Proofs.Ytjlfbcplocjemaa
open Go.RowKit
set_option linter.unusedVariables false
set_option linter.unusedSimpArgs false

/-- The slice (a, len) reads as what is held: Txn, Class, Seats. -/
def Holds (w : World) (a : Option Addr) (len : Nat) (t c s : Nat → Int) : Prop :=
  len = 0 ∨ ∃ b off, a = some ⟨b, off, none⟩ ∧ b < w.heap.size ∧ ∀ i, i < len → w.cell? ⟨b, off + i * 3, none⟩ = some (.int .i64 (t i)) ∧ w.cell? ⟨b, off + i * 3 + 1, none⟩ = some (.int .i64 (c i)) ∧ w.cell? ⟨b, off + i * 3 + 2, none⟩ = some (.int .i64 (s i))
theorem Holds.kept {w w' : World} {a : Option Addr} {len : Nat} {t c s : Nat → Int} (h : Holds w a len t c s) (hb : Below w.heap.size w w') : Holds w' a len t c s := by
  rcases h with h | ⟨b, off, h2, h3, h4⟩
  · exact Or.inl h
  · exact Or.inr ⟨b, off, h2, Nat.lt_of_lt_of_le h3 hb.size, fun i hi => ⟨(hb.cell (p := ⟨b, off + i * 3, none⟩) h3).trans (h4 i hi).1, (hb.cell (p := ⟨b, off + i * 3 + 1, none⟩) h3).trans (h4 i hi).2.1, (hb.cell (p := ⟨b, off + i * 3 + 2, none⟩) h3).trans (h4 i hi).2.2⟩⟩

def SzInto (len : Nat) (left : Int) (w : World) (e : Ending) (w' : World) : Prop := ∃ r : Int, ((len ≤ left ∧ r = left - len) ∨ (left < len ∧ r = -1)) ∧ e = .returned (.int .i64 r) ∧ w = w'
set_option maxHeartbeats 400000 in
theorem szHolds (a : Option Addr) (len cap : Nat) (left : Int) (w : World) (hl : (len : Int) ≤ 9223372036854775807) (h0 : 0 ≤ left) (h1 : left ≤ 1048576) :
    Calls Try.prog 53 #[.slice a len cap, .int .i64 left] w (SzInto len left w) := by
  rcases Int.lt_or_le left len with h | h
  · go_enter Try.func53, Try.ntmps53
    go_wp2
    go_ret
    exact ⟨-1, Or.inr ⟨h, rfl⟩, rfl, rfl⟩
  · go_enter Try.func53, Try.ntmps53
    go_wp2
    go_ret
    exact ⟨left - len, Or.inl ⟨h, rfl⟩, rfl, rfl⟩
set_option maxHeartbeats 400000 in
theorem szIntsL (a : Option Addr) (len cap : Nat) (left : Int) (w : World) (hl : (len : Int) ≤ 9223372036854775807) (h0 : 0 ≤ left) (h1 : left ≤ 1048576) :
    Calls Try.prog 52 #[.slice a len cap, .int .i64 left] w (SzInto len left w) := by
  rcases Int.lt_or_le left len with h | h
  · go_enter Try.func52, Try.ntmps52
    go_wp2
    go_ret
    exact ⟨-1, Or.inr ⟨h, rfl⟩, rfl, rfl⟩
  · go_enter Try.func52, Try.ntmps52
    go_wp2
    go_ret
    exact ⟨left - len, Or.inl ⟨h, rfl⟩, rfl, rfl⟩

theorem below_grown {w w' : World} (h : Below w.heap.size w w') : w.grownBy w' none := ⟨h.os, h.tape, h.output, h.size, fun i hi _ => h.block i hi⟩
theorem cell_of {w : World} {a : Addr} {xs : List Value} {i : Nat} (h : w.cell? a = xs[i]?) (hi : i < xs.length) : ∃ v, w.cell? a = some v := ⟨xs[i], by rw [h]; simp [hi]⟩
theorem results_cell1 {fn : Func} {p : Tmp} {ty : TypeId} (h : fn.results = #[.cell p ty]) (tmps : Array Value) (P : Program) (w : World) :
    (results fn tmps).run P w = ((asAddr (tmps.getD p undef)).run P w).andThen fun a w₁ => (loadVar ty a).run P w₁ := by
  simp only [results, h]
  simp [Sem.run_bind, Result.andThen]

set_option maxHeartbeats 400000 in
theorem toHold1 (x y z : Int) (w : World) :
    Calls Try.prog 71 #[.agg #[.int .i64 x, .int .i64 y, .int .i64 z]] w fun e w' => e = .returned (.agg #[.int .i64 x, .int .i64 y, .int .i64 z]) ∧ Below w.heap.size w w' := by
  go_enter Try.func71, Try.ntmps71
  go_wp2
  (try simp only [Exit.inBlock, Exit.then])
  refine bodyPost_ret (v := .agg #[.int .i64 x, .int .i64 y, .int .i64 z]) ?_ rfl ⟨rfl, ?_⟩
  · rw [results_cell1 rfl]
    go_simp
  repeat first
    | exact Below.refl _ _
    | refine Below.alloc ?_ (by simp only [World.size_alloc]; omega) _
    | refine Below.alloc ?_ (Nat.le_refl _) _
    | refine Below.drew ?_
    | refine belowN ?_ _
set_option maxHeartbeats 400000 in
theorem eqHold1 (x y z : Int) (w : World) :
    Calls Try.prog 72 #[.agg #[.int .i64 x, .int .i64 y, .int .i64 z], .agg #[.int .i64 x, .int .i64 y, .int .i64 z]] w fun e w' => e = .returned (.bool true) ∧ Below w.heap.size w w' := by
  go_enter Try.func72, Try.ntmps72
  go_wp2
  go_ret
  refine ⟨rfl, ?_⟩
  repeat first
    | exact Below.refl _ _
    | refine Below.alloc ?_ (by simp only [World.size_alloc]; omega) _
    | refine Below.alloc ?_ (Nat.le_refl _) _
    | refine Below.drew ?_
    | refine belowN ?_ _
theorem infoHold : (Try.prog.info? 80).map (fun i => (i.zero, i.size, i.bytes)) = some (some (.agg #[.int .i64 0, .int .i64 0, .int .i64 0]), 3, 24) := by kernel_rfl
def CopyH (len : Nat) (t c s : Nat → Int) (w : World) (e : Ending) (w' : World) : Prop :=
  ∃ g : Nat, w.heap.size ≤ g ∧ e = .returned (.slice (some ⟨g, 0, none⟩) len len) ∧ Holds w' (some ⟨g, 0, none⟩) len t c s ∧ Below w.heap.size w w'

set_option maxHeartbeats 2000000 in
theorem copyHolds (a : Option Addr) (len cap : Nat) (t c s : Nat → Int) (w : World) (h : Holds w a len t c s) (hl : len ≤ 1048576) :
    Calls Try.prog 55 #[.slice a len cap] w (CopyH len t c s w) := by
  obtain ⟨i0, hi, hz0, hz1, hz2⟩ := info_parts infoHold
  have Hc := Lib.hid h
  clear h
  go_enter Try.func55, Try.ntmps55
  go_wp2_with (at_make; refine wpList_make_full _ rfl _ _ 32 rfl w.heap.size 80 i0 (.agg #[.int .i64 0, .int .i64 0, .int .i64 0]) 3 Try.underlying32 hi hz0 hz1 .i64 .i64 len len len rfl rfl rfl rfl ?_ ?_ ?_ ?_; rw [hz2]; omega; unfold maxLen; omega; exact Nat.le_refl _; intro w1 hown1 hgrow1)
  have hz := hgrow1.size
  have hb1 : Below w.heap.size w w1 := (Below.refl _ _).grown hgrow1 (Nat.le_refl _) (fun k e => by cases e)
  clear hgrow1
  generalize hg : w.heap.size = g at *
  have Hg := Lib.hid hg
  clear hg
  go_loopw [4] (fun i wr => ∃ k : Nat, k ≤ len ∧ i = .int .i64 k ∧ ∃ xs : List Value, wr.ownsRow g 80 3 (.slice (some ⟨g, 0, none⟩) len len) len xs ∧ Hid (∀ j, j < k → xs[j * 3]? = some (.int .i64 (t j)) ∧ xs[j * 3 + 1]? = some (.int .i64 (c j)) ∧ xs[j * 3 + 2]? = some (.int .i64 (s j))) ∧ Below g w wr) (fun i _ => len - (intOf i).toNat)
  case atStart => exact ⟨0, Nat.zero_le _, rfl, _, hown1, fun j hj => by omega, hb1⟩
  case round =>
    obtain ⟨k, hk, rfl, xs, hown, hxs, hb⟩ := hrel
    rcases Nat.lt_or_ge k len with hlt | hge
    · rcases Hc.out with hc | ⟨b, off, rfl, hbl, hcell⟩
      · omega
      · have hbg : b < g := by rw [← Hg.out]; exact hbl
        have c1 : wr.cell? ⟨b, off + k * 3, none⟩ = some (.int .i64 (t k)) := (hb.cell (p := ⟨b, off + k * 3, none⟩) hbg).trans (hcell k hlt).1
        have c2 : wr.cell? ⟨b, off + k * 3 + 1, none⟩ = some (.int .i64 (c k)) := (hb.cell (p := ⟨b, off + k * 3 + 1, none⟩) hbg).trans (hcell k hlt).2.1
        have c3 : wr.cell? ⟨b, off + k * 3 + 2, none⟩ = some (.int .i64 (s k)) := (hb.cell (p := ⟨b, off + k * 3 + 2, none⟩) hbg).trans (hcell k hlt).2.2
        clear hcell
        have hbw := hown.lt g rfl
        go_wp2_with fail
        refine (toHold1 _ _ _ _).mono ?_
        rintro e w2 ⟨rfl, hb2⟩
        have hown2 := hown.kept (below_grown hb2) (Or.inr (by simp [Value.ownBlock]))
        have hb3 : Below g w w2 := hb.trans (hb2.mono (by omega))
        have hx := hown2.1
        obtain ⟨v0, e0⟩ := cell_of (hown2.cellAt (k * 3) (by omega)) (by omega)
        obtain ⟨v1, e1⟩ := cell_of (hown2.cellAt (k * 3 + 1) (by omega)) (by omega)
        obtain ⟨v2, e2⟩ := cell_of (hown2.cellAt (k * 3 + 2) (by omega)) (by omega)
        have f0 := hown2.frozenAt (k * 3)
        have f1 := hown2.frozenAt (k * 3 + 1)
        have f2 := hown2.frozenAt (k * 3 + 2)
        go_wp2
        go_roundw
        case rel =>
          refine ⟨k + 1, by omega, by go_num, ((xs.set (k * 3) (.int .i64 (t k))).set (k * 3 + 1) (.int .i64 (c k))).set (k * 3 + 2) (.int .i64 (s k)), (((hown2.stored (k * 3) _).1.stored (k * 3 + 1) _).1.stored (k * 3 + 2) _).1, fun j hj => ?_, ((hb3.setCell (Nat.le_refl _) _).setCell (Nat.le_refl _) _).setCell (Nat.le_refl _) _⟩
          by_cases e : j = k
          · subst e
            refine ⟨?_, ?_, ?_⟩
            · rw [List.getElem?_set_ne (by omega), List.getElem?_set_ne (by omega), List.getElem?_set_self (by omega)]
            · rw [List.getElem?_set_ne (by omega), List.getElem?_set_self (by simp; omega)]
            · rw [List.getElem?_set_self (by simp; omega)]
          · refine ⟨?_, ?_, ?_⟩
            · rw [List.getElem?_set_ne (by omega), List.getElem?_set_ne (by omega), List.getElem?_set_ne (by omega)]; exact (hxs.out j (by omega)).1
            · rw [List.getElem?_set_ne (by omega), List.getElem?_set_ne (by omega), List.getElem?_set_ne (by omega)]; exact (hxs.out j (by omega)).2.1
            · rw [List.getElem?_set_ne (by omega), List.getElem?_set_ne (by omega), List.getElem?_set_ne (by omega)]; exact (hxs.out j (by omega)).2.2
        case measure => simp [intOf]; omega
    · obtain rfl : k = len := by omega
      go_wp2
      go_ret
      have hlt : g < wr.heap.size := (hown.lt g rfl).2
      have hx := hown.1
      refine ⟨g, by rw [Hg.out]; exact Nat.le_refl _, rfl, ?_, by rw [Hg.out]; exact hb⟩
      refine Or.inr ⟨g, 0, rfl, hlt, fun i hi => ?_⟩
      rw [Nat.zero_add, hown.cellAt (i * 3) (by omega), hown.cellAt (i * 3 + 1) (by omega), hown.cellAt (i * 3 + 2) (by omega)]
      exact hxs.out i hi

set_option maxHeartbeats 2000000 in
theorem eqHolds (a a' : Option Addr) (len cap cap' : Nat) (t c s : Nat → Int) (w : World) (h : Holds w a len t c s) (h' : Holds w a' len t c s) (hl : len ≤ 1048576) :
    Calls Try.prog 57 #[.slice a len cap, .slice a' len cap'] w fun e w' => e = .returned (.bool true) ∧ Below w.heap.size w w' := by
  go_enter Try.func57, Try.ntmps57
  go_wp2_with fail
  go_loopw [5] (fun i wr => ∃ k : Nat, k ≤ len ∧ i = .int .i64 k ∧ Below w.heap.size w wr) (fun i _ => len - (intOf i).toNat)
  case atStart => exact ⟨0, Nat.zero_le _, rfl, Below.refl _ _⟩
  case round =>
    obtain ⟨k, hk, rfl, hb⟩ := hrel
    rcases Nat.lt_or_ge k len with hlt | hge
    · rcases h.kept hb with hc | ⟨b, off, rfl, hbl, hcell⟩
      · omega
      rcases h'.kept hb with hc' | ⟨b', off', rfl, hbl', hcell'⟩
      · omega
      obtain ⟨c1, c2, c3⟩ := hcell k hlt
      obtain ⟨d1, d2, d3⟩ := hcell' k hlt
      clear hcell hcell'
      generalize t k = x at *
      generalize c k = y at *
      generalize s k = z at *
      have k1 : (k : Int) < len := by omega
      have k0 : (0 : Int) ≤ k := by omega
      go_wp2_with fail
      go_region_with (go_at_call 72; refine (eqHold1 x y z _).mono ?_; rintro e w2 ⟨rfl, hb2⟩)
      all_goals
        have hb3 : Below w.heap.size w w2 := hb.trans (Below.trans (belowN (Below.refl _ _) 1) (hb2.mono hb.size))
        go_wp2
        go_roundw
        case rel => exact ⟨k + 1, by omega, by go_num, hb3⟩
        case measure => simp [intOf]; omega
    · obtain rfl : k = len := by omega
      go_wp2
      go_ret
      exact ⟨rfl, hb⟩
end Go.Proofs.Ytjlfbcplocjemaa
