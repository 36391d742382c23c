/-
  The law FnExactTiersOf's own walk.
-/
import Derived.Test.YtfadadddofijnaaTiers2
import Derived.OwnWalk
import Derived.Deep.RegionWith
import Derived.Deep.DeepMust
import Derived.SliceStrings
import Derived.Deep.SlicePairs
namespace Go.Proofs.Ytfadadddofijnaa
open Go.RowKit
set_option linter.unusedVariables false

set_option maxHeartbeats 1000000 in
theorem specTiersOf (n : Int) (a : Option Addr) (len cap : Nat) (f p : Nat → Int) (w : World) (h : Marks w a len f p) (hl : len ≤ 1048576) :
    Calls Try.prog 7 #[.int .i64 n, .slice a len cap] w (TPost f p len n w) := by
  cases hn : (decide (0 ≤ n) && decide (n ≤ 1000000000000)) with
  | false =>
    have hno : ¬ TOk f p len n := fun h => by have := h.1; simp at hn; omega
    have Hno := Lib.hid hno
    have Hn := Lib.hid hn
    clear hno hn
    go_enter Try.func7, Try.ntmps7
    go_wp2_with (go_at_call 16; refine (specInB _ _ _ _ false Hn.out).mono ?_; rintro e w' ⟨rfl, rfl⟩)
    go_ret2
    exact ⟨_, _, rfl, Or.inr ⟨rfl, Hno.out, rfl⟩, Below.refl _ _⟩
  | true =>
    have hn2 : 0 ≤ n ∧ n ≤ 1000000000000 := by simpa using hn
    have Hn := Lib.hid hn
    have Hn2 := Lib.hid hn2
    clear hn hn2
    go_enter Try.func7, Try.ntmps7
    go_wp2_with fail
    refine (specInB _ _ _ _ true Hn.out).mono ?_
    rintro e w' ⟨rfl, rfl⟩
    go_wp2_with fail
    refine (specMarksOk _ _ _ _ _ _ h hl).mono ?_
    rintro e w1 ⟨b, rfl, hb, hb1⟩
    cases b with
    | false =>
      have hno : ¬ TOk f p len n := fun h => absurd (hb.2 h.2.1) (by simp)
      have Hno := Lib.hid hno
      clear hno hb
      go_wp2
      go_ret2
      exact ⟨_, _, rfl, Or.inr ⟨rfl, Hno.out, rfl⟩, hb1⟩
    | true =>
      have hm := hb.1 rfl
      have Hm := Lib.hid hm
      clear hb
      go_wp2_with fail
      refine (specTiers n a len cap f p _ (h.kept hb1) hm Hn2.out.1 Hn2.out.2).mono ?_
      clear hm
      rintro e w2 ⟨x, c, rfl, hx, hb2⟩
      have hbw2 : Below w.heap.size w w2 := hb1.trans (hb2.mono hb1.size)
      rcases hx with ⟨rfl, rfl, hle⟩ | ⟨rfl, rfl, hgt⟩
      · have Hle := Lib.hid hle
        clear hle
        go_wp2
        go_ret2
        exact ⟨_, _, rfl, Or.inl ⟨rfl, ⟨Hn2.out, Hm.out, Hle.out⟩, rfl⟩, hbw2⟩
      · have hno : ¬ TOk f p len n := fun h => by have := h.2.2; omega
        have Hno := Lib.hid hno
        clear hno hgt
        go_wp2
        go_ret2
        exact ⟨_, _, rfl, Or.inr ⟨rfl, Hno.out, rfl⟩, hbw2⟩

set_option maxHeartbeats 400000 in
theorem szMarks (a : Option Addr) (len cap : Nat) (w : World) (hl : (len : Int) ≤ 9223372036854775807) (r : Int) (hr : (len ≤ 1048576 ∧ r = 1048576 - len) ∨ (1048576 < len ∧ r = -1)) :
    Calls Try.prog 8 #[.slice a len cap, .int .i64 1048576] w fun e w' => e = .returned (.int .i64 r) ∧ w = w' := by
  rcases hr with ⟨h1, rfl⟩ | ⟨h1, rfl⟩
  · go_enter Try.func8, Try.ntmps8
    go_wp2
    go_ret
    exact ⟨rfl, rfl⟩
  · go_enter Try.func8, Try.ntmps8
    go_wp2
    go_ret
    exact ⟨rfl, rfl⟩

theorem below_grown {w w' : World} (h : Below w.heap.size w w') : w.grownBy w' none := ⟨h.os, h.tape, h.output, h.size, fun i hi _ => h.block i hi⟩
theorem cell_of {w : World} {a : Addr} {xs : List Value} {i : Nat} (h : w.cell? a = xs[i]?) (hi : i < xs.length) : ∃ v, w.cell? a = some v := ⟨xs[i], by rw [h]; simp [hi]⟩
theorem results_cell1 {fn : Func} {p : Tmp} {ty : TypeId} (h : fn.results = #[.cell p ty]) (tmps : Array Value) (P : Program) (w : World) :
    (results fn tmps).run P w = ((asAddr (tmps.getD p undef)).run P w).andThen fun a w₁ => (loadVar ty a).run P w₁ := by
  simp only [results, h]
  simp [Sem.run_bind, Result.andThen]

set_option maxHeartbeats 400000 in
theorem toMark1 (x y : Int) (w : World) :
    Calls Try.prog 19 #[.agg #[.int .i64 x, .int .i64 y]] w fun e w' => e = .returned (.agg #[.int .i64 x, .int .i64 y]) ∧ Below w.heap.size w w' := by
  go_enter Try.func19, Try.ntmps19
  go_wp2
  (try simp only [Exit.inBlock, Exit.then])
  refine bodyPost_ret (v := .agg #[.int .i64 x, .int .i64 y]) ?_ rfl ⟨rfl, ?_⟩
  · rw [results_cell1 rfl]
    go_simp
  repeat first
    | exact Below.refl _ _
    | refine Below.alloc ?_ (by simp only [World.size_alloc]; omega) _
    | refine Below.alloc ?_ (Nat.le_refl _) _
    | refine Below.drew ?_
    | refine belowN ?_ _
set_option maxHeartbeats 400000 in
theorem eqMark1 (x y : Int) (w : World) :
    Calls Try.prog 20 #[.agg #[.int .i64 x, .int .i64 y], .agg #[.int .i64 x, .int .i64 y]] w fun e w' => e = .returned (.bool true) ∧ Below w.heap.size w w' := by
  go_enter Try.func20, Try.ntmps20
  go_wp2
  go_ret
  refine ⟨rfl, ?_⟩
  repeat first
    | exact Below.refl _ _
    | refine Below.alloc ?_ (by simp only [World.size_alloc]; omega) _
    | refine Below.alloc ?_ (Nat.le_refl _) _
    | refine Below.drew ?_
    | refine belowN ?_ _
theorem infoMark : (Try.prog.info? 29).map (fun i => (i.zero, i.size, i.bytes)) = some (some (.agg #[.int .i64 0, .int .i64 0]), 2, 16) := by kernel_rfl
def CopyM (len : Nat) (f p : Nat → Int) (w : World) (e : Ending) (w' : World) : Prop :=
  ∃ g : Nat, w.heap.size ≤ g ∧ e = .returned (.slice (some ⟨g, 0, none⟩) len len) ∧ Marks w' (some ⟨g, 0, none⟩) len f p ∧ Below w.heap.size w w'

set_option maxHeartbeats 1000000 in
theorem copyMarks (a : Option Addr) (len cap : Nat) (f p : Nat → Int) (w : World) (h : Marks w a len f p) (hl : len ≤ 1048576) :
    Calls Try.prog 9 #[.slice a len cap] w (CopyM len f p w) := by
  obtain ⟨i0, hi, hz0, hz1, hz2⟩ := info_parts infoMark
  have Hc := Lib.hid h
  clear h
  go_enter Try.func9, Try.ntmps9
  go_wp2_with (at_make; refine wpList_make_full _ rfl _ _ 23 rfl w.heap.size 29 i0 (.agg #[.int .i64 0, .int .i64 0]) 2 Try.underlying23 hi hz0 hz1 .i64 .i64 len len len rfl rfl rfl rfl ?_ ?_ ?_ ?_; rw [hz2]; omega; unfold maxLen; omega; exact Nat.le_refl _; intro w1 hown1 hgrow1)
  have hz := hgrow1.size
  have hb1 : Below w.heap.size w w1 := (Below.refl _ _).grown hgrow1 (Nat.le_refl _) (fun k e => by cases e)
  clear hgrow1
  generalize hg : w.heap.size = g at *
  have Hg := Lib.hid hg
  clear hg
  go_loopw [4] (fun i wr => ∃ k : Nat, k ≤ len ∧ i = .int .i64 k ∧ ∃ xs : List Value, wr.ownsRow g 29 2 (.slice (some ⟨g, 0, none⟩) len len) len xs ∧ Hid (∀ j, j < k → xs[j * 2]? = some (.int .i64 (f j)) ∧ xs[j * 2 + 1]? = some (.int .i64 (p j))) ∧ Below g w wr) (fun i _ => len - (intOf i).toNat)
  case atStart => exact ⟨0, Nat.zero_le _, rfl, _, hown1, fun j hj => by omega, hb1⟩
  case round =>
    obtain ⟨k, hk, rfl, xs, hown, hxs, hb⟩ := hrel
    rcases Nat.lt_or_ge k len with hlt | hge
    · rcases Hc.out with hc | ⟨b, off, rfl, hbl, hcell⟩
      · omega
      · have c1 : wr.cell? ⟨b, off + k * 2, none⟩ = some (.int .i64 (f k)) := (hb.cell (p := ⟨b, off + k * 2, none⟩) (by show b < g; rw [← Hg.out]; exact hbl)).trans (hcell k hlt).1
        have c1' : wr.cell? ⟨b, off + k * 2 + 1, none⟩ = some (.int .i64 (p k)) := (hb.cell (p := ⟨b, off + k * 2 + 1, none⟩) (by show b < g; rw [← Hg.out]; exact hbl)).trans (hcell k hlt).2
        clear hcell
        have hbw := hown.lt g rfl
        go_wp2_with fail
        refine (toMark1 _ _ _).mono ?_
        rintro e w2 ⟨rfl, hb2⟩
        have hown2 := hown.kept (below_grown hb2) (Or.inr (by simp [Value.ownBlock]))
        have hb3 : Below g w w2 := hb.trans (hb2.mono (by omega))
        have hx := hown2.1
        obtain ⟨v0, e0⟩ := cell_of (hown2.cellAt (k * 2) (by omega)) (by omega)
        obtain ⟨v1, e1⟩ := cell_of (hown2.cellAt (k * 2 + 1) (by omega)) (by omega)
        have f0 := hown2.frozenAt (k * 2)
        have f1 := hown2.frozenAt (k * 2 + 1)
        go_wp2
        go_roundw
        case rel =>
          refine ⟨k + 1, by omega, by go_num, (xs.set (k * 2) (.int .i64 (f k))).set (k * 2 + 1) (.int .i64 (p k)), ((hown2.stored (k * 2) _).1.stored (k * 2 + 1) _).1, fun j hj => ?_, (hb3.setCell (Nat.le_refl _) _).setCell (Nat.le_refl _) _⟩
          by_cases e : j = k
          · subst e
            refine ⟨?_, ?_⟩
            · rw [List.getElem?_set_ne (by omega), List.getElem?_set_self (by omega)]
            · rw [List.getElem?_set_self (by simp; omega)]
          · refine ⟨?_, ?_⟩
            · rw [List.getElem?_set_ne (by omega), List.getElem?_set_ne (by omega)]; exact (hxs.out j (by omega)).1
            · rw [List.getElem?_set_ne (by omega), List.getElem?_set_ne (by omega)]; exact (hxs.out j (by omega)).2
        case measure => simp [intOf]; omega
    · obtain rfl : k = len := by omega
      go_wp2
      go_ret
      have hlt : g < wr.heap.size := (hown.lt g rfl).2
      have hx := hown.1
      refine ⟨g, by rw [Hg.out]; exact Nat.le_refl _, rfl, ?_, by rw [Hg.out]; exact hb⟩
      refine Or.inr ⟨g, 0, rfl, hlt, fun i hi => ?_⟩
      rw [Nat.zero_add, hown.cellAt (i * 2) (by omega), hown.cellAt (i * 2 + 1) (by omega)]
      exact hxs.out i hi

set_option maxHeartbeats 1000000 in
theorem eqMarks (a a' : Option Addr) (len cap cap' : Nat) (f p : Nat → Int) (w : World) (h : Marks w a len f p) (h' : Marks w a' len f p) (hl : len ≤ 1048576) :
    Calls Try.prog 10 #[.slice a len cap, .slice a' len cap'] w fun e w' => e = .returned (.bool true) ∧ Below w.heap.size w w' := by
  go_enter Try.func10, Try.ntmps10
  go_wp2_with fail
  go_loopw [5] (fun i wr => ∃ k : Nat, k ≤ len ∧ i = .int .i64 k ∧ Below w.heap.size w wr) (fun i _ => len - (intOf i).toNat)
  case atStart => exact ⟨0, Nat.zero_le _, rfl, Below.refl _ _⟩
  case round =>
    obtain ⟨k, hk, rfl, hb⟩ := hrel
    rcases Nat.lt_or_ge k len with hlt | hge
    · rcases h.kept hb with hc | ⟨b, off, rfl, hbl, hcell⟩
      · omega
      rcases h'.kept hb with hc' | ⟨b', off', rfl, hbl', hcell'⟩
      · omega
      obtain ⟨c1, c2⟩ := hcell k hlt
      obtain ⟨d1, d2⟩ := hcell' k hlt
      clear hcell hcell'
      generalize f k = x at *
      generalize p k = y at *
      have k1 : (k : Int) < len := by omega
      have k0 : (0 : Int) ≤ k := by omega
      go_wp2_with fail
      go_region_with (go_at_call 20; refine (eqMark1 x y _).mono ?_; rintro e w2 ⟨rfl, hb2⟩)
      all_goals
        have hb3 : Below w.heap.size w w2 := hb.trans (Below.trans (belowN (Below.refl _ _) 1) (hb2.mono hb.size))
        go_wp2
        go_roundw
        case rel => exact ⟨k + 1, by omega, by go_num, hb3⟩
        case measure => simp [intOf]; omega
    · obtain rfl : k = len := by omega
      go_wp2
      go_ret
      exact ⟨rfl, hb⟩

/-- What is told of an argument that is a list of marks. -/
def IsRowM (w : World) (a : Option Addr) (len cap : Nat) (f p : Nat → Int) : Prop := len ≤ cap ∧ cap ≤ maxLen ∧ Marks w a len f p

theorem openMarks {H : Type} {enc : TypeId × Value → H} {w : World} {base : Nat} {spare : Nat → Bool} {held : Bool} {fuel : Nat} {a : Option Addr} {len cap : Nat} {x : DataW H × List MemPlace}
    (h : DataW.trod enc Try.prog w base spare held fuel 31 (Value.cells (.slice a len cap)).toList = some x) : ∃ f p, IsRowM w a len cap f p := by
  rcases Go.Deep.open_slice_pairs Try.underlying31 Try.underlying47 (by kernel_rfl) rfl rfl (by kernel_rfl) (by kernel_rfl) h with ⟨h1, -⟩ | ⟨ad, len', cap', m, n, V0, V1, D0, D1, P0, P1, h1, -, hl, hm, hmm, -, hc⟩
  · simp [Value.cells] at h1
    obtain ⟨rfl, rfl, rfl⟩ := h1
    exact ⟨fun _ => 0, fun _ => 0, Nat.le_refl _, by unfold maxLen; omega, Or.inl rfl⟩
  · simp [Value.cells] at h1
    obtain ⟨rfl, rfl, rfl⟩ := h1
    have hlm : len ≤ m := by rw [hmm]; split <;> omega
    refine ⟨fun i => intOf (V0 i), fun i => intOf (V1 i), hl, hm, ?_⟩
    by_cases h0 : len = 0
    · exact Or.inl h0
    obtain ⟨b, off, spot⟩ := ad
    have hc0 := (hc 0 (by omega)).1
    have hspot : spot = none := by simpa [Addr.add] using World.cell?_spot hc0
    subst hspot
    have hlt := World.block_lt_of_cell? w _ hc0
    refine Or.inr ⟨b, off, rfl, by simpa [Addr.add] using hlt, fun i hi => ?_⟩
    obtain ⟨g1, g2, g3, g4⟩ := hc i (by omega)
    obtain ⟨n0, e0, -, -⟩ := Go.DataW.trod_int Try.underlying3 g3
    obtain ⟨n1, e1, -, -⟩ := Go.DataW.trod_int Try.underlying3 g4
    have a1 : ∀ j, (⟨b, off, none⟩ : Addr).add j = ⟨b, off + j, none⟩ := fun j => by by_cases hj : j = 0 <;> simp [Addr.add, hj]
    rw [a1] at g1 g2
    simp at e0 e1
    rw [e0] at g1; rw [e1] at g2
    simp only [e0, e1, intOf]
    exact ⟨g1, by rw [Nat.add_assoc]; exact g2⟩

set_option maxHeartbeats 1000000 in
theorem exactTiersOf (n : Int) (a : Option Addr) (len cap : Nat) (f p : Nat → Int) (w : World) (wn : (Lit.int .i64 n).wf = true) (w0 : IsRowM w a len cap f p) :
    Calls Try.prog 4 #[.int .i64 n, .slice a len cap] w fun e w' => e = .returned (.bool true) ∧ Below w.heap.size w w' := by
  obtain ⟨hlc, hcm, hM⟩ := w0
  have hl : (len : Int) ≤ 9223372036854775807 := by unfold maxLen at hcm; omega
  clear hlc hcm
  rcases Nat.lt_or_ge 1048576 len with hbig | hbig
  · go_enter Try.func4, Try.ntmps4
    go_wp2_with (go_at_call 8; refine (szMarks a len cap _ hl (-1) (Or.inr ⟨hbig, rfl⟩)).mono ?_; rintro e w' ⟨rfl, rfl⟩)
    go_ret
    exact ⟨rfl, Below.refl _ _⟩
  · go_enter Try.func4, Try.ntmps4
    go_wp2_with fail
    refine (szMarks a len cap _ hl (1048576 - len) (Or.inl ⟨hbig, rfl⟩)).mono ?_
    rintro e w' ⟨rfl, rfl⟩
    go_wp2_with fail
    refine (copyMarks a len cap f p _ hM hbig).mono ?_
    rintro e w1 ⟨g1, hg1, rfl, hc1, hb1⟩
    go_wp2_with fail
    refine (specTiersOf n _ _ _ f p _ hc1 hbig).mono ?_
    rintro e w2 ⟨x, b, rfl, hx, hb2⟩
    have hbw2 : Below w.heap.size w w2 := hb1.trans (hb2.mono hb1.size)
    go_wp2_with fail
    refine (copyMarks a len cap f p _ (hM.kept hbw2) hbig).mono ?_
    rintro e w3 ⟨g3, hg3, rfl, hc3, hb3⟩
    have hbw3 : Below w.heap.size w w3 := hbw2.trans (hb3.mono hbw2.size)
    go_wp2_with fail
    refine (implTiersOf n _ _ _ f p _ hc3 hbig).mono ?_
    rintro e w4 ⟨y, c, rfl, hy, hb4⟩
    obtain ⟨rfl, rfl⟩ := hy.same hx
    clear hx hy
    have hbw4 : Below w.heap.size w w4 := hbw3.trans (hb4.mono hbw3.size)
    go_wp2_with fail
    refine (copyMarks a len cap f p _ (hM.kept hbw4) hbig).mono ?_
    rintro e w5 ⟨g5, hg5, rfl, hc5, hb5⟩
    have hbw5 : Below w.heap.size w w5 := hbw4.trans (hb5.mono hbw4.size)
    go_wp2_with fail
    refine (eqMarks _ _ _ _ _ f p _ ((hc3.kept hb4).kept hb5) hc5 hbig).mono ?_
    rintro e w6 ⟨rfl, hb6⟩
    have hbw6 : Below w.heap.size w w6 := hbw5.trans (hb6.mono hbw5.size)
    go_wp2
    go_ret
    exact ⟨rfl, hbw6⟩
end Go.Proofs.Ytfadadddofijnaa
