/-
  The law that holds the program's TripWrite against the model's, and how a trip that comes in is opened.
-/
import Derived.Test.YtldebdoojabboaaDoorTripWriteS
import Derived.SliceStrings
import Derived.Deep.Strs
namespace Go.Proofs.YtldebdoojabboaaDoor
open Go.RowKit Go.ChangeShapes Go.WideShapes Go.ChangeAt
set_option linter.unusedVariables false
set_option linter.unusedSimpArgs false

def TripRow (w : World) (a : Option Addr) (len cap : Nat) (z : List ByteArray) (f : ByteArray) (n : Int) : Prop := IsRowS w a len cap z ∧ f.size ≤ maxLen

theorem three {cs : Array Value} (h : cs.size = 3) : ∃ x y z, cs = #[x, y, z] := by
  obtain ⟨l⟩ := cs
  match l, h with
  | [x, y, z], _ => exact ⟨x, y, z, rfl⟩

theorem openTrip {H : Type} {enc : TypeId × Value → H} {w : World} {base : Nat} {spare : Nat → Bool} {held : Bool} {fuel : Nat} {cs : Array Value} {x : DataW H × List MemPlace} (hsp : ∀ b, spare b = true)
    (h : DataW.trod enc Tryd.prog w base spare held fuel 24 (Value.cells (.agg cs)).toList = some x) : ∃ a len cap z f n, cs = #[.slice a len cap, .string f, .int .i64 n] ∧ TripRow w a len cap z f n := by
  obtain ⟨y0, y1, y2, m, rfl, hl, h0, h1, h2⟩ := Go.Deep.trod_struct3 Tryd.underlying24 h
  have cT : Tryd.prog.cellsOf 24 = 3 := by kernel_rfl
  have cL : Tryd.prog.cellsOf 22 = 1 := by kernel_rfl
  have cF : Tryd.prog.cellsOf 9 = 1 := by kernel_rfl
  have cN : Tryd.prog.cellsOf 3 = 1 := by kernel_rfl
  rw [cT] at hl
  obtain ⟨v0, v1, v2, rfl⟩ := three (cs := cs) (by simpa [Value.cells] using hl)
  simp [Value.cells, cL, cF, cN] at h0 h1 h2
  obtain ⟨f, e1, -, hf⟩ := DataW.trod_string Tryd.underlying9 h1
  obtain ⟨n, e2, -, -⟩ := DataW.trod_int Tryd.underlying3 h2
  simp at e1 e2
  subst e1 e2
  rcases open_strings Tryd.underlying22 Tryd.underlying9 (by kernel_rfl) h0 with ⟨hcs, _⟩ | ⟨x, l, c, zs, hcs, _, hlc, hm, hz, _, hcell, hwz⟩
  · simp at hcs
    subst hcs
    exact ⟨none, 0, 0, [], f, n, rfl, .inl ⟨rfl, rfl, rfl, rfl⟩, hf⟩
  · simp at hcs
    subst hcs
    exact ⟨some x, l, c, zs, f, n, rfl, .inr ⟨_, rfl, hlc, hm, by simpa [hsp] using hz, hcell, hwz⟩, hf⟩

theorem size_of_row {w : World} {a : Option Addr} {len cap : Nat} {z : List ByteArray} (h : IsRowS w a len cap z) : ∀ s ∈ z.take len, s.size ≤ 9223372036854775807 := by
  intro s hs
  rcases h with ⟨rfl, rfl, rfl, rfl⟩ | ⟨x, rfl, hl, hm, hz, hcell, hwz⟩
  · simp at hs
  · have := hwz s (List.mem_of_mem_take hs); unfold maxLen at this; omega
theorem total_at : ∀ (ss : List ByteArray) (i : Nat), (legAt ss i).size ≤ total ss
  | [], i => by simp [legAt, total]
  | s :: r, 0 => by simp [legAt, total]
  | s :: r, i + 1 => by
    have := total_at r i
    have e : legAt (s :: r) (i + 1) = legAt r i := by simp [legAt]
    rw [e]; simp only [total]; omega

theorem row3 {w : World} {b : Nat} {x y z : Value} {t : TypeId} {i : Nat × Nat} (h : w.heap[b]? = some (.cells #[x, y, z] t i)) : w.cell? ⟨b, 0, none⟩ = some x ∧ w.cell? ⟨b, 1, none⟩ = some y ∧ w.cell? ⟨b, 2, none⟩ = some z := by
  obtain ⟨i1, i2⟩ := i
  refine ⟨?_, ?_, ?_⟩ <;> (rw [Lib.cell_of_heap h]; rfl)
set_option maxHeartbeats 4000000 in
theorem exactTripWrite (a : Option Addr) (len cap : Nat) (z : List ByteArray) (f : ByteArray) (n : Int) (w : World) (w0 : TripRow w a len cap z f n) (hL : Laid w) :
    Calls Tryd.prog 3 #[.agg #[.slice a len cap, .string f, .int .i64 n]] w fun e w' => e = .returned (.bool true) ∧ Below w.heap.size w w' := by
  obtain ⟨hrow, hfz⟩ := w0
  obtain ⟨hS, hlc, hcm⟩ := strs_of_row hrow
  have hss := size_of_row hrow
  unfold maxLen at hfz hcm
  generalize z.take len = ss at *
  obtain rfl : ss.length = len := hS.1
  have HS := Lib.hid hS
  have Hss := Lib.hid hss
  have HL := Lib.hid hL
  have hbA : Below w.heap.size w (w.alloc (.cells #[.slice a ss.length cap, .string f, .int .i64 n] 24)) := (Below.refl _ _).alloc (Nat.le_refl _) _
  have HbA := Lib.hid hbA
  have hA := heap_alloc_new w (.cells #[.slice a ss.length cap, .string f, .int .i64 n] 24)
  have HA := Lib.hid hA
  clear hS hss hL hrow hbA hA
  go_enter Tryd.func3, Tryd.ntmps3
  go_wp2_with fail
  refine (szTripS a ss.length cap ss f n _ (HS.out.kept HbA.out) (by omega) Hss.out (by omega)).mono ?_
  rintro e w1 ⟨r, r0, r1, rfl, hr, dd1⟩
  have hb1 := btt HbA.out dd1
  have hA1 := (dd1.block _ (by simp)).trans HA.out
  obtain ⟨c0, c1, c2⟩ := row3 hA1
  have sz1 : w.heap.size < w1.heap.size := lt_heap hA1
  rcases Int.lt_or_le r 0 with c | c
  · have g0 : decide (r < 0) = true := by simp; omega
    go_wp2
    go_ret
    exact ⟨rfl, hb1⟩
  · have g0 : decide (r < 0) = false := by simp; omega
    obtain ⟨ht, hf2⟩ := hr.out c
    have hl2 : ss.length ≤ 1048576 := by omega
    have hat : Hid (∀ i, i < ss.length → (legAt ss i).size ≤ 1048576) := fun i _ => by have := total_at ss i; omega
    clear hr ht
    go_wp2_with fail
    refine (toTripS a ss.length cap ss f n _ (HS.out.kept hb1) hl2).mono ?_
    rintro e w2 ⟨g, hg, rfl, hS2, hb2⟩
    have d2 := btt hb1 hb2
    go_wp2_with fail
    refine (writeS (some ⟨g, 0, none⟩) ss.length ss f n _ hS2 hl2 hat.out hf2).mono ?_
    rintro e w3 ⟨o, rfl, ho, hb3⟩
    have d3 := btt d2 hb3
    obtain ⟨c30, c31, c32⟩ := row3 (((btt hb2 hb3).block _ sz1).trans hA1)
    go_wp2_with fail
    refine (toTripS a ss.length cap ss f n _ (HS.out.kept d3) hl2).mono ?_
    rintro e w4 ⟨g2, hg2, rfl, hS4, hb4⟩
    have d4 := btt d3 hb4
    have hbX : Below w4.heap.size w4 (w4.alloc (.cells #[.slice (some ⟨g2, 0, none⟩) ss.length ss.length, .string f, .int .i64 n] 27)) := (Below.refl _ _).alloc (Nat.le_refl _) _
    have hX := heap_alloc_new w4 (.cells #[.slice (some ⟨g2, 0, none⟩) ss.length ss.length, .string f, .int .i64 n] 27)
    have HbX := Lib.hid hbX
    have HX := Lib.hid hX
    clear hbX hX
    go_wp2_with fail
    refine (writeI (some ⟨g2, 0, none⟩) ss.length ss f n _ (hS4.kept HbX.out) (Nat.le_refl _) hl2 hat.out hf2 (laid_stays HL.out (btt d4 HbX.out))).mono ?_
    rintro e w5 ⟨o2, rfl, ho2, hb5⟩
    obtain rfl := trip_one ho.out ho2.out
    have d5 := btt (btt d4 HbX.out) hb5
    have hX5 := (hb5.block _ (by simp)).trans HX.out
    have szX : w4.heap.size < w5.heap.size := lt_heap hX5
    obtain ⟨c50, c51, c52⟩ := row3 (((btt (btt (btt (btt hb2 hb3) hb4) HbX.out) hb5).block _ sz1).trans hA1)
    obtain ⟨x50, x51, x52⟩ := row3 hX5
    clear ho ho2
    go_wp2_with fail
    go_region_with (first
      | (go_at_call 7; refine (toTripS a ss.length cap ss f n _ (HS.out.kept (belowN d5 1)) hl2).mono ?_; rintro e w6 ⟨g3, hg3, rfl, hS6, hbb6⟩; have hb6 : Below w5.heap.size w5 w6 := (Below.refl _ w5).drew.trans hbb6; obtain ⟨x60, x61, x62⟩ := row3 ((hb6.block _ szX).trans hX5))
      | (go_at_call 9; refine (eqTripS (some ⟨g2, 0, none⟩) (some ⟨g3, 0, none⟩) ss.length ss.length ss.length ss f n _ ((hS4.kept (btt HbX.out hb5)).kept hb6) hS6 hl2).mono ?_; rintro e w7 ⟨rfl, hb7⟩))
    all_goals
      go_wp2
      go_ret
      exact ⟨rfl, btt (btt d5 hb6) hb7⟩
end Go.Proofs.YtldebdoojabboaaDoor
