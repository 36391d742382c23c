/-
  A leg copied by the law, in memory that may be written; such a leg marked, and its marks read.
-/
import Derived.Test.YtbnjmdeabhikkaaLegDropMath
namespace Go.Proofs.Ytbnjmdeabhikkaa
open Go.RowKit
set_option linter.unusedVariables false
set_option linter.unusedSimpArgs false

theorem NumsW.R {B : Nat} {w : World} {a : Option Addr} {len : Nat} {z : Nat → Int} (h : NumsW B w a len z) : NumsR B w.heap.size w a len z := by
  rcases h with h | ⟨g, h1, h2, h3, h4⟩
  · exact .inl h
  · exact .inr ⟨g, h1, h2, h3, h3, h4⟩
def CopyHW (len : Nat) (t c s : Nat → Int) (w : World) (e : Ending) (w' : World) : Prop :=
  ∃ g : Nat, w.heap.size ≤ g ∧ e = .returned (.slice (some ⟨g, 0, none⟩) len len) ∧ HoldsR w.heap.size w'.heap.size w' (some ⟨g, 0, none⟩) len t c s ∧ Below w.heap.size w w'
def CopyLegW (d : LegD) (w : World) (e : Ending) (w' : World) : Prop := ∃ p : LegP, e = .returned (LegV d p) ∧ LegNew w.heap.size w' d p ∧ Below w.heap.size w w'
set_option maxHeartbeats 2000000 in
theorem copyHoldsW (a : Option Addr) (len cap : Nat) (t c s : Nat → Int) (w : World) (h : Holds w a len t c s) (hl : len ≤ 1048576) :
    Calls Try.prog 42 #[.slice a len cap] w (CopyHW len t c s w) := by
  obtain ⟨i0, hi, hz0, hz1, hz2⟩ := info_parts infoHold
  have Hc := Lib.hid h
  clear h
  go_enter Try.func42, Try.ntmps42
  go_wp2_with (at_make; refine wpList_make_full _ rfl _ _ 29 rfl w.heap.size 35 i0 (.agg #[.int .i64 0, .int .i64 0, .int .i64 0]) 3 Try.underlying29 hi hz0 hz1 .i64 .i64 len len len rfl rfl rfl rfl ?_ ?_ ?_ ?_; rw [hz2]; omega; unfold maxLen; omega; exact Nat.le_refl _; intro w1 hown1 hgrow1)
  have hz := hgrow1.size
  have hb1 : Below w.heap.size w w1 := (Below.refl _ _).grown hgrow1 (Nat.le_refl _) (fun k e => by cases e)
  clear hgrow1
  generalize hg : w.heap.size = g at *
  have Hg := Lib.hid hg
  clear hg
  go_loopw [4] (fun i wr => ∃ k : Nat, k ≤ len ∧ i = .int .i64 k ∧ ∃ xs : List Value, wr.ownsRow g 35 3 (.slice (some ⟨g, 0, none⟩) len len) len xs ∧ Hid (∀ j, j < k → xs[j * 3]? = some (.int .i64 (t j)) ∧ xs[j * 3 + 1]? = some (.int .i64 (c j)) ∧ xs[j * 3 + 2]? = some (.int .i64 (s j))) ∧ Below g w wr) (fun i _ => len - (intOf i).toNat)
  case atStart => exact ⟨0, Nat.zero_le _, rfl, _, hown1, fun j hj => by omega, hb1⟩
  case round =>
    obtain ⟨k, hk, rfl, xs, hown, hxs, hb⟩ := hrel
    rcases Nat.lt_or_ge k len with hlt | hge
    · rcases Hc.out with hc | ⟨b, off, rfl, hbl, hcell⟩
      · omega
      · have hbg : b < g := by rw [← Hg.out]; exact hbl
        have c1 : wr.cell? ⟨b, off + k * 3, none⟩ = some (.int .i64 (t k)) := (hb.cell (p := ⟨b, off + k * 3, none⟩) hbg).trans (hcell k hlt).1
        have c2 : wr.cell? ⟨b, off + k * 3 + 1, none⟩ = some (.int .i64 (c k)) := (hb.cell (p := ⟨b, off + k * 3 + 1, none⟩) hbg).trans (hcell k hlt).2.1
        have c3 : wr.cell? ⟨b, off + k * 3 + 2, none⟩ = some (.int .i64 (s k)) := (hb.cell (p := ⟨b, off + k * 3 + 2, none⟩) hbg).trans (hcell k hlt).2.2
        clear hcell
        have hbw := hown.lt g rfl
        go_wp2_with fail
        refine (toHold1 _ _ _ _).mono ?_
        rintro e w2 ⟨rfl, hb2⟩
        have hown2 := hown.kept (below_grown hb2) (Or.inr (by simp [Value.ownBlock]))
        have hb3 : Below g w w2 := hb.trans (hb2.mono (by omega))
        have hx := hown2.1
        obtain ⟨v0, e0⟩ := cell_of (hown2.cellAt (k * 3) (by omega)) (by omega)
        obtain ⟨v1, e1⟩ := cell_of (hown2.cellAt (k * 3 + 1) (by omega)) (by omega)
        obtain ⟨v2, e2⟩ := cell_of (hown2.cellAt (k * 3 + 2) (by omega)) (by omega)
        have f0 := hown2.frozenAt (k * 3)
        have f1 := hown2.frozenAt (k * 3 + 1)
        have f2 := hown2.frozenAt (k * 3 + 2)
        go_wp2
        go_roundw
        case rel =>
          refine ⟨k + 1, by omega, by go_num, ((xs.set (k * 3) (.int .i64 (t k))).set (k * 3 + 1) (.int .i64 (c k))).set (k * 3 + 2) (.int .i64 (s k)), (((hown2.stored (k * 3) _).1.stored (k * 3 + 1) _).1.stored (k * 3 + 2) _).1, fun j hj => ?_, ((hb3.setCell (Nat.le_refl _) _).setCell (Nat.le_refl _) _).setCell (Nat.le_refl _) _⟩
          by_cases e : j = k
          · subst e
            refine ⟨?_, ?_, ?_⟩
            · rw [List.getElem?_set_ne (by omega), List.getElem?_set_ne (by omega), List.getElem?_set_self (by omega)]
            · rw [List.getElem?_set_ne (by omega), List.getElem?_set_self (by simp; omega)]
            · rw [List.getElem?_set_self (by simp; omega)]
          · refine ⟨?_, ?_, ?_⟩
            · rw [List.getElem?_set_ne (by omega), List.getElem?_set_ne (by omega), List.getElem?_set_ne (by omega)]; exact (hxs.out j (by omega)).1
            · rw [List.getElem?_set_ne (by omega), List.getElem?_set_ne (by omega), List.getElem?_set_ne (by omega)]; exact (hxs.out j (by omega)).2.1
            · rw [List.getElem?_set_ne (by omega), List.getElem?_set_ne (by omega), List.getElem?_set_ne (by omega)]; exact (hxs.out j (by omega)).2.2
        case measure => simp [intOf]; omega
    · obtain rfl : k = len := by omega
      go_wp2
      go_ret
      have hlt : g < wr.heap.size := (hown.lt g rfl).2
      have hx := hown.1
      refine ⟨g, by rw [Hg.out]; exact Nat.le_refl _, rfl, Or.inr ⟨g, rfl, by rw [Hg.out]; exact Nat.le_refl _, hlt, hlt, fun i hi => ⟨?_, fun j _ => hown.frozenAt j⟩⟩, by rw [Hg.out]; exact hb⟩
      rw [hown.cellAt (i * 3) (by omega), hown.cellAt (i * 3 + 1) (by omega), hown.cellAt (i * 3 + 2) (by omega)]
      exact hxs.out i hi

set_option maxHeartbeats 8000000 in
theorem toLegW (d : LegD) (p : LegP) (w : World) (h : LegIn w d p) (hf : Fits d) :
    Calls Try.prog 13 #[LegV d p] w (CopyLegW d w) := by
  obtain ⟨nm, fr, to, dep, arr, cap, nL, L, nS, S, nB, B, nH, t, c, s⟩ := d
  obtain ⟨aL, cL, aS, cS, aB, cB, aH, cH⟩ := p
  obtain ⟨f1, f2, f3, f4, f5, f6, f7⟩ := hf
  obtain ⟨i1, i2, i3, i4⟩ := h
  dsimp only at f1 f2 f3 f4 f5 f6 f7 i1 i2 i3 i4
  have I1 := Lib.hid i1
  have I2 := Lib.hid i2
  have I3 := Lib.hid i3
  have I4 := Lib.hid i4
  clear i1 i2 i3 i4
  unfold LegV
  dsimp only
  go_enter Try.func13, Try.ntmps13
  go_wp2_with fail
  have hArg : (((w.alloc (.cells #[Value.string nm, Value.string fr, Value.string to, Value.int IntKind.i64 dep, Value.int IntKind.i64 arr, Value.int IntKind.i64 cap, Value.slice aL nL cL, Value.slice aS nS cS, Value.slice aB nB cB, Value.slice aH nH cH] 25)).alloc (.cells #[.string ⟨#[]⟩, .string ⟨#[]⟩, .string ⟨#[]⟩, .int .i64 0, .int .i64 0, .int .i64 0, .slice none 0 0, .slice none 0 0, .slice none 0 0, .slice none 0 0] 31)).alloc (.cells #[Value.string nm, Value.string fr, Value.string to, Value.int IntKind.i64 dep, Value.int IntKind.i64 arr, Value.int IntKind.i64 cap, Value.slice none 0 0, Value.slice none 0 0, Value.slice none 0 0, Value.slice none 0 0] 31)).heap[w.heap.size]? = some (.cells #[Value.string nm, Value.string fr, Value.string to, Value.int IntKind.i64 dep, Value.int IntKind.i64 arr, Value.int IntKind.i64 cap, Value.slice aL nL cL, Value.slice aS nS cS, Value.slice aB nB cB, Value.slice aH nH cH] 25 (0, 0)) := by
    rw [Lib.alloc_old _ _ _ (by simp only [World.size_alloc]; omega), Lib.alloc_old _ _ _ (by simp only [World.size_alloc]; omega)]
    exact heap_alloc_new w _
  have hRes : (((w.alloc (.cells #[Value.string nm, Value.string fr, Value.string to, Value.int IntKind.i64 dep, Value.int IntKind.i64 arr, Value.int IntKind.i64 cap, Value.slice aL nL cL, Value.slice aS nS cS, Value.slice aB nB cB, Value.slice aH nH cH] 25)).alloc (.cells #[.string ⟨#[]⟩, .string ⟨#[]⟩, .string ⟨#[]⟩, .int .i64 0, .int .i64 0, .int .i64 0, .slice none 0 0, .slice none 0 0, .slice none 0 0, .slice none 0 0] 31)).alloc (.cells #[Value.string nm, Value.string fr, Value.string to, Value.int IntKind.i64 dep, Value.int IntKind.i64 arr, Value.int IntKind.i64 cap, Value.slice none 0 0, Value.slice none 0 0, Value.slice none 0 0, Value.slice none 0 0] 31)).heap[w.heap.size + 1]? = some (.cells #[.string ⟨#[]⟩, .string ⟨#[]⟩, .string ⟨#[]⟩, .int .i64 0, .int .i64 0, .int .i64 0, .slice none 0 0, .slice none 0 0, .slice none 0 0, .slice none 0 0] 31 (0, 0)) := by
    rw [Lib.alloc_old _ _ _ (by simp only [World.size_alloc]; omega)]
    have := heap_alloc_new (w.alloc (.cells #[Value.string nm, Value.string fr, Value.string to, Value.int IntKind.i64 dep, Value.int IntKind.i64 arr, Value.int IntKind.i64 cap, Value.slice aL nL cL, Value.slice aS nS cS, Value.slice aB nB cB, Value.slice aH nH cH] 25)) (.cells #[.string ⟨#[]⟩, .string ⟨#[]⟩, .string ⟨#[]⟩, .int .i64 0, .int .i64 0, .int .i64 0, .slice none 0 0, .slice none 0 0, .slice none 0 0, .slice none 0 0] 31)
    simpa only [World.size_alloc] using this
  have hOut : (((w.alloc (.cells #[Value.string nm, Value.string fr, Value.string to, Value.int IntKind.i64 dep, Value.int IntKind.i64 arr, Value.int IntKind.i64 cap, Value.slice aL nL cL, Value.slice aS nS cS, Value.slice aB nB cB, Value.slice aH nH cH] 25)).alloc (.cells #[.string ⟨#[]⟩, .string ⟨#[]⟩, .string ⟨#[]⟩, .int .i64 0, .int .i64 0, .int .i64 0, .slice none 0 0, .slice none 0 0, .slice none 0 0, .slice none 0 0] 31)).alloc (.cells #[Value.string nm, Value.string fr, Value.string to, Value.int IntKind.i64 dep, Value.int IntKind.i64 arr, Value.int IntKind.i64 cap, Value.slice none 0 0, Value.slice none 0 0, Value.slice none 0 0, Value.slice none 0 0] 31)).heap[w.heap.size + 1 + 1]? = some (.cells #[Value.string nm, Value.string fr, Value.string to, Value.int IntKind.i64 dep, Value.int IntKind.i64 arr, Value.int IntKind.i64 cap, Value.slice none 0 0, Value.slice none 0 0, Value.slice none 0 0, Value.slice none 0 0] 31 (0, 0)) := by
    have := heap_alloc_new ((w.alloc (.cells #[Value.string nm, Value.string fr, Value.string to, Value.int IntKind.i64 dep, Value.int IntKind.i64 arr, Value.int IntKind.i64 cap, Value.slice aL nL cL, Value.slice aS nS cS, Value.slice aB nB cB, Value.slice aH nH cH] 25)).alloc (.cells #[.string ⟨#[]⟩, .string ⟨#[]⟩, .string ⟨#[]⟩, .int .i64 0, .int .i64 0, .int .i64 0, .slice none 0 0, .slice none 0 0, .slice none 0 0, .slice none 0 0] 31)) (.cells #[Value.string nm, Value.string fr, Value.string to, Value.int IntKind.i64 dep, Value.int IntKind.i64 arr, Value.int IntKind.i64 cap, Value.slice none 0 0, Value.slice none 0 0, Value.slice none 0 0, Value.slice none 0 0] 31)
    simpa only [World.size_alloc] using this
  have hAB : Below w.heap.size w (((w.alloc (.cells #[Value.string nm, Value.string fr, Value.string to, Value.int IntKind.i64 dep, Value.int IntKind.i64 arr, Value.int IntKind.i64 cap, Value.slice aL nL cL, Value.slice aS nS cS, Value.slice aB nB cB, Value.slice aH nH cH] 25)).alloc (.cells #[.string ⟨#[]⟩, .string ⟨#[]⟩, .string ⟨#[]⟩, .int .i64 0, .int .i64 0, .int .i64 0, .slice none 0 0, .slice none 0 0, .slice none 0 0, .slice none 0 0] 31)).alloc (.cells #[Value.string nm, Value.string fr, Value.string to, Value.int IntKind.i64 dep, Value.int IntKind.i64 arr, Value.int IntKind.i64 cap, Value.slice none 0 0, Value.slice none 0 0, Value.slice none 0 0, Value.slice none 0 0] 31)) :=
    ((((Below.refl _ _).alloc (Nat.le_refl _) _).alloc (by simp only [World.size_alloc]; omega) _).alloc (by simp only [World.size_alloc]; omega) _)
  generalize (((w.alloc (.cells #[Value.string nm, Value.string fr, Value.string to, Value.int IntKind.i64 dep, Value.int IntKind.i64 arr, Value.int IntKind.i64 cap, Value.slice aL nL cL, Value.slice aS nS cS, Value.slice aB nB cB, Value.slice aH nH cH] 25)).alloc (.cells #[.string ⟨#[]⟩, .string ⟨#[]⟩, .string ⟨#[]⟩, .int .i64 0, .int .i64 0, .int .i64 0, .slice none 0 0, .slice none 0 0, .slice none 0 0, .slice none 0 0] 31)).alloc (.cells #[Value.string nm, Value.string fr, Value.string to, Value.int IntKind.i64 dep, Value.int IntKind.i64 arr, Value.int IntKind.i64 cap, Value.slice none 0 0, Value.slice none 0 0, Value.slice none 0 0, Value.slice none 0 0] 31)) = A at *
  have sA := lt_heap hOut
  have HA0 := Lib.hid hArg
  have HO0 := Lib.hid hOut
  have HR0 := Lib.hid hRes
  have HB0 := Lib.hid hAB
  clear hArg hOut hAB hRes
  have b0w := HB0.out
  refine (copyInts aL nL cL L _ (I1.out.kept b0w) f4).mono ?_
  rintro e w1 ⟨a1, rfl, n1', d1⟩
  have n1 := n1'.R
  have sn1 := d1.size
  clear n1'
  have arg1 := (d1.block _ (by omega)).trans HA0.out
  have out1 := (d1.block _ (by omega)).trans HO0.out
  have bw1 : Below w.heap.size w w1 := HB0.out.trans (d1.mono (HB0.out.size))
  have ca1 : w1.cell? ⟨w.heap.size, 7, none⟩ = some (Value.slice aS nS cS) := by rw [Lib.cell_of_heap arg1]; rfl
  have co1 : w1.cell? ⟨w.heap.size + 1 + 1, 6, none⟩ = some (Value.slice none 0 0) := by rw [Lib.cell_of_heap out1]; rfl
  have cf1 : w1.frozen? ⟨w.heap.size + 1 + 1, 6, none⟩ = false := Lib.frozen_of_heap out1 6
  have arg1' : (w1.setCell ⟨w.heap.size + 1 + 1, 6, none⟩ (Value.slice a1 nL nL)).heap[w.heap.size]? = some (.cells #[Value.string nm, Value.string fr, Value.string to, Value.int IntKind.i64 dep, Value.int IntKind.i64 arr, Value.int IntKind.i64 cap, Value.slice aL nL cL, Value.slice aS nS cS, Value.slice aB nB cB, Value.slice aH nH cH] 25 (0, 0)) := (Below.heap_setCell _ _ _ _ (by show w.heap.size ≠ w.heap.size + 1 + 1; omega)).trans arg1
  have out1' : (w1.setCell ⟨w.heap.size + 1 + 1, 6, none⟩ (Value.slice a1 nL nL)).heap[w.heap.size + 1 + 1]? = some (.cells #[Value.string nm, Value.string fr, Value.string to, Value.int IntKind.i64 dep, Value.int IntKind.i64 arr, Value.int IntKind.i64 cap, Value.slice a1 nL nL, Value.slice none 0 0, Value.slice none 0 0, Value.slice none 0 0] 31 (0, 0)) := by simp [World.setCell, Array.getElem?_modify, out1]
  have bw1' : Below w.heap.size w (w1.setCell ⟨w.heap.size + 1 + 1, 6, none⟩ (Value.slice a1 nL nL)) := bw1.setCell (p := ⟨w.heap.size + 1 + 1, 6, none⟩) (by show w.heap.size ≤ w.heap.size + 1 + 1; omega) _
  have gs1 := grown_set w1 ⟨w.heap.size + 1 + 1, 6, none⟩ (Value.slice a1 nL nL)
  have n1' := n1.far gs1 (fun k e => by cases e; left; show w.heap.size + 1 + 1 < _; omega)
  have ssz1 : w1.heap.size ≤ (w1.setCell ⟨w.heap.size + 1 + 1, 6, none⟩ (Value.slice a1 nL nL)).heap.size := gs1.size
  have szz1 := d1.size
  have res1' : (w1.setCell ⟨w.heap.size + 1 + 1, 6, none⟩ (Value.slice a1 nL nL)).heap[w.heap.size + 1]? = some (.cells #[.string ⟨#[]⟩, .string ⟨#[]⟩, .string ⟨#[]⟩, .int .i64 0, .int .i64 0, .int .i64 0, .slice none 0 0, .slice none 0 0, .slice none 0 0, .slice none 0 0] 31 (0, 0)) := (Below.heap_setCell _ _ _ _ (by show w.heap.size + 1 ≠ w.heap.size + 1 + 1; omega)).trans ((d1.block _ (by omega)).trans HR0.out)
  clear arg1 out1 bw1
  go_wp2_with fail
  generalize hW1 : w1.setCell ⟨w.heap.size + 1 + 1, 6, none⟩ (Value.slice a1 nL nL) = W1 at *
  have N1 := Lib.hid n1'
  have HA1 := Lib.hid arg1'
  have HO1 := Lib.hid out1'
  have HR1 := Lib.hid res1'
  clear res1'
  have HB1 := Lib.hid bw1'
  clear n1 n1' arg1' out1' bw1' ca1 co1 cf1 hW1 gs1 b0w
  have b1w := HB1.out
  refine (copyInts aS nS cS S _ (I2.out.kept b1w) f5).mono ?_
  rintro e w2 ⟨a2, rfl, n2', d2⟩
  have n2 := n2'.R
  have sn2 := d2.size
  clear n2'
  have arg2 := (d2.block _ (by omega)).trans HA1.out
  have out2 := (d2.block _ (by omega)).trans HO1.out
  have bw2 : Below w.heap.size w w2 := HB1.out.trans (d2.mono (HB1.out.size))
  have ca2 : w2.cell? ⟨w.heap.size, 8, none⟩ = some (Value.slice aB nB cB) := by rw [Lib.cell_of_heap arg2]; rfl
  have co2 : w2.cell? ⟨w.heap.size + 1 + 1, 7, none⟩ = some (Value.slice none 0 0) := by rw [Lib.cell_of_heap out2]; rfl
  have cf2 : w2.frozen? ⟨w.heap.size + 1 + 1, 7, none⟩ = false := Lib.frozen_of_heap out2 7
  have arg2' : (w2.setCell ⟨w.heap.size + 1 + 1, 7, none⟩ (Value.slice a2 nS nS)).heap[w.heap.size]? = some (.cells #[Value.string nm, Value.string fr, Value.string to, Value.int IntKind.i64 dep, Value.int IntKind.i64 arr, Value.int IntKind.i64 cap, Value.slice aL nL cL, Value.slice aS nS cS, Value.slice aB nB cB, Value.slice aH nH cH] 25 (0, 0)) := (Below.heap_setCell _ _ _ _ (by show w.heap.size ≠ w.heap.size + 1 + 1; omega)).trans arg2
  have out2' : (w2.setCell ⟨w.heap.size + 1 + 1, 7, none⟩ (Value.slice a2 nS nS)).heap[w.heap.size + 1 + 1]? = some (.cells #[Value.string nm, Value.string fr, Value.string to, Value.int IntKind.i64 dep, Value.int IntKind.i64 arr, Value.int IntKind.i64 cap, Value.slice a1 nL nL, Value.slice a2 nS nS, Value.slice none 0 0, Value.slice none 0 0] 31 (0, 0)) := by simp [World.setCell, Array.getElem?_modify, out2]
  have bw2' : Below w.heap.size w (w2.setCell ⟨w.heap.size + 1 + 1, 7, none⟩ (Value.slice a2 nS nS)) := bw2.setCell (p := ⟨w.heap.size + 1 + 1, 7, none⟩) (by show w.heap.size ≤ w.heap.size + 1 + 1; omega) _
  have gs2 := grown_set w2 ⟨w.heap.size + 1 + 1, 7, none⟩ (Value.slice a2 nS nS)
  have n1_1 := (N1.out.far (toGr d2) (fun k e => by cases e)).far gs2 (fun k e => by cases e; left; show w.heap.size + 1 + 1 < _; omega)
  have n2' := n2.far gs2 (fun k e => by cases e; left; show w.heap.size + 1 + 1 < _; omega)
  have ssz2 : w2.heap.size ≤ (w2.setCell ⟨w.heap.size + 1 + 1, 7, none⟩ (Value.slice a2 nS nS)).heap.size := gs2.size
  have szz2 := d2.size
  have res2' : (w2.setCell ⟨w.heap.size + 1 + 1, 7, none⟩ (Value.slice a2 nS nS)).heap[w.heap.size + 1]? = some (.cells #[.string ⟨#[]⟩, .string ⟨#[]⟩, .string ⟨#[]⟩, .int .i64 0, .int .i64 0, .int .i64 0, .slice none 0 0, .slice none 0 0, .slice none 0 0, .slice none 0 0] 31 (0, 0)) := (Below.heap_setCell _ _ _ _ (by show w.heap.size + 1 ≠ w.heap.size + 1 + 1; omega)).trans ((d2.block _ (by omega)).trans HR1.out)
  clear arg2 out2 bw2
  go_wp2_with fail
  generalize hW2 : w2.setCell ⟨w.heap.size + 1 + 1, 7, none⟩ (Value.slice a2 nS nS) = W2 at *
  clear N1
  have N1 := Lib.hid n1_1
  clear n1_1
  have N2 := Lib.hid n2'
  have HA2 := Lib.hid arg2'
  have HO2 := Lib.hid out2'
  have HR2 := Lib.hid res2'
  clear res2'
  have HB2 := Lib.hid bw2'
  clear n2 n2' arg2' out2' bw2' ca2 co2 cf2 hW2 gs2 b1w
  have b2w := HB2.out
  refine (copyInts aB nB cB B _ (I3.out.kept b2w) f6).mono ?_
  rintro e w3 ⟨a3, rfl, n3', d3⟩
  have n3 := n3'.R
  have sn3 := d3.size
  clear n3'
  have arg3 := (d3.block _ (by omega)).trans HA2.out
  have out3 := (d3.block _ (by omega)).trans HO2.out
  have bw3 : Below w.heap.size w w3 := HB2.out.trans (d3.mono (HB2.out.size))
  have ca3 : w3.cell? ⟨w.heap.size, 9, none⟩ = some (Value.slice aH nH cH) := by rw [Lib.cell_of_heap arg3]; rfl
  have co3 : w3.cell? ⟨w.heap.size + 1 + 1, 8, none⟩ = some (Value.slice none 0 0) := by rw [Lib.cell_of_heap out3]; rfl
  have cf3 : w3.frozen? ⟨w.heap.size + 1 + 1, 8, none⟩ = false := Lib.frozen_of_heap out3 8
  have arg3' : (w3.setCell ⟨w.heap.size + 1 + 1, 8, none⟩ (Value.slice a3 nB nB)).heap[w.heap.size]? = some (.cells #[Value.string nm, Value.string fr, Value.string to, Value.int IntKind.i64 dep, Value.int IntKind.i64 arr, Value.int IntKind.i64 cap, Value.slice aL nL cL, Value.slice aS nS cS, Value.slice aB nB cB, Value.slice aH nH cH] 25 (0, 0)) := (Below.heap_setCell _ _ _ _ (by show w.heap.size ≠ w.heap.size + 1 + 1; omega)).trans arg3
  have out3' : (w3.setCell ⟨w.heap.size + 1 + 1, 8, none⟩ (Value.slice a3 nB nB)).heap[w.heap.size + 1 + 1]? = some (.cells #[Value.string nm, Value.string fr, Value.string to, Value.int IntKind.i64 dep, Value.int IntKind.i64 arr, Value.int IntKind.i64 cap, Value.slice a1 nL nL, Value.slice a2 nS nS, Value.slice a3 nB nB, Value.slice none 0 0] 31 (0, 0)) := by simp [World.setCell, Array.getElem?_modify, out3]
  have bw3' : Below w.heap.size w (w3.setCell ⟨w.heap.size + 1 + 1, 8, none⟩ (Value.slice a3 nB nB)) := bw3.setCell (p := ⟨w.heap.size + 1 + 1, 8, none⟩) (by show w.heap.size ≤ w.heap.size + 1 + 1; omega) _
  have gs3 := grown_set w3 ⟨w.heap.size + 1 + 1, 8, none⟩ (Value.slice a3 nB nB)
  have n1_2 := (N1.out.far (toGr d3) (fun k e => by cases e)).far gs3 (fun k e => by cases e; left; show w.heap.size + 1 + 1 < _; omega)
  have n2_2 := (N2.out.far (toGr d3) (fun k e => by cases e)).far gs3 (fun k e => by cases e; left; show w.heap.size + 1 + 1 < _; omega)
  have n3' := n3.far gs3 (fun k e => by cases e; left; show w.heap.size + 1 + 1 < _; omega)
  have ssz3 : w3.heap.size ≤ (w3.setCell ⟨w.heap.size + 1 + 1, 8, none⟩ (Value.slice a3 nB nB)).heap.size := gs3.size
  have szz3 := d3.size
  have res3' : (w3.setCell ⟨w.heap.size + 1 + 1, 8, none⟩ (Value.slice a3 nB nB)).heap[w.heap.size + 1]? = some (.cells #[.string ⟨#[]⟩, .string ⟨#[]⟩, .string ⟨#[]⟩, .int .i64 0, .int .i64 0, .int .i64 0, .slice none 0 0, .slice none 0 0, .slice none 0 0, .slice none 0 0] 31 (0, 0)) := (Below.heap_setCell _ _ _ _ (by show w.heap.size + 1 ≠ w.heap.size + 1 + 1; omega)).trans ((d3.block _ (by omega)).trans HR2.out)
  clear arg3 out3 bw3
  go_wp2_with fail
  generalize hW3 : w3.setCell ⟨w.heap.size + 1 + 1, 8, none⟩ (Value.slice a3 nB nB) = W3 at *
  clear N1
  have N1 := Lib.hid n1_2
  clear n1_2
  clear N2
  have N2 := Lib.hid n2_2
  clear n2_2
  have N3 := Lib.hid n3'
  have HA3 := Lib.hid arg3'
  have HO3 := Lib.hid out3'
  have HR3 := Lib.hid res3'
  clear res3'
  have HB3 := Lib.hid bw3'
  clear n3 n3' arg3' out3' bw3' ca3 co3 cf3 hW3 gs3 b2w
  have b3w := HB3.out
  refine (copyHoldsW aH nH cH t c s _ (I4.out.kept b3w) f7).mono ?_
  rintro e w4 ⟨g4, hg4, rfl, h4, d4⟩
  have out4 := (d4.block _ (by omega)).trans HO3.out
  have bw4 : Below w.heap.size w w4 := HB3.out.trans (d4.mono (HB3.out.size))
  have co4 : w4.cell? ⟨w.heap.size + 1 + 1, 9, none⟩ = some (Value.slice none 0 0) := by rw [Lib.cell_of_heap out4]; rfl
  have cf4 : w4.frozen? ⟨w.heap.size + 1 + 1, 9, none⟩ = false := Lib.frozen_of_heap out4 9
  have out4' : (w4.setCell ⟨w.heap.size + 1 + 1, 9, none⟩ (Value.slice (some ⟨g4, 0, none⟩) nH nH)).heap[w.heap.size + 1 + 1]? = some (.cells #[Value.string nm, Value.string fr, Value.string to, Value.int IntKind.i64 dep, Value.int IntKind.i64 arr, Value.int IntKind.i64 cap, Value.slice a1 nL nL, Value.slice a2 nS nS, Value.slice a3 nB nB, Value.slice (some ⟨g4, 0, none⟩) nH nH] 31 (0, 0)) := by simp [World.setCell, Array.getElem?_modify, out4]
  have bw4' : Below w.heap.size w (w4.setCell ⟨w.heap.size + 1 + 1, 9, none⟩ (Value.slice (some ⟨g4, 0, none⟩) nH nH)) := bw4.setCell (p := ⟨w.heap.size + 1 + 1, 9, none⟩) (by show w.heap.size ≤ w.heap.size + 1 + 1; omega) _
  have gs4 := grown_set w4 ⟨w.heap.size + 1 + 1, 9, none⟩ (Value.slice (some ⟨g4, 0, none⟩) nH nH)
  have HSZ4 := Lib.hid gs4.size
  have HZZ4 := Lib.hid d4.size
  have m1 := (N1.out.far (toGr d4) (fun k e => by cases e)).far gs4 (fun k e => by cases e; left; show w.heap.size + 1 + 1 < _; omega)
  have m2 := (N2.out.far (toGr d4) (fun k e => by cases e)).far gs4 (fun k e => by cases e; left; show w.heap.size + 1 + 1 < _; omega)
  have m3 := (N3.out.far (toGr d4) (fun k e => by cases e)).far gs4 (fun k e => by cases e; left; show w.heap.size + 1 + 1 < _; omega)
  have m4 := h4.far gs4 (fun k e => by cases e; left; show w.heap.size + 1 + 1 < _; omega)
  have z0 : w4.cell? ⟨w.heap.size + 1 + 1, 0, none⟩ = some (Value.string nm) := by rw [Lib.cell_of_heap out4]; rfl
  have z1 : w4.cell? ⟨w.heap.size + 1 + 1, 1, none⟩ = some (Value.string fr) := by rw [Lib.cell_of_heap out4]; rfl
  have z2 : w4.cell? ⟨w.heap.size + 1 + 1, 2, none⟩ = some (Value.string to) := by rw [Lib.cell_of_heap out4]; rfl
  have z3 : w4.cell? ⟨w.heap.size + 1 + 1, 3, none⟩ = some (Value.int IntKind.i64 dep) := by rw [Lib.cell_of_heap out4]; rfl
  have z4 : w4.cell? ⟨w.heap.size + 1 + 1, 4, none⟩ = some (Value.int IntKind.i64 arr) := by rw [Lib.cell_of_heap out4]; rfl
  have z5 : w4.cell? ⟨w.heap.size + 1 + 1, 5, none⟩ = some (Value.int IntKind.i64 cap) := by rw [Lib.cell_of_heap out4]; rfl
  have z6 : w4.cell? ⟨w.heap.size + 1 + 1, 6, none⟩ = some (Value.slice a1 nL nL) := by rw [Lib.cell_of_heap out4]; rfl
  have z7 : w4.cell? ⟨w.heap.size + 1 + 1, 7, none⟩ = some (Value.slice a2 nS nS) := by rw [Lib.cell_of_heap out4]; rfl
  have z8 : w4.cell? ⟨w.heap.size + 1 + 1, 8, none⟩ = some (Value.slice a3 nB nB) := by rw [Lib.cell_of_heap out4]; rfl
  have res4 : (w4.setCell ⟨w.heap.size + 1 + 1, 9, none⟩ (Value.slice (some ⟨g4, 0, none⟩) nH nH)).heap[w.heap.size + 1]? = some (.cells #[.string ⟨#[]⟩, .string ⟨#[]⟩, .string ⟨#[]⟩, .int .i64 0, .int .i64 0, .int .i64 0, .slice none 0 0, .slice none 0 0, .slice none 0 0, .slice none 0 0] 31 (0, 0)) := (Below.heap_setCell _ _ _ _ (by show w.heap.size + 1 ≠ w.heap.size + 1 + 1; omega)).trans ((d4.block _ (by omega)).trans HR3.out)
  clear out4 bw4
  have one4 : (#[Value.string nm, Value.string fr, Value.string to, Value.int IntKind.i64 dep, Value.int IntKind.i64 arr, Value.int IntKind.i64 cap, Value.slice a1 nL nL, Value.slice a2 nS nS, Value.slice a3 nB nB, Value.slice (some ⟨g4, 0, none⟩) nH nH] : Array Value).all (·.oneCell') = true := by simp [Value.oneCell']
  go_wp2_with (first
    | (refine wpList_store_row rfl 31 _ _ rfl (w.heap.size + 1) #[Value.string nm, Value.string fr, Value.string to, Value.int IntKind.i64 dep, Value.int IntKind.i64 arr, Value.int IntKind.i64 cap, Value.slice a1 nL nL, Value.slice a2 nS nS, Value.slice a3 nB nB, Value.slice (some ⟨g4, 0, none⟩) nH nH] rfl rfl 31 #[.string ⟨#[]⟩, .string ⟨#[]⟩, .string ⟨#[]⟩, .int .i64 0, .int .i64 0, .int .i64 0, .slice none 0 0, .slice none 0 0, .slice none 0 0, .slice none 0 0] res4 legSize rfl one4 ?_)
    | fail)
  generalize w4.setCell ⟨w.heap.size + 1 + 1, 9, none⟩ (Value.slice (some ⟨g4, 0, none⟩) nH nH) = W4 at *
  clear co4 cf4 z0 z1 z2 z3 z4 z5 z6 z7 z8
  have hfin := setRow_heap W4 (w.heap.size + 1) _ #[Value.string nm, Value.string fr, Value.string to, Value.int IntKind.i64 dep, Value.int IntKind.i64 arr, Value.int IntKind.i64 cap, Value.slice a1 nL nL, Value.slice a2 nS nS, Value.slice a3 nB nB, Value.slice (some ⟨g4, 0, none⟩) nH nH] _ _ res4
  have ssz4 := HSZ4.out
  have szz4 := HZZ4.out
  have gr := grown_setRow W4 (w.heap.size + 1) #[Value.string nm, Value.string fr, Value.string to, Value.int IntKind.i64 dep, Value.int IntKind.i64 arr, Value.int IntKind.i64 cap, Value.slice a1 nL nL, Value.slice a2 nS nS, Value.slice a3 nB nB, Value.slice (some ⟨g4, 0, none⟩) nH nH]
  have l1 := m1.far gr (fun k e => by cases e; left; omega)
  have l2 := m2.far gr (fun k e => by cases e; left; omega)
  have l3 := m3.far gr (fun k e => by cases e; left; omega)
  have l4 := m4.far gr (fun k e => by cases e; left; omega)
  have szr := gr.size
  have bfin : Below w.heap.size w (W4.setRow (w.heap.size + 1) #[Value.string nm, Value.string fr, Value.string to, Value.int IntKind.i64 dep, Value.int IntKind.i64 arr, Value.int IntKind.i64 cap, Value.slice a1 nL nL, Value.slice a2 nS nS, Value.slice a3 nB nB, Value.slice (some ⟨g4, 0, none⟩) nH nH]) := bw4'.grown gr bw4'.size (fun k e => by cases e; omega)
  generalize W4.setRow (w.heap.size + 1) #[Value.string nm, Value.string fr, Value.string to, Value.int IntKind.i64 dep, Value.int IntKind.i64 arr, Value.int IntKind.i64 cap, Value.slice a1 nL nL, Value.slice a2 nS nS, Value.slice a3 nB nB, Value.slice (some ⟨g4, 0, none⟩) nH nH] = W5 at *
  have z0 : W5.cell? ⟨w.heap.size + 1, 0, none⟩ = some (Value.string nm) := by rw [Lib.cell_of_heap hfin]; rfl
  have z1 : W5.cell? ⟨w.heap.size + 1, 1, none⟩ = some (Value.string fr) := by rw [Lib.cell_of_heap hfin]; rfl
  have z2 : W5.cell? ⟨w.heap.size + 1, 2, none⟩ = some (Value.string to) := by rw [Lib.cell_of_heap hfin]; rfl
  have z3 : W5.cell? ⟨w.heap.size + 1, 3, none⟩ = some (Value.int IntKind.i64 dep) := by rw [Lib.cell_of_heap hfin]; rfl
  have z4 : W5.cell? ⟨w.heap.size + 1, 4, none⟩ = some (Value.int IntKind.i64 arr) := by rw [Lib.cell_of_heap hfin]; rfl
  have z5 : W5.cell? ⟨w.heap.size + 1, 5, none⟩ = some (Value.int IntKind.i64 cap) := by rw [Lib.cell_of_heap hfin]; rfl
  have z6 : W5.cell? ⟨w.heap.size + 1, 6, none⟩ = some (Value.slice a1 nL nL) := by rw [Lib.cell_of_heap hfin]; rfl
  have z7 : W5.cell? ⟨w.heap.size + 1, 7, none⟩ = some (Value.slice a2 nS nS) := by rw [Lib.cell_of_heap hfin]; rfl
  have z8 : W5.cell? ⟨w.heap.size + 1, 8, none⟩ = some (Value.slice a3 nB nB) := by rw [Lib.cell_of_heap hfin]; rfl
  have z9 : W5.cell? ⟨w.heap.size + 1, 9, none⟩ = some (Value.slice (some ⟨g4, 0, none⟩) nH nH) := by rw [Lib.cell_of_heap hfin]; rfl
  have new : LegNew w.heap.size W5 ⟨nm, fr, to, dep, arr, cap, nL, L, nS, S, nB, B, nH, t, c, s⟩ ⟨a1, nL, a2, nS, a3, nB, some ⟨g4, 0, none⟩, nH⟩ := by
    refine ⟨⟨Nat.le_refl _, Nat.le_refl _, Nat.le_refl _, Nat.le_refl _⟩, w1.heap.size, w2.heap.size, w3.heap.size, w4.heap.size, ?_, ?_, ?_, ?_, ?_, l1.mono ?_ ?_, l2.mono ?_ ?_, l3.mono ?_ ?_, l4.mono ?_ ?_⟩ <;> omega
  refine bodyPost_ret (v := .agg #[Value.string nm, Value.string fr, Value.string to, Value.int IntKind.i64 dep, Value.int IntKind.i64 arr, Value.int IntKind.i64 cap, Value.slice a1 nL nL, Value.slice a2 nS nS, Value.slice a3 nB nB, Value.slice (some ⟨g4, 0, none⟩) nH nH]) ?_ rfl ⟨⟨a1, nL, a2, nS, a3, nB, some ⟨g4, 0, none⟩, nH⟩, rfl, new, bfin⟩
  rw [results_cell1 rfl]
  go_simp

end Go.Proofs.Ytbnjmdeabhikkaa
