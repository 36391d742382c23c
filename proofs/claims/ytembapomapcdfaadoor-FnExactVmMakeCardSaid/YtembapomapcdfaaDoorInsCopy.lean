/-
  A copy of a program.
-/
import Derived.Test.YtembapomapcdfaaDoorIns
namespace Go.Proofs.YtembapomapcdfaaDoor
open Go.RowKit
set_option linter.unusedVariables false
set_option linter.unusedSimpArgs false

theorem insSize : (Tryd.prog.info? 61).map (·.size) = some 4 := by kernel_rfl
theorem infoIns : (Tryd.prog.info? 61).map (fun i => (i.zero, i.size, i.bytes)) = some (some (.agg #[.int .i64 0, .int .i64 0, .string ⟨#[]⟩, .slice none 0 0]), 4, 56) := by kernel_rfl
theorem plsN_of {N : Nat → Prop} {w : World} {b off : Nat} {ds : List Pl} (hN : N b) (hb : b < w.heap.size) (h : ∀ j, (hj : j < ds.length) → ∃ f, CellsI w b (off + j * 4) f ∧ PlF N w ds[j] f) : PlsN N w (some ⟨b, off, none⟩) ds.length ds := ⟨rfl, Or.inr ⟨b, off, rfl, hN, hb, h⟩⟩
def CopyI (d : Pl) (w : World) (e : Ending) (w' : World) : Prop := ∃ f : FI, e = .returned f.val ∧ PlF (fun b => w.heap.size ≤ b) w' d f ∧ Below w.heap.size w w'
def CopyIs (ds : List Pl) (w : World) (e : Ending) (w' : World) : Prop := ∃ g : Nat, w.heap.size ≤ g ∧ e = .returned (.slice (some ⟨g, 0, none⟩) ds.length ds.length) ∧ PlsN (fun b => w.heap.size ≤ b) w' (some ⟨g, 0, none⟩) ds.length ds ∧ Below w.heap.size w w'
set_option maxHeartbeats 8000000 in
theorem toPl (d : Pl) (f : FI) (w : World) (h : PlF All w d f) (hs : SmallP d) : Calls Tryd.prog 56 #[f.val] w (CopyI d w) := by
  obtain ⟨e1, e2, e3, hm, hc2⟩ := h
  obtain ⟨o, n, s, ms⟩ := d
  obtain ⟨fo, fn, fs, ma, ml, mc⟩ := f
  dsimp only at e1 e2 e3 hm hc2
  have q1 := e1.symm
  have q2 := e2.symm
  have q3 := e3.symm
  clear e1 e2 e3
  subst q1 q2 q3
  obtain rfl := hm.1
  have hml : ms.length ≤ 1048576 := hs.2
  have HM := Lib.hid hm
  clear hm hs
  unfold FI.val
  dsimp only
  go_enter Tryd.func56, Tryd.ntmps56
  go_wp2_with fail
  have hArg : (((w.alloc (.cells #[Value.int IntKind.i64 o, Value.int IntKind.i64 n, Value.string s, Value.slice ma ms.length mc] 67)).alloc (.cells #[.int .i64 0, .int .i64 0, .string ⟨#[]⟩, .slice none 0 0] 61)).alloc (.cells #[Value.int IntKind.i64 o, Value.int IntKind.i64 n, Value.string s, .slice none 0 0] 61)).heap[w.heap.size]? = some (.cells #[Value.int IntKind.i64 o, Value.int IntKind.i64 n, Value.string s, Value.slice ma ms.length mc] 67 (0, 0)) := by
    rw [Lib.alloc_old _ _ _ (by simp only [World.size_alloc]; omega), Lib.alloc_old _ _ _ (by simp only [World.size_alloc]; omega)]
    exact heap_alloc_new w _
  have hRes : (((w.alloc (.cells #[Value.int IntKind.i64 o, Value.int IntKind.i64 n, Value.string s, Value.slice ma ms.length mc] 67)).alloc (.cells #[.int .i64 0, .int .i64 0, .string ⟨#[]⟩, .slice none 0 0] 61)).alloc (.cells #[Value.int IntKind.i64 o, Value.int IntKind.i64 n, Value.string s, .slice none 0 0] 61)).heap[w.heap.size + 1]? = some (.cells #[.int .i64 0, .int .i64 0, .string ⟨#[]⟩, .slice none 0 0] 61 (0, 0)) := by
    rw [Lib.alloc_old _ _ _ (by simp only [World.size_alloc]; omega)]
    have := heap_alloc_new (w.alloc (.cells #[Value.int IntKind.i64 o, Value.int IntKind.i64 n, Value.string s, Value.slice ma ms.length mc] 67)) (.cells #[.int .i64 0, .int .i64 0, .string ⟨#[]⟩, .slice none 0 0] 61)
    simpa only [World.size_alloc] using this
  have hOut : (((w.alloc (.cells #[Value.int IntKind.i64 o, Value.int IntKind.i64 n, Value.string s, Value.slice ma ms.length mc] 67)).alloc (.cells #[.int .i64 0, .int .i64 0, .string ⟨#[]⟩, .slice none 0 0] 61)).alloc (.cells #[Value.int IntKind.i64 o, Value.int IntKind.i64 n, Value.string s, .slice none 0 0] 61)).heap[w.heap.size + 1 + 1]? = some (.cells #[Value.int IntKind.i64 o, Value.int IntKind.i64 n, Value.string s, .slice none 0 0] 61 (0, 0)) := by
    have := heap_alloc_new ((w.alloc (.cells #[Value.int IntKind.i64 o, Value.int IntKind.i64 n, Value.string s, Value.slice ma ms.length mc] 67)).alloc (.cells #[.int .i64 0, .int .i64 0, .string ⟨#[]⟩, .slice none 0 0] 61)) (.cells #[Value.int IntKind.i64 o, Value.int IntKind.i64 n, Value.string s, .slice none 0 0] 61)
    simpa only [World.size_alloc] using this
  have hAB : Below w.heap.size w (((w.alloc (.cells #[Value.int IntKind.i64 o, Value.int IntKind.i64 n, Value.string s, Value.slice ma ms.length mc] 67)).alloc (.cells #[.int .i64 0, .int .i64 0, .string ⟨#[]⟩, .slice none 0 0] 61)).alloc (.cells #[Value.int IntKind.i64 o, Value.int IntKind.i64 n, Value.string s, .slice none 0 0] 61)) :=
    ((((Below.refl _ _).alloc (Nat.le_refl _) _).alloc (by simp only [World.size_alloc]; omega) _).alloc (by simp only [World.size_alloc]; omega) _)
  generalize (((w.alloc (.cells #[Value.int IntKind.i64 o, Value.int IntKind.i64 n, Value.string s, Value.slice ma ms.length mc] 67)).alloc (.cells #[.int .i64 0, .int .i64 0, .string ⟨#[]⟩, .slice none 0 0] 61)).alloc (.cells #[Value.int IntKind.i64 o, Value.int IntKind.i64 n, Value.string s, .slice none 0 0] 61)) = W0 at *
  have sA := lt_heapT hOut
  have HA0 := Lib.hid hArg
  have HO0 := Lib.hid hOut
  have HR0 := Lib.hid hRes
  have HB0 := Lib.hid hAB
  clear hArg hOut hAB hRes
  have bw0 := HB0.out
  refine (copyMarks ma ms.length mc (mF ms) (mP ms) _ (marks_of_N (HM.out.kept (same_of_below bw0))) hml).mono ?_
  rintro e w1 ⟨g1, hg1, rfl, hr1, d1⟩
  have out1 := (d1.block _ (by omega)).trans HO0.out
  have bww1 : Below w.heap.size w w1 := HB0.out.trans (d1.mono (HB0.out.size))
  have co1 : w1.cell? ⟨w.heap.size + 1 + 1, 3, none⟩ = some (.slice none 0 0) := by rw [Lib.cell_of_heap out1]; rfl
  have cf1 : w1.frozen? ⟨w.heap.size + 1 + 1, 3, none⟩ = false := Lib.frozen_of_heap out1 3
  have out1' : (w1.setCell ⟨w.heap.size + 1 + 1, 3, none⟩ (Value.slice (some ⟨g1, 0, none⟩) ms.length ms.length)).heap[w.heap.size + 1 + 1]? = some (.cells #[Value.int IntKind.i64 o, Value.int IntKind.i64 n, Value.string s, Value.slice (some ⟨g1, 0, none⟩) ms.length ms.length] 61 (0, 0)) := by simp [World.setCell, Array.getElem?_modify, out1]
  have bw1' : Below w.heap.size w (w1.setCell ⟨w.heap.size + 1 + 1, 3, none⟩ (Value.slice (some ⟨g1, 0, none⟩) ms.length ms.length)) := bww1.setCell (p := ⟨w.heap.size + 1 + 1, 3, none⟩) (by show w.heap.size ≤ w.heap.size + 1 + 1; omega) _
  have gs1 := grown_set w1 ⟨w.heap.size + 1 + 1, 3, none⟩ (Value.slice (some ⟨g1, 0, none⟩) ms.length ms.length)
  have sm1 : Same (fun b => w.heap.size + 3 ≤ b) w1 (w1.setCell ⟨w.heap.size + 1 + 1, 3, none⟩ (Value.slice (some ⟨g1, 0, none⟩) ms.length ms.length)) := same_grown gs1 (fun b hb e => by have : b = w.heap.size + 1 + 1 := e; omega)
  have szz1 := d1.size
  have ssz1 : w1.heap.size ≤ (w1.setCell ⟨w.heap.size + 1 + 1, 3, none⟩ (Value.slice (some ⟨g1, 0, none⟩) ms.length ms.length)).heap.size := gs1.size
  have res1' : (w1.setCell ⟨w.heap.size + 1 + 1, 3, none⟩ (Value.slice (some ⟨g1, 0, none⟩) ms.length ms.length)).heap[w.heap.size + 1]? = some (.cells #[.int .i64 0, .int .i64 0, .string ⟨#[]⟩, .slice none 0 0] 61 (0, 0)) := (Below.heap_setCell _ _ _ _ (by show w.heap.size + 1 ≠ w.heap.size + 1 + 1; omega)).trans ((d1.block _ (by omega)).trans HR0.out)
  have F0 := Lib.hid ((marksN_of (N := fun b => w.heap.size + 3 ≤ b) hr1 rfl (by omega)).kept sm1)
  have z0 : w1.cell? ⟨w.heap.size + 1 + 1, 0, none⟩ = some (Value.int IntKind.i64 o) := by rw [Lib.cell_of_heap out1]; rfl
  have z1 : w1.cell? ⟨w.heap.size + 1 + 1, 1, none⟩ = some (Value.int IntKind.i64 n) := by rw [Lib.cell_of_heap out1]; rfl
  have z2 : w1.cell? ⟨w.heap.size + 1 + 1, 2, none⟩ = some (Value.string s) := by rw [Lib.cell_of_heap out1]; rfl
  clear out1 bww1
  have one : (#[Value.int IntKind.i64 o, Value.int IntKind.i64 n, Value.string s, Value.slice (some ⟨g1, 0, none⟩) ms.length ms.length] : Array Value).all (·.oneCell') = true := by simp [Value.oneCell']
  go_wp2_with (first
    | (refine wpList_store_row rfl 61 _ _ rfl (w.heap.size + 1) #[Value.int IntKind.i64 o, Value.int IntKind.i64 n, Value.string s, Value.slice (some ⟨g1, 0, none⟩) ms.length ms.length] rfl rfl 61 #[.int .i64 0, .int .i64 0, .string ⟨#[]⟩, .slice none 0 0] res1' insSize rfl one ?_)
    | fail)
  generalize w1.setCell ⟨w.heap.size + 1 + 1, 3, none⟩ (Value.slice (some ⟨g1, 0, none⟩) ms.length ms.length) = WS at *
  clear co1 cf1 z0 z1 z2
  have hfin := setRow_heap WS (w.heap.size + 1) _ #[Value.int IntKind.i64 o, Value.int IntKind.i64 n, Value.string s, Value.slice (some ⟨g1, 0, none⟩) ms.length ms.length] _ _ res1'
  have gr := grown_setRowT WS (w.heap.size + 1) #[Value.int IntKind.i64 o, Value.int IntKind.i64 n, Value.string s, Value.slice (some ⟨g1, 0, none⟩) ms.length ms.length]
  have smr : Same (fun b => w.heap.size + 3 ≤ b) WS (WS.setRow (w.heap.size + 1) #[Value.int IntKind.i64 o, Value.int IntKind.i64 n, Value.string s, Value.slice (some ⟨g1, 0, none⟩) ms.length ms.length]) := same_grown gr (fun b hb e => by omega)
  have l0 := F0.out.kept smr
  have bfin : Below w.heap.size w (WS.setRow (w.heap.size + 1) #[Value.int IntKind.i64 o, Value.int IntKind.i64 n, Value.string s, Value.slice (some ⟨g1, 0, none⟩) ms.length ms.length]) := bw1'.grown gr bw1'.size (fun k e => by cases e; omega)
  generalize WS.setRow (w.heap.size + 1) #[Value.int IntKind.i64 o, Value.int IntKind.i64 n, Value.string s, Value.slice (some ⟨g1, 0, none⟩) ms.length ms.length] = WF at *
  have z0 : WF.cell? ⟨w.heap.size + 1, 0, none⟩ = some (Value.int IntKind.i64 o) := by rw [Lib.cell_of_heap hfin]; rfl
  have z1 : WF.cell? ⟨w.heap.size + 1, 1, none⟩ = some (Value.int IntKind.i64 n) := by rw [Lib.cell_of_heap hfin]; rfl
  have z2 : WF.cell? ⟨w.heap.size + 1, 2, none⟩ = some (Value.string s) := by rw [Lib.cell_of_heap hfin]; rfl
  have z3 : WF.cell? ⟨w.heap.size + 1, 3, none⟩ = some (Value.slice (some ⟨g1, 0, none⟩) ms.length ms.length) := by rw [Lib.cell_of_heap hfin]; rfl
  refine bodyPost_ret (v := .agg #[Value.int IntKind.i64 o, Value.int IntKind.i64 n, Value.string s, Value.slice (some ⟨g1, 0, none⟩) ms.length ms.length]) ?_ rfl ⟨⟨o, n, s, some ⟨g1, 0, none⟩, ms.length, ms.length⟩, rfl, ⟨rfl, rfl, rfl, l0.mono (fun b hb => by omega), Nat.le_refl _⟩, bfin⟩
  rw [results_cellM rfl]
  go_simp
def DoneI (g k : Nat) (ds : List Pl) (xs : List Value) (W : World) : Prop := ∀ j, j < k → ∀ hj : j < ds.length, ∃ f : FI, (∀ m, m < 4 → xs[j * 4 + m]? = (#[Value.int .i64 f.op, .int .i64 f.num, .string f.name, .slice f.ma f.ml f.mc] : Array Value)[m]?) ∧ PlF (fun b => g < b) W ds[j] f
set_option maxRecDepth 100000 in
set_option maxHeartbeats 8000000 in
theorem toPls (ds : List Pl) (ih : ∀ t ∈ ds, SmallP t) (a : Option Addr) (n cap : Nat) (w : World) (h : PlsN All w a n ds) (hl : n ≤ 1048576) : Calls Tryd.prog 27 #[.slice a n cap] w (CopyIs ds w) := by
  obtain rfl := h.1
  obtain ⟨i0, hi, hz0, hz1, hz2⟩ := info_parts infoIns
  have Hc := Lib.hid h
  have IH := Lib.hid ih
  clear h ih
  generalize hN : ds.length = n at *
  have HN := Lib.hid hN
  clear hN
  go_enter Tryd.func27, Tryd.ntmps27
  go_wp2_with (at_make; refine wpList_make_full _ rfl _ _ 37 rfl w.heap.size 61 i0 (.agg #[.int .i64 0, .int .i64 0, .string ⟨#[]⟩, .slice none 0 0]) 4 Tryd.underlying37 hi hz0 hz1 .i64 .i64 n n n rfl rfl rfl rfl ?_ ?_ ?_ ?_; rw [hz2]; omega; unfold maxLen; omega; exact Nat.le_refl _; intro w1 hown1 hgrow1)
  have hz := hgrow1.size
  have hb1 : Below w.heap.size w w1 := (Below.refl _ _).grown hgrow1 (Nat.le_refl _) (fun k e => by cases e)
  clear hgrow1
  generalize hg : w.heap.size = g at *
  have Hg := Lib.hid hg
  clear hg
  go_loopw [4] (fun i wr => ∃ k : Nat, k ≤ n ∧ i = .int .i64 k ∧ ∃ xs : List Value, wr.ownsRow g 61 4 (.slice (some ⟨g, 0, none⟩) n n) n xs ∧ Hid (DoneI g k ds xs wr) ∧ Below g w wr) (fun i _ => n - (intOf i).toNat)
  case atStart => exact ⟨0, Nat.zero_le _, rfl, _, hown1, fun j hj => absurd hj (Nat.not_lt_zero _), hb1⟩
  case round =>
    obtain ⟨k, hk, rfl, xs, hown, hxs, hb⟩ := hrel
    rcases Nat.lt_or_ge k n with hlt | hge
    · have hkl : k < ds.length := by rw [HN.out]; exact hlt
      obtain ⟨b, off, rfl, -, hbl, hrow⟩ := (Hc.out.kept (same_of_below (N := All) (by rw [Hg.out]; exact hb))).cells (by omega)
      obtain ⟨f, ⟨y0, y1, y2, y3⟩, ht⟩ := hrow k hkl
      have HT := Lib.hid ht
      have k1 : (k : Int) < n := by omega
      have k0 : (0 : Int) ≤ k := by omega
      have hbw := hown.lt g rfl
      have HOWN := Lib.hid hown
      clear hrow hbl hown ht
      go_wp2_with fail
      refine (toPl ds[k] f wr HT.out (IH.out _ (List.getElem_mem _))).mono ?_
      rintro e w2 ⟨q, rfl, hq, hb2⟩
      clear y0 y1 y2 y3
      have hown2 := HOWN.out.kept (row := none) ⟨hb2.os, hb2.tape, hb2.output, hb2.size, fun i hi _ => hb2.block i hi⟩ (Or.inr (by simp [Value.ownBlock]))
      have hb3 : Below g w w2 := hb.trans (hb2.mono (by omega))
      have hx := hown2.1
      have HOWN2 := Lib.hid hown2
      have HQ := Lib.hid (hq.mono (N' := fun b => g < b) (fun b hb => by omega))
      have HB3 := Lib.hid hb3
      have HS2 : Hid (Same (fun b => g < b) wr w2) := same_of_below hb2
      obtain ⟨v0, e0⟩ := cell_ofM (hown2.cellAt (k * 4) (by omega)) (by omega)
      obtain ⟨v1, e1⟩ := cell_ofM (hown2.cellAt (k * 4 + 1) (by omega)) (by omega)
      obtain ⟨v2, e2⟩ := cell_ofM (hown2.cellAt (k * 4 + 2) (by omega)) (by omega)
      obtain ⟨v3, e3⟩ := cell_ofM (hown2.cellAt (k * 4 + 3) (by omega)) (by omega)
      have f0 := hown2.frozenAt (k * 4)
      have f1 := hown2.frozenAt (k * 4 + 1)
      have f2 := hown2.frozenAt (k * 4 + 2)
      have f3 := hown2.frozenAt (k * 4 + 3)
      have hX := Lib.hid hx
      clear hq hb2 hb3 hown2 hb hx
      unfold FI.val
      go_wp2
      go_roundw
      case rel =>
        refine ⟨k + 1, by omega, by go_num, putL xs (k * 4) [Value.int .i64 q.op, .int .i64 q.num, .string q.name, .slice q.ma q.ml q.mc], own_setL [Value.int .i64 q.op, .int .i64 q.num, .string q.name, .slice q.ma q.ml q.mc] (k * 4) w2 xs HOWN2.out, fun j hj hjl => ?_, below_setL (Nat.le_refl _) [Value.int .i64 q.op, .int .i64 q.num, .string q.name, .slice q.ma q.ml q.mc] (k * 4) w2 HB3.out⟩
        have hgr := grown_setL (g := g) [Value.int .i64 q.op, .int .i64 q.num, .string q.name, .slice q.ma q.ml q.mc] (k * 4) w2
        have hsm := same_grown (N := fun b => g < b) hgr (fun b hb e => by omega)
        by_cases e : j = k
        · subst e
          refine ⟨q, fun m hm => ?_, HQ.out.kept hsm⟩
          rw [putL_at _ _ _ _ (by simpa using hm) (by have := hX.out; simp; omega)]
          simp
        · have hj' : j < k := by omega
          obtain ⟨f', h1, h2⟩ := hxs.out j hj' hjl
          refine ⟨f', fun m hm => ?_, (h2.kept HS2.out).kept hsm⟩
          rw [putL_ne _ _ _ _ (by omega)]
          exact h1 m hm
      case measure => simp [intOf]; omega
    · obtain rfl : k = n := by omega
      have hlt := (hown.lt g rfl).2
      have hx := hown.1
      have hpost : Hid (CopyIs ds w (.returned (.slice (some ⟨g, 0, none⟩) k k)) wr) := by
        refine ⟨g, by rw [Hg.out]; exact Nat.le_refl _, by rw [HN.out], ?_, by rw [Hg.out]; exact hb⟩
        refine plsN_of (b := g) (off := 0) (by rw [Hg.out]; exact Nat.le_refl _) hlt (fun j hj => ?_)
        have hjk : j < k := by rw [← HN.out]; exact hj
        obtain ⟨f, h1, h2⟩ := hxs.out j hjk hj
        refine ⟨f, ⟨?_, ?_, ?_, ?_⟩, h2.mono (fun b hb => by rw [Hg.out]; omega)⟩
        · rw [Nat.zero_add, ← Nat.add_zero (j * 4), hown.cellAt (j * 4 + 0) (by omega)]; exact h1 0 (by decide)
        · rw [Nat.zero_add, hown.cellAt (j * 4 + 1) (by omega)]; exact h1 1 (by decide)
        · rw [Nat.zero_add, hown.cellAt (j * 4 + 2) (by omega)]; exact h1 2 (by decide)
        · rw [Nat.zero_add, hown.cellAt (j * 4 + 3) (by omega)]; exact h1 3 (by decide)
      clear hlt hx hown hxs hb
      go_wp2
      go_ret
      exact hpost.out
end Go.Proofs.YtembapomapcdfaaDoor
