/-
  A copy of a rule, in memory of its own.
-/
import Derived.Test.YtgoaajnppadmjaaGreatDoorRuleBase
import Derived.Test.YtgoaajnppadmjaaGreatDoorPutL
namespace Go.Proofs.YtgoaajnppadmjaaGreatDoor
open Go.RowKit
set_option linter.unusedVariables false
set_option linter.unusedSimpArgs false

theorem lt_heapT {w : World} {b : Nat} {o : Obj} (h : w.heap[b]? = some o) : b < w.heap.size := (Array.getElem?_eq_some_iff.1 h).1
theorem grown_setRowT (w : World) (g : Nat) (cs : Array Value) : w.grownBy (w.setRow g cs) (some g) := ⟨rfl, rfl, rfl, by simp, fun k _ hne => setRow_other w g k cs (by intro e; subst e; exact hne rfl)⟩
theorem RowsT.mono {N N' : Nat → Prop} (hN : ∀ b, N b → N' b) {w : World} {a : Option Addr} {n : Nat} {ks : List Tr} (h : RowsT N w a n ks) : RowsT N' w a n ks := by
  obtain ⟨h1, h2⟩ := h
  refine ⟨h1, ?_⟩
  rcases h2 with h | ⟨b, off, k1, k2, k3, k4⟩
  · exact Or.inl h
  · exact Or.inr ⟨b, off, k1, hN b k2, k3, RowF.mono hN b off ks 0 k4⟩
theorem ruleSize : (Tryz.prog.info? 32).map (·.size) = some 5 := by kernel_rfl
theorem infoRule : (Tryz.prog.info? 32).map (fun i => (i.zero, i.size, i.bytes)) = some (some (.agg #[.int .i64 0, .int .i64 0, .string ⟨#[]⟩, .slice none 0 0, .slice none 0 0]), 5, 80) := by kernel_rfl
def CopyT (t : Tr) (w : World) (e : Ending) (w' : World) : Prop := ∃ f : Fld, e = .returned f.val ∧ TrF (fun b => w.heap.size ≤ b) w' t f ∧ Below w.heap.size w w'
def CopyRow (ks : List Tr) (w : World) (e : Ending) (w' : World) : Prop := ∃ g : Nat, w.heap.size ≤ g ∧ e = .returned (.slice (some ⟨g, 0, none⟩) ks.length ks.length) ∧ RowsT (fun b => w.heap.size ≤ b) w' (some ⟨g, 0, none⟩) ks.length ks ∧ Below w.heap.size w w'
def ToAt (t : Tr) : Prop := ∀ (f : Fld) (w : World), TrF All w t f → Calls Tryz.prog 14 #[f.val] w (CopyT t w)
def ToRowAt (ks : List Tr) : Prop := ∀ (a : Option Addr) (n cap : Nat) (w : World), RowsT All w a n ks → n ≤ 1048576 → Calls Tryz.prog 46 #[.slice a n cap] w (CopyRow ks w)
set_option maxHeartbeats 8000000 in
theorem toRuleN (o n : Int) (s : ByteArray) (ks : List Tr) (ms : List (Int × Int)) (ihk : ToRowAt ks) (hkl : ks.length ≤ 1048576) (hml : ms.length ≤ 1048576) : ToAt (.node o n s ks ms) := by
  intro f w h
  obtain ⟨e1, e2, e3, hm, hk, hc1, hc2⟩ := trF_iff.1 h
  obtain ⟨fo, fn, fs, ka, kl, kc, ma, ml, mc⟩ := f
  dsimp only at e1 e2 e3 hm hk hc1 hc2
  have q1 := e1.symm
  have q2 := e2.symm
  have q3 := e3.symm
  clear e1 e2 e3
  subst q1 q2 q3
  obtain rfl := hk.1
  obtain rfl := hm.1
  have HK := Lib.hid hk
  have HM := Lib.hid hm
  clear h hk hm
  unfold Fld.val
  dsimp only
  go_enter Tryz.func14, Tryz.ntmps14
  go_wp2_with fail
  have hArg : (((w.alloc (.cells #[Value.int IntKind.i64 o, Value.int IntKind.i64 n, Value.string s, Value.slice ka ks.length kc, Value.slice ma ms.length mc] 25)).alloc (.cells #[.int .i64 0, .int .i64 0, .string ⟨#[]⟩, .slice none 0 0, .slice none 0 0] 32)).alloc (.cells #[Value.int IntKind.i64 o, Value.int IntKind.i64 n, Value.string s, .slice none 0 0, .slice none 0 0] 32)).heap[w.heap.size]? = some (.cells #[Value.int IntKind.i64 o, Value.int IntKind.i64 n, Value.string s, Value.slice ka ks.length kc, Value.slice ma ms.length mc] 25 (0, 0)) := by
    rw [Lib.alloc_old _ _ _ (by simp only [World.size_alloc]; omega), Lib.alloc_old _ _ _ (by simp only [World.size_alloc]; omega)]
    exact heap_alloc_new w _
  have hRes : (((w.alloc (.cells #[Value.int IntKind.i64 o, Value.int IntKind.i64 n, Value.string s, Value.slice ka ks.length kc, Value.slice ma ms.length mc] 25)).alloc (.cells #[.int .i64 0, .int .i64 0, .string ⟨#[]⟩, .slice none 0 0, .slice none 0 0] 32)).alloc (.cells #[Value.int IntKind.i64 o, Value.int IntKind.i64 n, Value.string s, .slice none 0 0, .slice none 0 0] 32)).heap[w.heap.size + 1]? = some (.cells #[.int .i64 0, .int .i64 0, .string ⟨#[]⟩, .slice none 0 0, .slice none 0 0] 32 (0, 0)) := by
    rw [Lib.alloc_old _ _ _ (by simp only [World.size_alloc]; omega)]
    have := heap_alloc_new (w.alloc (.cells #[Value.int IntKind.i64 o, Value.int IntKind.i64 n, Value.string s, Value.slice ka ks.length kc, Value.slice ma ms.length mc] 25)) (.cells #[.int .i64 0, .int .i64 0, .string ⟨#[]⟩, .slice none 0 0, .slice none 0 0] 32)
    simpa only [World.size_alloc] using this
  have hOut : (((w.alloc (.cells #[Value.int IntKind.i64 o, Value.int IntKind.i64 n, Value.string s, Value.slice ka ks.length kc, Value.slice ma ms.length mc] 25)).alloc (.cells #[.int .i64 0, .int .i64 0, .string ⟨#[]⟩, .slice none 0 0, .slice none 0 0] 32)).alloc (.cells #[Value.int IntKind.i64 o, Value.int IntKind.i64 n, Value.string s, .slice none 0 0, .slice none 0 0] 32)).heap[w.heap.size + 1 + 1]? = some (.cells #[Value.int IntKind.i64 o, Value.int IntKind.i64 n, Value.string s, .slice none 0 0, .slice none 0 0] 32 (0, 0)) := by
    have := heap_alloc_new ((w.alloc (.cells #[Value.int IntKind.i64 o, Value.int IntKind.i64 n, Value.string s, Value.slice ka ks.length kc, Value.slice ma ms.length mc] 25)).alloc (.cells #[.int .i64 0, .int .i64 0, .string ⟨#[]⟩, .slice none 0 0, .slice none 0 0] 32)) (.cells #[Value.int IntKind.i64 o, Value.int IntKind.i64 n, Value.string s, .slice none 0 0, .slice none 0 0] 32)
    simpa only [World.size_alloc] using this
  have hAB : Below w.heap.size w (((w.alloc (.cells #[Value.int IntKind.i64 o, Value.int IntKind.i64 n, Value.string s, Value.slice ka ks.length kc, Value.slice ma ms.length mc] 25)).alloc (.cells #[.int .i64 0, .int .i64 0, .string ⟨#[]⟩, .slice none 0 0, .slice none 0 0] 32)).alloc (.cells #[Value.int IntKind.i64 o, Value.int IntKind.i64 n, Value.string s, .slice none 0 0, .slice none 0 0] 32)) :=
    ((((Below.refl _ _).alloc (Nat.le_refl _) _).alloc (by simp only [World.size_alloc]; omega) _).alloc (by simp only [World.size_alloc]; omega) _)
  generalize (((w.alloc (.cells #[Value.int IntKind.i64 o, Value.int IntKind.i64 n, Value.string s, Value.slice ka ks.length kc, Value.slice ma ms.length mc] 25)).alloc (.cells #[.int .i64 0, .int .i64 0, .string ⟨#[]⟩, .slice none 0 0, .slice none 0 0] 32)).alloc (.cells #[Value.int IntKind.i64 o, Value.int IntKind.i64 n, Value.string s, .slice none 0 0, .slice none 0 0] 32)) = W0 at *
  have sA := lt_heapT hOut
  have HA0 := Lib.hid hArg
  have HO0 := Lib.hid hOut
  have HR0 := Lib.hid hRes
  have HB0 := Lib.hid hAB
  clear hArg hOut hAB hRes
  have bw0 := HB0.out
  refine (ihk ka ks.length kc _ (HK.out.kept (same_of_below bw0)) hkl).mono ?_
  rintro e w1 ⟨g1, hg1, rfl, hr1, d1⟩
  have arg1 := (d1.block _ (by omega)).trans HA0.out
  have out1 := (d1.block _ (by omega)).trans HO0.out
  have bww1 : Below w.heap.size w w1 := HB0.out.trans (d1.mono (HB0.out.size))
  have ca1 : w1.cell? ⟨w.heap.size, 4, none⟩ = some (Value.slice ma ms.length mc) := by rw [Lib.cell_of_heap arg1]; rfl
  have co1 : w1.cell? ⟨w.heap.size + 1 + 1, 3, none⟩ = some (.slice none 0 0) := by rw [Lib.cell_of_heap out1]; rfl
  have cf1 : w1.frozen? ⟨w.heap.size + 1 + 1, 3, none⟩ = false := Lib.frozen_of_heap out1 3
  have arg1' : (w1.setCell ⟨w.heap.size + 1 + 1, 3, none⟩ (Value.slice (some ⟨g1, 0, none⟩) ks.length ks.length)).heap[w.heap.size]? = some (.cells #[Value.int IntKind.i64 o, Value.int IntKind.i64 n, Value.string s, Value.slice ka ks.length kc, Value.slice ma ms.length mc] 25 (0, 0)) := (Below.heap_setCell _ _ _ _ (by show w.heap.size ≠ w.heap.size + 1 + 1; omega)).trans arg1
  have out1' : (w1.setCell ⟨w.heap.size + 1 + 1, 3, none⟩ (Value.slice (some ⟨g1, 0, none⟩) ks.length ks.length)).heap[w.heap.size + 1 + 1]? = some (.cells #[Value.int IntKind.i64 o, Value.int IntKind.i64 n, Value.string s, Value.slice (some ⟨g1, 0, none⟩) ks.length ks.length, .slice none 0 0] 32 (0, 0)) := by simp [World.setCell, Array.getElem?_modify, out1]
  have bw1' : Below w.heap.size w (w1.setCell ⟨w.heap.size + 1 + 1, 3, none⟩ (Value.slice (some ⟨g1, 0, none⟩) ks.length ks.length)) := bww1.setCell (p := ⟨w.heap.size + 1 + 1, 3, none⟩) (by show w.heap.size ≤ w.heap.size + 1 + 1; omega) _
  have gs1 := grown_set w1 ⟨w.heap.size + 1 + 1, 3, none⟩ (Value.slice (some ⟨g1, 0, none⟩) ks.length ks.length)
  have sm1 : Same (fun b => w.heap.size + 3 ≤ b) w1 (w1.setCell ⟨w.heap.size + 1 + 1, 3, none⟩ (Value.slice (some ⟨g1, 0, none⟩) ks.length ks.length)) := same_grown gs1 (fun b hb e => by have : b = w.heap.size + 1 + 1 := e; omega)
  have szz1 := d1.size
  have ssz1 : w1.heap.size ≤ (w1.setCell ⟨w.heap.size + 1 + 1, 3, none⟩ (Value.slice (some ⟨g1, 0, none⟩) ks.length ks.length)).heap.size := gs1.size
  have res1' : (w1.setCell ⟨w.heap.size + 1 + 1, 3, none⟩ (Value.slice (some ⟨g1, 0, none⟩) ks.length ks.length)).heap[w.heap.size + 1]? = some (.cells #[.int .i64 0, .int .i64 0, .string ⟨#[]⟩, .slice none 0 0, .slice none 0 0] 32 (0, 0)) := (Below.heap_setCell _ _ _ _ (by show w.heap.size + 1 ≠ w.heap.size + 1 + 1; omega)).trans ((d1.block _ (by omega)).trans HR0.out)
  have F0 := Lib.hid ((hr1.mono (fun b hb => by omega)).kept sm1)
  clear arg1 out1 bww1
  go_wp2_with fail
  generalize hW1 : w1.setCell ⟨w.heap.size + 1 + 1, 3, none⟩ (Value.slice (some ⟨g1, 0, none⟩) ks.length ks.length) = W1 at *
  have HA1 := Lib.hid arg1'
  have HO1 := Lib.hid out1'
  have HR1 := Lib.hid res1'
  have HB1 := Lib.hid bw1'
  clear arg1' out1' bw1' res1' ca1 co1 cf1 hW1 gs1 sm1 bw0
  have bw1 := HB1.out
  refine (copyMarks ma ms.length mc (mF ms) (mP ms) _ (marks_of_N (HM.out.kept (same_of_below bw1))) hml).mono ?_
  rintro e w2 ⟨g2, hg2, rfl, hr2, d2⟩
  have out2 := (d2.block _ (by omega)).trans HO1.out
  have bww2 : Below w.heap.size w w2 := HB1.out.trans (d2.mono (HB1.out.size))
  have co2 : w2.cell? ⟨w.heap.size + 1 + 1, 4, none⟩ = some (.slice none 0 0) := by rw [Lib.cell_of_heap out2]; rfl
  have cf2 : w2.frozen? ⟨w.heap.size + 1 + 1, 4, none⟩ = false := Lib.frozen_of_heap out2 4
  have out2' : (w2.setCell ⟨w.heap.size + 1 + 1, 4, none⟩ (Value.slice (some ⟨g2, 0, none⟩) ms.length ms.length)).heap[w.heap.size + 1 + 1]? = some (.cells #[Value.int IntKind.i64 o, Value.int IntKind.i64 n, Value.string s, Value.slice (some ⟨g1, 0, none⟩) ks.length ks.length, Value.slice (some ⟨g2, 0, none⟩) ms.length ms.length] 32 (0, 0)) := by simp [World.setCell, Array.getElem?_modify, out2]
  have bw2' : Below w.heap.size w (w2.setCell ⟨w.heap.size + 1 + 1, 4, none⟩ (Value.slice (some ⟨g2, 0, none⟩) ms.length ms.length)) := bww2.setCell (p := ⟨w.heap.size + 1 + 1, 4, none⟩) (by show w.heap.size ≤ w.heap.size + 1 + 1; omega) _
  have gs2 := grown_set w2 ⟨w.heap.size + 1 + 1, 4, none⟩ (Value.slice (some ⟨g2, 0, none⟩) ms.length ms.length)
  have sm2 : Same (fun b => w.heap.size + 3 ≤ b) w2 (w2.setCell ⟨w.heap.size + 1 + 1, 4, none⟩ (Value.slice (some ⟨g2, 0, none⟩) ms.length ms.length)) := same_grown gs2 (fun b hb e => by have : b = w.heap.size + 1 + 1 := e; omega)
  have szz2 := d2.size
  have ssz2 : w2.heap.size ≤ (w2.setCell ⟨w.heap.size + 1 + 1, 4, none⟩ (Value.slice (some ⟨g2, 0, none⟩) ms.length ms.length)).heap.size := gs2.size
  have res2' : (w2.setCell ⟨w.heap.size + 1 + 1, 4, none⟩ (Value.slice (some ⟨g2, 0, none⟩) ms.length ms.length)).heap[w.heap.size + 1]? = some (.cells #[.int .i64 0, .int .i64 0, .string ⟨#[]⟩, .slice none 0 0, .slice none 0 0] 32 (0, 0)) := (Below.heap_setCell _ _ _ _ (by show w.heap.size + 1 ≠ w.heap.size + 1 + 1; omega)).trans ((d2.block _ (by omega)).trans HR1.out)
  have t0 := Lib.hid ((F0.out.kept (same_of_below d2)).kept sm2)
  clear F0
  have F0 := t0
  clear t0
  have F1 := Lib.hid ((marksN_of (N := fun b => w.heap.size + 3 ≤ b) hr2 rfl (by omega)).kept sm2)
  have z0 : w2.cell? ⟨w.heap.size + 1 + 1, 0, none⟩ = some (Value.int IntKind.i64 o) := by rw [Lib.cell_of_heap out2]; rfl
  have z1 : w2.cell? ⟨w.heap.size + 1 + 1, 1, none⟩ = some (Value.int IntKind.i64 n) := by rw [Lib.cell_of_heap out2]; rfl
  have z2 : w2.cell? ⟨w.heap.size + 1 + 1, 2, none⟩ = some (Value.string s) := by rw [Lib.cell_of_heap out2]; rfl
  have z3 : w2.cell? ⟨w.heap.size + 1 + 1, 3, none⟩ = some (Value.slice (some ⟨g1, 0, none⟩) ks.length ks.length) := by rw [Lib.cell_of_heap out2]; rfl
  clear out2 bww2
  have one : (#[Value.int IntKind.i64 o, Value.int IntKind.i64 n, Value.string s, Value.slice (some ⟨g1, 0, none⟩) ks.length ks.length, Value.slice (some ⟨g2, 0, none⟩) ms.length ms.length] : Array Value).all (·.oneCell') = true := by simp [Value.oneCell']
  go_wp2_with (first
    | (refine wpList_store_row rfl 32 _ _ rfl (w.heap.size + 1) #[Value.int IntKind.i64 o, Value.int IntKind.i64 n, Value.string s, Value.slice (some ⟨g1, 0, none⟩) ks.length ks.length, Value.slice (some ⟨g2, 0, none⟩) ms.length ms.length] rfl rfl 32 #[.int .i64 0, .int .i64 0, .string ⟨#[]⟩, .slice none 0 0, .slice none 0 0] res2' ruleSize rfl one ?_)
    | fail)
  generalize w2.setCell ⟨w.heap.size + 1 + 1, 4, none⟩ (Value.slice (some ⟨g2, 0, none⟩) ms.length ms.length) = WS at *
  clear co2 cf2 z0 z1 z2 z3
  have hfin := setRow_heap WS (w.heap.size + 1) _ #[Value.int IntKind.i64 o, Value.int IntKind.i64 n, Value.string s, Value.slice (some ⟨g1, 0, none⟩) ks.length ks.length, Value.slice (some ⟨g2, 0, none⟩) ms.length ms.length] _ _ res2'
  have gr := grown_setRowT WS (w.heap.size + 1) #[Value.int IntKind.i64 o, Value.int IntKind.i64 n, Value.string s, Value.slice (some ⟨g1, 0, none⟩) ks.length ks.length, Value.slice (some ⟨g2, 0, none⟩) ms.length ms.length]
  have smr : Same (fun b => w.heap.size + 3 ≤ b) WS (WS.setRow (w.heap.size + 1) #[Value.int IntKind.i64 o, Value.int IntKind.i64 n, Value.string s, Value.slice (some ⟨g1, 0, none⟩) ks.length ks.length, Value.slice (some ⟨g2, 0, none⟩) ms.length ms.length]) := same_grown gr (fun b hb e => by omega)
  have l0 := F0.out.kept smr
  have l1 := F1.out.kept smr
  have bfin : Below w.heap.size w (WS.setRow (w.heap.size + 1) #[Value.int IntKind.i64 o, Value.int IntKind.i64 n, Value.string s, Value.slice (some ⟨g1, 0, none⟩) ks.length ks.length, Value.slice (some ⟨g2, 0, none⟩) ms.length ms.length]) := bw2'.grown gr bw2'.size (fun k e => by cases e; omega)
  generalize WS.setRow (w.heap.size + 1) #[Value.int IntKind.i64 o, Value.int IntKind.i64 n, Value.string s, Value.slice (some ⟨g1, 0, none⟩) ks.length ks.length, Value.slice (some ⟨g2, 0, none⟩) ms.length ms.length] = WF at *
  have z0 : WF.cell? ⟨w.heap.size + 1, 0, none⟩ = some (Value.int IntKind.i64 o) := by rw [Lib.cell_of_heap hfin]; rfl
  have z1 : WF.cell? ⟨w.heap.size + 1, 1, none⟩ = some (Value.int IntKind.i64 n) := by rw [Lib.cell_of_heap hfin]; rfl
  have z2 : WF.cell? ⟨w.heap.size + 1, 2, none⟩ = some (Value.string s) := by rw [Lib.cell_of_heap hfin]; rfl
  have z3 : WF.cell? ⟨w.heap.size + 1, 3, none⟩ = some (Value.slice (some ⟨g1, 0, none⟩) ks.length ks.length) := by rw [Lib.cell_of_heap hfin]; rfl
  have z4 : WF.cell? ⟨w.heap.size + 1, 4, none⟩ = some (Value.slice (some ⟨g2, 0, none⟩) ms.length ms.length) := by rw [Lib.cell_of_heap hfin]; rfl
  refine bodyPost_ret (v := .agg #[Value.int IntKind.i64 o, Value.int IntKind.i64 n, Value.string s, Value.slice (some ⟨g1, 0, none⟩) ks.length ks.length, Value.slice (some ⟨g2, 0, none⟩) ms.length ms.length]) ?_ rfl ⟨⟨o, n, s, some ⟨g1, 0, none⟩, ks.length, ks.length, some ⟨g2, 0, none⟩, ms.length, ms.length⟩, rfl, trF_iff.2 ⟨rfl, rfl, rfl, l1.mono (fun b hb => by omega), l0.mono (fun b hb => by omega), Nat.le_refl _, Nat.le_refl _⟩, bfin⟩
  rw [results_cellM rfl]
  go_simp

def DoneR (g k : Nat) (ks : List Tr) (xs : List Value) (W : World) : Prop := ∀ j, j < k → ∀ hj : j < ks.length, ∃ f : Fld, (∀ m, m < 5 → xs[j * 5 + m]? = (#[Value.int .i64 f.op, .int .i64 f.num, .string f.name, .slice f.ka f.kl f.kc, .slice f.ma f.ml f.mc] : Array Value)[m]?) ∧ TrF (fun b => g < b) W ks[j] f
set_option maxRecDepth 100000 in
set_option maxHeartbeats 8000000 in
theorem toRowN (ks : List Tr) (ih : ∀ t ∈ ks, ToAt t) : ToRowAt ks := by
  intro a n cap w h hl
  obtain rfl := h.1
  obtain ⟨i0, hi, hz0, hz1, hz2⟩ := info_parts infoRule
  have Hc := Lib.hid h
  have IH := Lib.hid ih
  clear h ih
  generalize hN : ks.length = n at *
  have HN := Lib.hid hN
  clear hN
  go_enter Tryz.func46, Tryz.ntmps46
  go_wp2_with (at_make; refine wpList_make_full _ rfl _ _ 29 rfl w.heap.size 32 i0 (.agg #[.int .i64 0, .int .i64 0, .string ⟨#[]⟩, .slice none 0 0, .slice none 0 0]) 5 Tryz.underlying29 hi hz0 hz1 .i64 .i64 n n n rfl rfl rfl rfl ?_ ?_ ?_ ?_; rw [hz2]; omega; unfold maxLen; omega; exact Nat.le_refl _; intro w1 hown1 hgrow1)
  have hz := hgrow1.size
  have hb1 : Below w.heap.size w w1 := (Below.refl _ _).grown hgrow1 (Nat.le_refl _) (fun k e => by cases e)
  clear hgrow1
  generalize hg : w.heap.size = g at *
  have Hg := Lib.hid hg
  clear hg
  go_loopw [4] (fun i wr => ∃ k : Nat, k ≤ n ∧ i = .int .i64 k ∧ ∃ xs : List Value, wr.ownsRow g 32 5 (.slice (some ⟨g, 0, none⟩) n n) n xs ∧ Hid (DoneR g k ks xs wr) ∧ Below g w wr) (fun i _ => n - (intOf i).toNat)
  case atStart => exact ⟨0, Nat.zero_le _, rfl, _, hown1, fun j hj => absurd hj (Nat.not_lt_zero _), hb1⟩
  case round =>
    obtain ⟨k, hk, rfl, xs, hown, hxs, hb⟩ := hrel
    rcases Nat.lt_or_ge k n with hlt | hge
    · have hkl : k < ks.length := by rw [HN.out]; exact hlt
      obtain ⟨b, off, rfl, -, hbl, hrow⟩ := (Hc.out.kept (same_of_below (N := All) (by rw [Hg.out]; exact hb))).cells (by omega)
      obtain ⟨f, ⟨y0, y1, y2, y3, y4⟩, ht⟩ := hrow k hkl
      have HT := Lib.hid ht
      have k1 : (k : Int) < n := by omega
      have k0 : (0 : Int) ≤ k := by omega
      have hbw := hown.lt g rfl
      have HOWN := Lib.hid hown
      clear hrow hbl hown ht
      go_wp2_with fail
      refine (IH.out ks[k] (List.getElem_mem _) f wr HT.out).mono ?_
      rintro e w2 ⟨q, rfl, hq, hb2⟩
      clear y0 y1 y2 y3 y4
      have hown2 := HOWN.out.kept (row := none) ⟨hb2.os, hb2.tape, hb2.output, hb2.size, fun i hi _ => hb2.block i hi⟩ (Or.inr (by simp [Value.ownBlock]))
      have hb3 : Below g w w2 := hb.trans (hb2.mono (by omega))
      have hx := hown2.1
      have HOWN2 := Lib.hid hown2
      have HQ := Lib.hid (hq.mono (N' := fun b => g < b) (fun b hb => by omega))
      have HB3 := Lib.hid hb3
      have HS2 : Hid (Same (fun b => g < b) wr w2) := same_of_below hb2
      obtain ⟨v0, e0⟩ := cell_ofM (hown2.cellAt (k * 5) (by omega)) (by omega)
      obtain ⟨v1, e1⟩ := cell_ofM (hown2.cellAt (k * 5 + 1) (by omega)) (by omega)
      obtain ⟨v2, e2⟩ := cell_ofM (hown2.cellAt (k * 5 + 2) (by omega)) (by omega)
      obtain ⟨v3, e3⟩ := cell_ofM (hown2.cellAt (k * 5 + 3) (by omega)) (by omega)
      obtain ⟨v4, e4⟩ := cell_ofM (hown2.cellAt (k * 5 + 4) (by omega)) (by omega)
      have f0 := hown2.frozenAt (k * 5)
      have f1 := hown2.frozenAt (k * 5 + 1)
      have f2 := hown2.frozenAt (k * 5 + 2)
      have f3 := hown2.frozenAt (k * 5 + 3)
      have f4 := hown2.frozenAt (k * 5 + 4)
      have hX := Lib.hid hx
      clear hq hb2 hb3 hown2 hb hx
      unfold Fld.val
      go_wp2
      go_roundw
      case rel =>
        refine ⟨k + 1, by omega, by go_num, putL xs (k * 5) [Value.int .i64 q.op, .int .i64 q.num, .string q.name, .slice q.ka q.kl q.kc, .slice q.ma q.ml q.mc], own_setL [Value.int .i64 q.op, .int .i64 q.num, .string q.name, .slice q.ka q.kl q.kc, .slice q.ma q.ml q.mc] (k * 5) w2 xs HOWN2.out, fun j hj hjl => ?_, below_setL (Nat.le_refl _) [Value.int .i64 q.op, .int .i64 q.num, .string q.name, .slice q.ka q.kl q.kc, .slice q.ma q.ml q.mc] (k * 5) w2 HB3.out⟩
        have hgr := grown_setL (g := g) [Value.int .i64 q.op, .int .i64 q.num, .string q.name, .slice q.ka q.kl q.kc, .slice q.ma q.ml q.mc] (k * 5) w2
        have hsm := same_grown (N := fun b => g < b) hgr (fun b hb e => by omega)
        by_cases e : j = k
        · subst e
          refine ⟨q, fun m hm => ?_, HQ.out.kept hsm⟩
          rw [putL_at _ _ _ _ (by simpa using hm) (by have := hX.out; simp; omega)]
          simp
        · have hj' : j < k := by omega
          obtain ⟨f', h1, h2⟩ := hxs.out j hj' hjl
          refine ⟨f', fun m hm => ?_, (h2.kept HS2.out).kept hsm⟩
          rw [putL_ne _ _ _ _ (by omega)]
          exact h1 m hm
      case measure => simp [intOf]; omega
    · obtain rfl : k = n := by omega
      have hlt := (hown.lt g rfl).2
      have hx := hown.1
      have hpost : Hid (CopyRow ks w (.returned (.slice (some ⟨g, 0, none⟩) k k)) wr) := by
        refine ⟨g, by rw [Hg.out]; exact Nat.le_refl _, by rw [HN.out], ?_, by rw [Hg.out]; exact hb⟩
        refine rowsT_of (b := g) (off := 0) (by rw [Hg.out]; exact Nat.le_refl _) hlt (fun j hj => ?_)
        have hjk : j < k := by rw [← HN.out]; exact hj
        obtain ⟨f, h1, h2⟩ := hxs.out j hjk hj
        refine ⟨f, ⟨?_, ?_, ?_, ?_, ?_⟩, h2.mono (fun b hb => by rw [Hg.out]; omega)⟩
        · rw [Nat.zero_add, ← Nat.add_zero (j * 5), hown.cellAt (j * 5 + 0) (by omega)]; exact h1 0 (by decide)
        · rw [Nat.zero_add, hown.cellAt (j * 5 + 1) (by omega)]; exact h1 1 (by decide)
        · rw [Nat.zero_add, hown.cellAt (j * 5 + 2) (by omega)]; exact h1 2 (by decide)
        · rw [Nat.zero_add, hown.cellAt (j * 5 + 3) (by omega)]; exact h1 3 (by decide)
        · rw [Nat.zero_add, hown.cellAt (j * 5 + 4) (by omega)]; exact h1 4 (by decide)
      clear hlt hx hown hxs hb
      go_wp2
      go_ret
      exact hpost.out
theorem toRuleC : ∀ (k : Nat) (t : Tr), wT t ≤ k → szT t ≤ 1048576 → ToAt t
  | 0, .node o n s ks ms, hw, _ => by rw [wT] at hw; omega
  | k + 1, .node o n s ks ms, hw, hs => by
    rw [wT] at hw; rw [szT] at hs
    exact toRuleN o n s ks ms (toRowN ks fun t ht => toRuleC k t (by have := wL_mem ht; omega) (by have := szL_mem ht; omega)) (by omega) (by omega)
/-- A copy of a rule that came in. -/
theorem toRule {t : Tr} {f : Fld} {w : World} (h : TrF All w t f) (hs : szT t ≤ 1048576) : Calls Tryz.prog 14 #[f.val] w (CopyT t w) := toRuleC _ t (Nat.le_refl _) hs f w h
end Go.Proofs.YtgoaajnppadmjaaGreatDoor
