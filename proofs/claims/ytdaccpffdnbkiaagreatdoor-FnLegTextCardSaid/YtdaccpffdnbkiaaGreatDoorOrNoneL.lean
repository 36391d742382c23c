/-
  What a reader that may panic comes to: its value and true, or nothing and false (for a struct).
-/
import Derived.Test.YtdaccpffdnbkiaaGreatDoorJ32
import Derived.OneCell
namespace Go.Proofs.YtdaccpffdnbkiaaGreatDoor
open Go.RowKit
set_option linter.unusedVariables false
set_option linter.unusedSimpArgs false

set_option maxRecDepth 100000 in
set_option maxHeartbeats 1000000 in
theorem catch_fell (p q : Nat) (x0 x1 x2 x3 x4 x5 x6 x7 x8 x9 : Value) (v : Value) (older : List PanicEntry) (w : World) (hp : w.heap[p]? = some (.cells #[x0, x1, x2, x3, x4, x5, x6, x7, x8, x9] 25 (0, 0))) (hq : w.heap[q]? = some (.cells #[v] 4 (0, 0))) (ne : p ≠ q) (B : Nat) (hBp : B ≤ p) (hBq : B ≤ q) :
    CallsD Tryz.prog 46 #[.pointer (some ⟨p, 0, none⟩), .pointer (some ⟨q, 0, none⟩)] (.panicking ({ v := .iface 48 (.agg #[]), recovered := false } :: older)) w fun e u' w' =>
      e = .returned (.tuple #[]) ∧ u' = .panicking ({ v := .iface 48 (.agg #[]), recovered := true } :: older) ∧ Below B w w' ∧ w'.heap[p]? = some (.cells (rowG ⟨#[]⟩ ⟨#[]⟩ ⟨#[]⟩ 0 0 0 (.slice none 0 0) (.slice none 0 0) (.slice none 0 0)) 25 (0, 0)) ∧ w'.cell? ⟨q, 0, none⟩ = some (.bool false) := by
  have lp := lt_heap hp
  have lq := lt_heap hq
  have hA : Below w.heap.size w (w.alloc (.cells #[] 48)) := (Below.refl _ _).alloc (Nat.le_refl _) _
  have hA2 : Below w.heap.size w ((w.alloc (.cells #[] 48)).alloc (.cells (rowG ⟨#[]⟩ ⟨#[]⟩ ⟨#[]⟩ 0 0 0 (.slice none 0 0) (.slice none 0 0) (.slice none 0 0)) 25)) := hA.alloc hA.size _
  have HA := Lib.hid hA
  have XZ : ((w.alloc (.cells #[] 48)).alloc (.cells (rowG ⟨#[]⟩ ⟨#[]⟩ ⟨#[]⟩ 0 0 0 (.slice none 0 0) (.slice none 0 0) (.slice none 0 0)) 25)).heap[(w.alloc (.cells #[] 48)).heap.size]? = some (.cells (rowG ⟨#[]⟩ ⟨#[]⟩ ⟨#[]⟩ 0 0 0 (.slice none 0 0) (.slice none 0 0) (.slice none 0 0)) 25 (0, 0)) := heap_alloc_new _ _
  have X0 := (hA2.block _ lp).trans hp
  have HX0 := Lib.hid X0
  have R0 := setRow_heap _ p _ ((rowG ⟨#[]⟩ ⟨#[]⟩ ⟨#[]⟩ 0 0 0 (.slice none 0 0) (.slice none 0 0) (.slice none 0 0))) _ _ X0
  have hB1 : Below B w ((w.alloc (.cells #[] 48)).alloc (.cells (rowG ⟨#[]⟩ ⟨#[]⟩ ⟨#[]⟩ 0 0 0 (.slice none 0 0) (.slice none 0 0) (.slice none 0 0)) 25)) := hA2.mono (by omega)
  have hB2 := below_row hB1 (Nat.le_trans (by omega) hB1.size) hBp (grown_setRow ((w.alloc (.cells #[] 48)).alloc (.cells (rowG ⟨#[]⟩ ⟨#[]⟩ ⟨#[]⟩ 0 0 0 (.slice none 0 0) (.slice none 0 0) (.slice none 0 0)) 25)) p ((rowG ⟨#[]⟩ ⟨#[]⟩ ⟨#[]⟩ 0 0 0 (.slice none 0 0) (.slice none 0 0) (.slice none 0 0))))
  have hQ1 : (((w.alloc (.cells #[] 48)).alloc (.cells (rowG ⟨#[]⟩ ⟨#[]⟩ ⟨#[]⟩ 0 0 0 (.slice none 0 0) (.slice none 0 0) (.slice none 0 0)) 25)).setRow p ((rowG ⟨#[]⟩ ⟨#[]⟩ ⟨#[]⟩ 0 0 0 (.slice none 0 0) (.slice none 0 0) (.slice none 0 0)))).heap[q]? = some (.cells #[v] 4 (0, 0)) := ((grown_setRow ((w.alloc (.cells #[] 48)).alloc (.cells (rowG ⟨#[]⟩ ⟨#[]⟩ ⟨#[]⟩ 0 0 0 (.slice none 0 0) (.slice none 0 0) (.slice none 0 0)) 25)) p ((rowG ⟨#[]⟩ ⟨#[]⟩ ⟨#[]⟩ 0 0 0 (.slice none 0 0) (.slice none 0 0) (.slice none 0 0)))).block q (Nat.lt_of_lt_of_le lq hA2.size) (fun e => ne (Option.some.inj e).symm)).trans ((hA2.block _ lq).trans hq)
  have hQc : (((w.alloc (.cells #[] 48)).alloc (.cells (rowG ⟨#[]⟩ ⟨#[]⟩ ⟨#[]⟩ 0 0 0 (.slice none 0 0) (.slice none 0 0) (.slice none 0 0)) 25)).setRow p ((rowG ⟨#[]⟩ ⟨#[]⟩ ⟨#[]⟩ 0 0 0 (.slice none 0 0) (.slice none 0 0) (.slice none 0 0)))).cell? ⟨q, 0, none⟩ = some v := by rw [Lib.cell_of_heap hQ1]; rfl
  have hQf := frozen_of_row _ _ 0 _ _ hQ1
  have HP9 : Hid (((((w.alloc (.cells #[] 48)).alloc (.cells (rowG ⟨#[]⟩ ⟨#[]⟩ ⟨#[]⟩ 0 0 0 (.slice none 0 0) (.slice none 0 0) (.slice none 0 0)) 25)).setRow p ((rowG ⟨#[]⟩ ⟨#[]⟩ ⟨#[]⟩ 0 0 0 (.slice none 0 0) (.slice none 0 0) (.slice none 0 0)))).setCell ⟨q, 0, none⟩ (.bool false)).heap[p]? = some (.cells (rowG ⟨#[]⟩ ⟨#[]⟩ ⟨#[]⟩ 0 0 0 (.slice none 0 0) (.slice none 0 0) (.slice none 0 0)) 25 (0, 0))) := by
    show _ = _
    rw [Below.heap_setCell _ _ _ _ (by simp; omega)]; exact R0
  have HQ9 : Hid (((((w.alloc (.cells #[] 48)).alloc (.cells (rowG ⟨#[]⟩ ⟨#[]⟩ ⟨#[]⟩ 0 0 0 (.slice none 0 0) (.slice none 0 0) (.slice none 0 0)) 25)).setRow p ((rowG ⟨#[]⟩ ⟨#[]⟩ ⟨#[]⟩ 0 0 0 (.slice none 0 0) (.slice none 0 0) (.slice none 0 0)))).setCell ⟨q, 0, none⟩ (.bool false)).cell? ⟨q, 0, none⟩ = some (.bool false)) := World.cell?_setCell_same _ _ _ hQc
  have HB9 : Hid (Below B w ((((w.alloc (.cells #[] 48)).alloc (.cells (rowG ⟨#[]⟩ ⟨#[]⟩ ⟨#[]⟩ 0 0 0 (.slice none 0 0) (.slice none 0 0) (.slice none 0 0)) 25)).setRow p ((rowG ⟨#[]⟩ ⟨#[]⟩ ⟨#[]⟩ 0 0 0 (.slice none 0 0) (.slice none 0 0) (.slice none 0 0)))).setCell ⟨q, 0, none⟩ (.bool false))) := hB2.setCell hBq _
  have HXZ := Lib.hid (rowG_cells XZ)
  have HQ := Lib.hid hQc
  have hta : ∀ w : World, (Instr.typeAssert (.iface 48 (.agg #[])) 20 48 true).run Tryz.prog w = .ok (.tuple #[.agg #[], .bool true]) w := fun _ => by kernel_rfl
  clear hA hA2 XZ X0 R0 hB1 hB2 hQ1 hQc
  refine callsD_of_wpS Tryz.func46 rfl fun c₀ cs hu => ?_
  apply wpS_seq
  apply wpS_region
  simp [wpOpsS, go_sem, recoverD, hu, hta, Tryz.ntmps46, Exit.thenS]
  apply wpS_seq
  apply wpS_region
  simp [wpOpsS, go_sem, Exit.thenS]
  refine wpS_cond (t := true) (by simp [Act.eval, Array.replicate]) ?_
  simp only [if_true]
  refine wpS_of_wp ?_
  obtain ⟨z0, z1, z2, z3, z4, z5, z6, z7, z8, z9⟩ := HXZ.out
  have hQc := HQ.out
  go_wp2_with (first
    | (refine wpList_store_row rfl 25 _ _ rfl p (rowG ⟨#[]⟩ ⟨#[]⟩ ⟨#[]⟩ 0 0 0 (.slice none 0 0) (.slice none 0 0) (.slice none 0 0)) rfl rfl 25 #[x0, x1, x2, x3, x4, x5, x6, x7, x8, x9] HX0.out legSize rfl (rowG_one _ _ _ _ _ _ _ _ _ rfl rfl rfl) ?_)
    | fail)
  have HB9' := HB9
  generalize hw9 : (((w.alloc (.cells #[] 48)).alloc (.cells (rowG ⟨#[]⟩ ⟨#[]⟩ ⟨#[]⟩ 0 0 0 (.slice none 0 0) (.slice none 0 0) (.slice none 0 0)) 25)).setRow p (rowG ⟨#[]⟩ ⟨#[]⟩ ⟨#[]⟩ 0 0 0 (.slice none 0 0) (.slice none 0 0) (.slice none 0 0))).setCell ⟨q, 0, none⟩ (.bool false) = w9 at *
  simp [bodyPostS, results, Tryz.results46]
  exact ⟨HB9.out, HP9.out, HQ9.out⟩
set_option maxRecDepth 100000 in
theorem catch_none (p q : Nat) (w : World) :
    CallsD Tryz.prog 46 #[.pointer (some ⟨p, 0, none⟩), .pointer (some ⟨q, 0, none⟩)] .returning w fun e u' w' =>
      e = .returned (.tuple #[]) ∧ u' = .returning ∧ w' = w.alloc (.cells #[] 48) := by
  have hta : ∀ w : World, (Instr.typeAssert .nilIface 20 48 true).run Tryz.prog w = .ok (.tuple #[.agg #[], .bool false]) w := fun _ => by kernel_rfl
  refine callsD_of_wpS Tryz.func46 rfl fun c₀ cs hu => ?_
  apply wpS_seq
  apply wpS_region
  simp [wpOpsS, go_sem, recoverD, hu, hta, Tryz.ntmps46, Exit.thenS]
  apply wpS_seq
  apply wpS_region
  simp [wpOpsS, go_sem, Exit.thenS]
  refine wpS_cond (t := false) (by simp [Act.eval, Array.replicate]) ?_
  simp only [Bool.false_eq_true, if_false]
  refine wpS_of_wp (wp_skip ?_)
  cases c₀
  simp_all [bodyPostS, results, Tryz.results46]
def ReadPostL (s : ByteArray) (w : World) (e : Ending) (w' : World) : Prop :=
  Below w.heap.size w w' ∧ ((Hid (¬ IsLegT s) ∧ e = .returned (.tuple #[.agg (rowG ⟨#[]⟩ ⟨#[]⟩ ⟨#[]⟩ 0 0 0 (.slice none 0 0) (.slice none 0 0) (.slice none 0 0)), .bool false])) ∨ ∃ (x : Leg8) (q : Pl), Hid (OkLeg (leg8D x) ∧ legB (leg8D x) = s) ∧ e = .returned (.tuple #[.agg (rowX x q), .bool true]) ∧ Own8 w.heap.size w' x q)
set_option maxRecDepth 100000 in
set_option maxHeartbeats 4000000 in
theorem orNoneC (tb : Nat) (s : ByteArray) (w : World) (hs : s.size ≤ 1048576) (hL : LaidE w) (hc : w.cell? ⟨tb, 0, none⟩ = some (.string s)) (htb : tb < w.heap.size) :
    Calls Tryz.prog 20 #[.func (.func 21) #[] #[.pointer (some ⟨tb, 0, none⟩)]] w (ReadPostL s w) := by
  have hmf := makeF
  have hA1 : Below w.heap.size w (w.alloc (.cells (rowG ⟨#[]⟩ ⟨#[]⟩ ⟨#[]⟩ 0 0 0 (.slice none 0 0) (.slice none 0 0) (.slice none 0 0)) 25)) := (Below.refl _ _).alloc (Nat.le_refl _) _
  have hA : Below w.heap.size w ((w.alloc (.cells (rowG ⟨#[]⟩ ⟨#[]⟩ ⟨#[]⟩ 0 0 0 (.slice none 0 0) (.slice none 0 0) (.slice none 0 0)) 25)).alloc (.cells #[.bool false] 4)) := hA1.alloc hA1.size _
  have hX0 : ((w.alloc (.cells (rowG ⟨#[]⟩ ⟨#[]⟩ ⟨#[]⟩ 0 0 0 (.slice none 0 0) (.slice none 0 0) (.slice none 0 0)) 25)).alloc (.cells #[.bool false] 4)).heap[w.heap.size]? = some (.cells (rowG ⟨#[]⟩ ⟨#[]⟩ ⟨#[]⟩ 0 0 0 (.slice none 0 0) (.slice none 0 0) (.slice none 0 0)) 25 (0, 0)) := by
    rw [Below.heap_alloc _ _ _ (by simp)]; exact heap_alloc_new w _
  have hX1 : ((w.alloc (.cells (rowG ⟨#[]⟩ ⟨#[]⟩ ⟨#[]⟩ 0 0 0 (.slice none 0 0) (.slice none 0 0) (.slice none 0 0)) 25)).alloc (.cells #[.bool false] 4)).heap[w.heap.size + 1]? = some (.cells #[.bool false] 4 (0, 0)) := by
    have := heap_alloc_new (w.alloc (.cells (rowG ⟨#[]⟩ ⟨#[]⟩ ⟨#[]⟩ 0 0 0 (.slice none 0 0) (.slice none 0 0) (.slice none 0 0)) 25)) (.cells #[.bool false] 4)
    simpa using this
  have K := Lib.hid (bodyC tb s _ hs (laidE_stays hL hA) ((hA.cell (p := ⟨tb, 0, none⟩) htb).trans hc) (Nat.lt_of_lt_of_le htb hA.size))
  have HA := Lib.hid hA
  have HX0 := Lib.hid hX0
  have HX1 := Lib.hid hX1
  have hz : ((w.alloc (.cells (rowG ⟨#[]⟩ ⟨#[]⟩ ⟨#[]⟩ 0 0 0 (.slice none 0 0) (.slice none 0 0) (.slice none 0 0)) 25)).alloc (.cells #[.bool false] 4)).heap.size = w.heap.size + 2 := by simp
  clear hA1 hA hX0 hX1 hL hc
  go_enter_defers Tryz.func20, Tryz.ntmps20
  go_wp2_with fail
  generalize ((w.alloc (.cells (rowG ⟨#[]⟩ ⟨#[]⟩ ⟨#[]⟩ 0 0 0 (.slice none 0 0) (.slice none 0 0) (.slice none 0 0)) 25)).alloc (.cells #[.bool false] 4)) = wB at *
  refine K.out.mono ?_
  rintro e w1 ⟨hb, ⟨hn, he⟩ | ⟨x, q, hgood, rfl, hown⟩⟩
  · unfold Fell at he
    subst he
    have HN := Lib.hid hn
    have X0 : w1.heap[w.heap.size]? = some (.cells (rowG ⟨#[]⟩ ⟨#[]⟩ ⟨#[]⟩ 0 0 0 (.slice none 0 0) (.slice none 0 0) (.slice none 0 0)) 25 (0, 0)) := (hb.block _ (by omega)).trans HX0.out
    have X1 : w1.heap[w.heap.size + 1]? = some (.cells #[.bool false] 4 (0, 0)) := (hb.block _ (by omega)).trans HX1.out
    have HB := Lib.hid (HA.out.trans (hb.mono (by omega)))
    have K2 := Lib.hid (catch_fell w.heap.size (w.heap.size + 1) _ _ _ _ _ _ _ _ _ _ _ [] w1 X0 X1 (by omega) w.heap.size (Nat.le_refl _) (by omega))
    have HX0 := Lib.hid X0
    have HX1 := Lib.hid X1
    clear hn hb K X0 X1
    go_wp2
    refine leaves_cons (f := 46) (args := #[.pointer (some ⟨w.heap.size, 0, none⟩), .pointer (some ⟨w.heap.size + 1, 0, none⟩)]) (by simp) (by simp [go_sem]) ?_
    refine K2.out.mono ?_
    rintro e u' w9 ⟨rfl, rfl, hb9, r0, f1⟩
    obtain ⟨f0, f1_, f2, f3, f4, f5, f6, f7, f8, f9⟩ := rowG_cells r0
    have HBf := Lib.hid (HB.out.trans hb9)
    clear HX0 HX1 HB K2 hb9 r0
    simp [Leaves, settle, results, Tryz.results20, go_sem, f0, f1_, f2, f3, f4, f5, f6, f7, f8, f9, f1]
    exact ⟨HBf.out, Or.inl ⟨HN.out, rfl⟩⟩
  · 
    have X0 : w1.heap[w.heap.size]? = some (.cells (rowG ⟨#[]⟩ ⟨#[]⟩ ⟨#[]⟩ 0 0 0 (.slice none 0 0) (.slice none 0 0) (.slice none 0 0)) 25 (0, 0)) := (hb.block _ (by omega)).trans HX0.out
    have X1 : w1.heap[w.heap.size + 1]? = some (.cells #[.bool false] 4 (0, 0)) := (hb.block _ (by omega)).trans HX1.out
    have g1 := grown_setRow w1 w.heap.size ((rowX x q))
    have R0 := setRow_heap _ w.heap.size _ ((rowX x q)) _ _ X0
    have XQ := (g1.block (w.heap.size + 1) (lt_heap X1) (by simp)).trans X1
    have d1 : (w1.setRow w.heap.size (rowX x q)).cell? ⟨w.heap.size + 1, 0, none⟩ = some (.bool false) := by rw [Lib.cell_of_heap XQ]; rfl
    have z1 := frozen_of_row _ _ 0 _ _ XQ
    have hB1 : Below w.heap.size w w1 := HA.out.trans (hb.mono (by omega))
    have hB2 := below_row hB1 hB1.size (Nat.le_refl _) g1
    have hB3 := hB2.setCell (p := ⟨w.heap.size + 1, 0, none⟩) (show w.heap.size ≤ w.heap.size + 1 by omega) (.bool true)
    have HB9 := Lib.hid (hB3.alloc hB3.size (.cells #[] 48))
    have R1 : ((w1.setRow w.heap.size (rowX x q)).setCell ⟨w.heap.size + 1, 0, none⟩ (.bool true)).heap[w.heap.size]? = some (.cells (rowX x q) 25 (0, 0)) := by
      rw [Below.heap_setCell _ _ _ _ (by simp)]; exact R0
    have D1 : ((w1.setRow w.heap.size (rowX x q)).setCell ⟨w.heap.size + 1, 0, none⟩ (.bool true)).cell? ⟨w.heap.size + 1, 0, none⟩ = some (.bool true) := World.cell?_setCell_same _ _ _ d1
    have hO2 := hown.grown g1 (fun k e => by cases e; omega)
    have hO3 := hO2.grown (grown_set _ ⟨w.heap.size + 1, 0, none⟩ (.bool true)) (fun k e => by cases e; show w.heap.size + 1 < wB.heap.size; omega)
    have g4 := grown_of_below ((Below.refl ((w1.setRow w.heap.size (rowX x q)).setCell ⟨w.heap.size + 1, 0, none⟩ (.bool true)).heap.size _).alloc (Nat.le_refl _) (.cells #[] 48))
    have HO9 := Lib.hid ((hO3.grown g4 (fun k e => by cases e)).mono (show w.heap.size ≤ wB.heap.size by omega))
    have R9 := (g4.block w.heap.size (lt_heap R1) (by simp)).trans R1
    have F1 := Lib.hid (g4.cell D1 (by simp))
    have F0 := Lib.hid (rowG_cells R9)
    have HX0 := Lib.hid X0
    clear hb hown K X0 X1 hB1 hB2 hB3 R0 XQ R1 D1 hO2 hO3 R9 g4 g1
    go_wp2_with (first
      | (refine wpList_store_row rfl 25 _ _ rfl w.heap.size (rowX x q) rfl rfl 25 (rowG ⟨#[]⟩ ⟨#[]⟩ ⟨#[]⟩ 0 0 0 (.slice none 0 0) (.slice none 0 0) (.slice none 0 0)) HX0.out legSize rfl (rowG_one _ _ _ _ _ _ _ _ _ rfl rfl rfl) ?_)
      | fail)
    refine leaves_cons (f := 46) (args := #[.pointer (some ⟨w.heap.size, 0, none⟩), .pointer (some ⟨w.heap.size + 1, 0, none⟩)]) (by simp) (by simp [go_sem]) ?_
    refine (catch_none w.heap.size (w.heap.size + 1) _).mono ?_
    rintro e u' w'' ⟨rfl, rfl, rfl⟩
    obtain ⟨f0, f1_, f2, f3, f4, f5, f6, f7, f8, f9⟩ := F0.out
    have f1 := F1.out
    generalize ((w1.setRow w.heap.size (rowX x q)).setCell ⟨w.heap.size + 1, 0, none⟩ (.bool true)).alloc (.cells #[] 48) = w9 at *
    simp [Leaves, settle, results, Tryz.results20, go_sem, f0, f1_, f2, f3, f4, f5, f6, f7, f8, f9, f1]
    exact ⟨HB9.out, Or.inr ⟨x, q, hgood, rfl, HO9.out⟩⟩
set_option maxHeartbeats 1000000 in
theorem readIL (s : ByteArray) (w : World) (hs : s.size ≤ 1048576) (hL : LaidE w) :
    Calls Tryz.prog 6 #[.string s] w (ReadPostL s w) := by
  have hmf := makeF
  have hA : Below w.heap.size w (w.alloc (.cells #[.string s] 9)) := (Below.refl _ _).alloc (Nat.le_refl _) _
  have hX : (w.alloc (.cells #[.string s] 9)).heap[w.heap.size]? = some (.cells #[.string s] 9 (0, 0)) := heap_alloc_new w _
  have hA2 : Below w.heap.size w ((w.alloc (.cells #[.string s] 9)).alloc (.cells (rowG ⟨#[]⟩ ⟨#[]⟩ ⟨#[]⟩ 0 0 0 (.slice none 0 0) (.slice none 0 0) (.slice none 0 0)) 25)) := hA.alloc hA.size _
  have hX2 : ((w.alloc (.cells #[.string s] 9)).alloc (.cells (rowG ⟨#[]⟩ ⟨#[]⟩ ⟨#[]⟩ 0 0 0 (.slice none 0 0) (.slice none 0 0) (.slice none 0 0)) 25)).heap[w.heap.size]? = some (.cells #[.string s] 9 (0, 0)) := by
    rw [Below.heap_alloc _ _ _ (by simp)]; exact hX
  have hZ2 : ((w.alloc (.cells #[.string s] 9)).alloc (.cells (rowG ⟨#[]⟩ ⟨#[]⟩ ⟨#[]⟩ 0 0 0 (.slice none 0 0) (.slice none 0 0) (.slice none 0 0)) 25)).heap[w.heap.size + 1]? = some (.cells (rowG ⟨#[]⟩ ⟨#[]⟩ ⟨#[]⟩ 0 0 0 (.slice none 0 0) (.slice none 0 0) (.slice none 0 0)) 25 (0, 0)) := by
    have := heap_alloc_new (w.alloc (.cells #[.string s] 9)) (.cells (rowG ⟨#[]⟩ ⟨#[]⟩ ⟨#[]⟩ 0 0 0 (.slice none 0 0) (.slice none 0 0) (.slice none 0 0)) 25)
    simpa using this
  have K := Lib.hid (orNoneC w.heap.size s _ hs (laidE_stays hL hA2) (by rw [Lib.cell_of_heap hX2]; rfl) (lt_heap hX2))
  have HA := Lib.hid hA2
  have HZ := Lib.hid hZ2
  have hz : ((w.alloc (.cells #[.string s] 9)).alloc (.cells (rowG ⟨#[]⟩ ⟨#[]⟩ ⟨#[]⟩ 0 0 0 (.slice none 0 0) (.slice none 0 0) (.slice none 0 0)) 25)).heap.size = w.heap.size + 2 := by simp
  clear hA hX hL hA2 hX2 hZ2
  go_enter Tryz.func6, Tryz.ntmps6
  go_wp2_with fail
  generalize (w.alloc (.cells #[.string s] 9)).alloc (.cells (rowG ⟨#[]⟩ ⟨#[]⟩ ⟨#[]⟩ 0 0 0 (.slice none 0 0) (.slice none 0 0) (.slice none 0 0)) 25) = wB at *
  refine K.out.mono ?_
  rintro e w1 ⟨hb, ⟨hn, rfl⟩ | ⟨x, q, hgood, rfl, hown⟩⟩
  · have HB := Lib.hid (HA.out.trans (hb.mono (by omega)))
    have HN := Lib.hid hn
    have X1 := (hb.block (w.heap.size + 1) (by omega)).trans HZ.out
    have R1 := setRow_heap _ (w.heap.size + 1) _ ((rowG ⟨#[]⟩ ⟨#[]⟩ ⟨#[]⟩ 0 0 0 (.slice none 0 0) (.slice none 0 0) (.slice none 0 0))) _ _ X1
    have HBf := Lib.hid (below_row HB.out HB.out.size (show w.heap.size ≤ w.heap.size + 1 by omega) (grown_setRow w1 (w.heap.size + 1) ((rowG ⟨#[]⟩ ⟨#[]⟩ ⟨#[]⟩ 0 0 0 (.slice none 0 0) (.slice none 0 0) (.slice none 0 0)))))
    have F0 := Lib.hid (rowG_cells R1)
    have HX1 := Lib.hid X1
    clear hb hn K R1 X1
    go_wp2_with (first
      | (refine wpList_store_row rfl 25 _ _ rfl (w.heap.size + 1) (rowG ⟨#[]⟩ ⟨#[]⟩ ⟨#[]⟩ 0 0 0 (.slice none 0 0) (.slice none 0 0) (.slice none 0 0)) rfl rfl 25 (rowG ⟨#[]⟩ ⟨#[]⟩ ⟨#[]⟩ 0 0 0 (.slice none 0 0) (.slice none 0 0) (.slice none 0 0)) HX1.out legSize rfl (rowG_one _ _ _ _ _ _ _ _ _ rfl rfl rfl) ?_)
      | fail)
    obtain ⟨f0, f1_, f2, f3, f4, f5, f6, f7, f8, f9⟩ := F0.out
    generalize w1.setRow (w.heap.size + 1) (rowG ⟨#[]⟩ ⟨#[]⟩ ⟨#[]⟩ 0 0 0 (.slice none 0 0) (.slice none 0 0) (.slice none 0 0)) = w9 at *
    (try simp only [Exit.inBlock, Exit.then])
    refine bodyPost_ret (v := .tuple #[.agg (rowG ⟨#[]⟩ ⟨#[]⟩ ⟨#[]⟩ 0 0 0 (.slice none 0 0) (.slice none 0 0) (.slice none 0 0)), .bool false]) ?_ rfl ⟨HBf.out, Or.inl ⟨HN.out, rfl⟩⟩
    simp [results, Tryz.results6, go_sem, f0, f1_, f2, f3, f4, f5, f6, f7, f8, f9]
  · 
    have HB := Lib.hid (HA.out.trans (hb.mono (by omega)))
    have X1 := (hb.block (w.heap.size + 1) (by omega)).trans HZ.out
    have R1 := setRow_heap _ (w.heap.size + 1) _ ((rowX x q)) _ _ X1
    have g1 := grown_setRow w1 (w.heap.size + 1) ((rowX x q))
    have HBf := Lib.hid (below_row HB.out HB.out.size (show w.heap.size ≤ w.heap.size + 1 by omega) g1)
    have HO9 := Lib.hid ((hown.grown g1 (fun k e => by cases e; omega)).mono (show w.heap.size ≤ wB.heap.size by omega))
    have F0 := Lib.hid (rowG_cells R1)
    have HX1 := Lib.hid X1
    clear hb hown K R1 X1 g1
    go_wp2_with (first
      | (refine wpList_store_row rfl 25 _ _ rfl (w.heap.size + 1) (rowX x q) rfl rfl 25 (rowG ⟨#[]⟩ ⟨#[]⟩ ⟨#[]⟩ 0 0 0 (.slice none 0 0) (.slice none 0 0) (.slice none 0 0)) HX1.out legSize rfl (rowG_one _ _ _ _ _ _ _ _ _ rfl rfl rfl) ?_)
      | fail)
    obtain ⟨f0, f1_, f2, f3, f4, f5, f6, f7, f8, f9⟩ := F0.out
    generalize w1.setRow (w.heap.size + 1) (rowX x q) = w9 at *
    (try simp only [Exit.inBlock, Exit.then])
    refine bodyPost_ret (v := .tuple #[.agg (rowX x q), .bool true]) ?_ rfl ⟨HBf.out, Or.inr ⟨x, q, hgood, rfl, HO9.out⟩⟩
    simp [results, Tryz.results6, go_sem, f0, f1_, f2, f3, f4, f5, f6, f7, f8, f9]
end Go.Proofs.YtdaccpffdnbkiaaGreatDoor
