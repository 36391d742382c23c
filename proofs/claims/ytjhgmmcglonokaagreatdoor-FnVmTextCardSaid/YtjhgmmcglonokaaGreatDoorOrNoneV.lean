/-
  What a reader that may panic comes to: its list and true, or nothing and false.
-/
import Derived.Test.YtjhgmmcglonokaaGreatDoorVmReadB
import Derived.OneCell
namespace Go.Proofs.YtjhgmmcglonokaaGreatDoor
open Go.RowKit
set_option linter.unusedVariables false
set_option linter.unusedSimpArgs false

/-- The world behind a reader that fell. -/
def fellW (w : World) (p q : Nat) : World := ((w.alloc (.cells #[] 57)).setCell ⟨p, 0, none⟩ (.slice none 0 0)).setCell ⟨q, 0, none⟩ (.bool false)
set_option maxRecDepth 100000 in
theorem catch_fell (p q : Nat) (x y : Value) (older : List PanicEntry) (w : World) (hp : w.cell? ⟨p, 0, none⟩ = some x) (hq : w.cell? ⟨q, 0, none⟩ = some y) (zp : w.frozen? ⟨p, 0, none⟩ = false) (zq : w.frozen? ⟨q, 0, none⟩ = false) (lp : p < w.heap.size) (lq : q < w.heap.size) (ne : p ≠ q) :
    CallsD Tryz.prog 70 #[.pointer (some ⟨p, 0, none⟩), .pointer (some ⟨q, 0, none⟩)] (.panicking ({ v := .iface 57 (.agg #[]), recovered := false } :: older)) w fun e u' w' =>
      e = .returned (.tuple #[]) ∧ u' = .panicking ({ v := .iface 57 (.agg #[]), recovered := true } :: older) ∧ w' = fellW w p q := by
  have hA : Below w.heap.size w (w.alloc (.cells #[] 57)) := (Below.refl _ _).alloc (Nat.le_refl _) _
  have hp1 := (hA.cell (p := ⟨p, 0, none⟩) lp).trans hp
  have hq1 := (hA.cell (p := ⟨q, 0, none⟩) lq).trans hq
  have zp1 := (hA.frozen (p := ⟨p, 0, none⟩) lp).trans zp
  have zq1 := (hA.frozen (p := ⟨q, 0, none⟩) lq).trans zq
  have hq2 : ((w.alloc (.cells #[] 57)).setCell ⟨p, 0, none⟩ (.slice none 0 0)).cell? ⟨q, 0, none⟩ = some y := by
    rw [World.cell?_setCell_other _ _ _ _ (by first | (simp; done) | (simp; omega))]; exact hq1
  have zq2 : ((w.alloc (.cells #[] 57)).setCell ⟨p, 0, none⟩ (.slice none 0 0)).frozen? ⟨q, 0, none⟩ = false := by simpa using zq1
  have hta : ∀ w : World, (Instr.typeAssert (.iface 57 (.agg #[])) 20 57 true).run Tryz.prog w = .ok (.tuple #[.agg #[], .bool true]) w := fun _ => by kernel_rfl
  refine callsD_of_wpS Tryz.func70 rfl fun c₀ cs hu => ?_
  apply wpS_seq
  apply wpS_region
  simp [wpOpsS, go_sem, recoverD, hu, hta, Tryz.ntmps70, Exit.thenS]
  apply wpS_seq
  apply wpS_region
  simp [wpOpsS, go_sem, Exit.thenS]
  refine wpS_cond (t := true) (by simp [Act.eval, Array.replicate]) ?_
  simp only [if_true]
  apply wpS_seq
  apply wpS_region
  simp [wpOpsS, go_sem, Exit.thenS]
  apply wpS_region
  simp [wpOpsS, go_sem, hp1, zp1, hq2, zq2, bodyPostS, results, Tryz.results70, fellW]
theorem fellW_cells {w : World} {p q : Nat} {x y : Value} (hp : w.cell? ⟨p, 0, none⟩ = some x) (hq : w.cell? ⟨q, 0, none⟩ = some y) (lp : p < w.heap.size) (lq : q < w.heap.size) (ne : p ≠ q) : (fellW w p q).cell? ⟨p, 0, none⟩ = some (.slice none 0 0) ∧ (fellW w p q).cell? ⟨q, 0, none⟩ = some (.bool false) := by
  have hA : Below w.heap.size w (w.alloc (.cells #[] 57)) := (Below.refl _ _).alloc (Nat.le_refl _) _
  have hp1 := (hA.cell (p := ⟨p, 0, none⟩) lp).trans hp
  have hq1 := (hA.cell (p := ⟨q, 0, none⟩) lq).trans hq
  have hq2 : ((w.alloc (.cells #[] 57)).setCell ⟨p, 0, none⟩ (.slice none 0 0)).cell? ⟨q, 0, none⟩ = some y := by
    rw [World.cell?_setCell_other _ _ _ _ (by first | (simp; done) | (simp; omega))]; exact hq1
  have hp2 : ((w.alloc (.cells #[] 57)).setCell ⟨p, 0, none⟩ (.slice none 0 0)).cell? ⟨p, 0, none⟩ = some (.slice none 0 0) := World.cell?_setCell_same _ _ _ hp1
  unfold fellW
  exact ⟨by rw [World.cell?_setCell_other _ _ _ _ (by first | (simp; done) | (simp; omega))]; exact hp2, World.cell?_setCell_same _ _ _ hq2⟩
theorem fellW_below {B : Nat} {w : World} {p q : Nat} (hp : B ≤ p) (hq : B ≤ q) (hB : B ≤ w.heap.size) : Below B w (fellW w p q) :=
  (((Below.refl _ _).alloc hB _).setCell hp _).setCell hq _
set_option maxRecDepth 100000 in
theorem catch_none (p q : Nat) (w : World) :
    CallsD Tryz.prog 70 #[.pointer (some ⟨p, 0, none⟩), .pointer (some ⟨q, 0, none⟩)] .returning w fun e u' w' =>
      e = .returned (.tuple #[]) ∧ u' = .returning ∧ w' = w.alloc (.cells #[] 57) := by
  have hta : ∀ w : World, (Instr.typeAssert .nilIface 20 57 true).run Tryz.prog w = .ok (.tuple #[.agg #[], .bool false]) w := fun _ => by kernel_rfl
  refine callsD_of_wpS Tryz.func70 rfl fun c₀ cs hu => ?_
  apply wpS_seq
  apply wpS_region
  simp [wpOpsS, go_sem, recoverD, hu, hta, Tryz.ntmps70, Exit.thenS]
  apply wpS_seq
  apply wpS_region
  simp [wpOpsS, go_sem, Exit.thenS]
  refine wpS_cond (t := false) (by simp [Act.eval, Array.replicate]) ?_
  simp only [Bool.false_eq_true, if_false]
  refine wpS_of_wp (wp_skip ?_)
  cases c₀
  simp_all [bodyPostS, results, Tryz.results70]
theorem CodeO.keptB {B b : Nat} {w w' : World} {v : Value} {ds : List Pl} (h : CodeO B w v ds) (hg : w.grownBy w' (some b)) (hb : b < B) : CodeO B w' v ds := by
  obtain ⟨fs, h⟩ := h; exact ⟨fs, h.keptB hg hb⟩
def ReadVP (s : ByteArray) (w : World) (e : Ending) (w' : World) : Prop :=
  Below w.heap.size w w' ∧ ((Hid (¬ IsVmT s) ∧ e = .returned (.tuple #[.slice none 0 0, .bool false])) ∨ ∃ (ds : List Pl) (a : Option Addr) (c : Nat), Hid (OkV ds ∧ textVB ds = s) ∧ e = .returned (.tuple #[.slice a ds.length c, .bool true]) ∧ CodeO w.heap.size w' (.slice a ds.length c) ds)
set_option maxRecDepth 100000 in
set_option maxHeartbeats 4000000 in
theorem orNoneVC (tb : Nat) (s : ByteArray) (w : World) (hs : s.size ≤ 1600) (hL : LaidE w) (hc : w.cell? ⟨tb, 0, none⟩ = some (.string s)) (htb : tb < w.heap.size) :
    Calls Tryz.prog 33 #[.func (.func 34) #[] #[.pointer (some ⟨tb, 0, none⟩)]] w (ReadVP s w) := by
  have hmf := makeFV
  have hA1 : Below w.heap.size w (w.alloc (.cells #[.slice none 0 0] 22)) := (Below.refl _ _).alloc (Nat.le_refl _) _
  have hA : Below w.heap.size w ((w.alloc (.cells #[.slice none 0 0] 22)).alloc (.cells #[.bool false] 4)) := hA1.alloc hA1.size _
  have hX0 : ((w.alloc (.cells #[.slice none 0 0] 22)).alloc (.cells #[.bool false] 4)).heap[w.heap.size]? = some (.cells #[.slice none 0 0] 22 (0, 0)) := by
    rw [Below.heap_alloc _ _ _ (by simp)]; exact heap_alloc_new w _
  have hX1 : ((w.alloc (.cells #[.slice none 0 0] 22)).alloc (.cells #[.bool false] 4)).heap[w.heap.size + 1]? = some (.cells #[.bool false] 4 (0, 0)) := by
    have := heap_alloc_new (w.alloc (.cells #[.slice none 0 0] 22)) (.cells #[.bool false] 4)
    simpa using this
  have K := Lib.hid (bodyV tb s _ hs (laidE_stays hL hA) ((hA.cell (p := ⟨tb, 0, none⟩) htb).trans hc) (Nat.lt_of_lt_of_le htb hA.size))
  have HA := Lib.hid hA
  have HX0 := Lib.hid hX0
  have HX1 := Lib.hid hX1
  have hz : ((w.alloc (.cells #[.slice none 0 0] 22)).alloc (.cells #[.bool false] 4)).heap.size = w.heap.size + 2 := by simp
  clear hA1 hA hX0 hX1 hL hc
  go_enter_defers Tryz.func33, Tryz.ntmps33
  go_wp2_with fail
  generalize (w.alloc (.cells #[.slice none 0 0] 22)).alloc (.cells #[.bool false] 4) = wB at *
  refine K.out.mono ?_
  rintro e w1 ⟨hb, ⟨hn, he⟩ | ⟨ds, a, c, hgood, rfl, hcode⟩⟩
  · unfold Fell at he
    subst he
    have HN := Lib.hid hn
    have X0 : w1.heap[w.heap.size]? = some (.cells #[.slice none 0 0] 22 (0, 0)) := (hb.block _ (by omega)).trans HX0.out
    have X1 : w1.heap[w.heap.size + 1]? = some (.cells #[.bool false] 4 (0, 0)) := (hb.block _ (by omega)).trans HX1.out
    have HB := Lib.hid (HA.out.trans (hb.mono (by omega)))
    have c0 : w1.cell? ⟨w.heap.size, 0, none⟩ = some (.slice none 0 0) := by rw [Lib.cell_of_heap X0]; rfl
    have c1 : w1.cell? ⟨w.heap.size + 1, 0, none⟩ = some (.bool false) := by rw [Lib.cell_of_heap X1]; rfl
    have K2 := Lib.hid (catch_fell w.heap.size (w.heap.size + 1) _ _ [] w1 c0 c1 (frozen_of_row _ _ _ _ _ X0) (frozen_of_row _ _ _ _ _ X1) (lt_heapT X0) (lt_heapT X1) (by omega))
    have HC0 := Lib.hid c0
    have HC1 := Lib.hid c1
    have l0 := lt_heapT X0
    have l1 := lt_heapT X1
    clear hn hb K X0 X1 c0 c1
    go_wp2
    refine leaves_cons (f := 70) (args := #[.pointer (some ⟨w.heap.size, 0, none⟩), .pointer (some ⟨w.heap.size + 1, 0, none⟩)]) (by simp) (by simp [go_sem]) ?_
    refine K2.out.mono ?_
    rintro e u' w'' ⟨rfl, rfl, rfl⟩
    obtain ⟨f0, f1⟩ := fellW_cells HC0.out HC1.out l0 l1 (by omega)
    have HBf := Lib.hid (HB.out.trans (fellW_below (Nat.le_refl _) (by omega) (by omega) : Below w.heap.size w1 (fellW w1 w.heap.size (w.heap.size + 1))))
    generalize fellW w1 w.heap.size (w.heap.size + 1) = w9 at *
    clear HC0 HC1 HB K2
    simp [Leaves, settle, results, Tryz.results33, go_sem, f0, f1]
    exact ⟨HBf.out, Or.inl ⟨HN.out, rfl⟩⟩
  · have X0 : w1.heap[w.heap.size]? = some (.cells #[.slice none 0 0] 22 (0, 0)) := (hb.block _ (by omega)).trans HX0.out
    have X1 : w1.heap[w.heap.size + 1]? = some (.cells #[.bool false] 4 (0, 0)) := (hb.block _ (by omega)).trans HX1.out
    have c0 : w1.cell? ⟨w.heap.size, 0, none⟩ = some (.slice none 0 0) := by rw [Lib.cell_of_heap X0]; rfl
    have c1 : w1.cell? ⟨w.heap.size + 1, 0, none⟩ = some (.bool false) := by rw [Lib.cell_of_heap X1]; rfl
    have z0 := frozen_of_row _ _ 0 _ _ X0
    have z1 := frozen_of_row _ _ 0 _ _ X1
    have l0 := lt_heapT X0
    have l1 := lt_heapT X1
    have d1 : (w1.setCell ⟨w.heap.size, 0, none⟩ (.slice a ds.length c)).cell? ⟨w.heap.size + 1, 0, none⟩ = some (.bool false) := by
      rw [World.cell?_setCell_other _ _ _ _ (by first | (simp; done) | (simp; omega))]; exact c1
    have hB1 : Below w.heap.size w w1 := HA.out.trans (hb.mono (by omega))
    have HB9 := Lib.hid ((((hB1.setCell (p := ⟨w.heap.size, 0, none⟩) (Nat.le_refl _) (.slice a ds.length c)).setCell (p := ⟨w.heap.size + 1, 0, none⟩) (show w.heap.size ≤ w.heap.size + 1 by omega) (.bool true)).alloc (show w.heap.size ≤ _ by simp [World.setCell]; omega) (.cells #[] 57)))
    have HGd := Lib.hid hgood
    have k1 := hcode.keptB (grown_set w1 ⟨w.heap.size, 0, none⟩ (.slice a ds.length c)) (show w.heap.size < wB.heap.size by omega)
    have k2 := k1.keptB (grown_set _ ⟨w.heap.size + 1, 0, none⟩ (.bool true)) (show w.heap.size + 1 < wB.heap.size by omega)
    have k3 := k2.below ((Below.refl _ _).alloc (Nat.le_refl _) (.cells #[] 57))
    have hO1 := k3.mono (show w.heap.size ≤ wB.heap.size by omega)
    have HO1 := Lib.hid hO1
    have f0 : ((((w1.setCell ⟨w.heap.size, 0, none⟩ (.slice a ds.length c)).setCell ⟨w.heap.size + 1, 0, none⟩ (.bool true)).alloc (.cells #[] 57))).cell? ⟨w.heap.size, 0, none⟩ = some (.slice a ds.length c) := by
      have q := (Below.refl (((w1.setCell ⟨w.heap.size, 0, none⟩ (.slice a ds.length c)).setCell ⟨w.heap.size + 1, 0, none⟩ (.bool true))).heap.size ((w1.setCell ⟨w.heap.size, 0, none⟩ (.slice a ds.length c)).setCell ⟨w.heap.size + 1, 0, none⟩ (.bool true))).alloc (Nat.le_refl _) (.cells #[] 57)
      rw [q.cell (p := ⟨w.heap.size, 0, none⟩) (by simp [World.setCell]; omega), World.cell?_setCell_other _ _ _ _ (by first | (simp; done) | (simp; omega))]
      exact World.cell?_setCell_same _ _ _ c0
    have f1 : ((((w1.setCell ⟨w.heap.size, 0, none⟩ (.slice a ds.length c)).setCell ⟨w.heap.size + 1, 0, none⟩ (.bool true)).alloc (.cells #[] 57))).cell? ⟨w.heap.size + 1, 0, none⟩ = some (.bool true) := by
      have q := (Below.refl (((w1.setCell ⟨w.heap.size, 0, none⟩ (.slice a ds.length c)).setCell ⟨w.heap.size + 1, 0, none⟩ (.bool true))).heap.size ((w1.setCell ⟨w.heap.size, 0, none⟩ (.slice a ds.length c)).setCell ⟨w.heap.size + 1, 0, none⟩ (.bool true))).alloc (Nat.le_refl _) (.cells #[] 57)
      rw [q.cell (p := ⟨w.heap.size + 1, 0, none⟩) (by simp [World.setCell]; omega)]
      exact World.cell?_setCell_same _ _ _ d1
    clear hb hgood hcode K X0 X1 hB1 hO1 c1 k1 k2 k3
    have HF0 := Lib.hid f0
    have HF1 := Lib.hid f1
    clear f0 f1
    go_wp2_with fail
    refine leaves_cons (f := 70) (args := #[.pointer (some ⟨w.heap.size, 0, none⟩), .pointer (some ⟨w.heap.size + 1, 0, none⟩)]) (by simp) (by simp [go_sem]) ?_
    refine (catch_none w.heap.size (w.heap.size + 1) _).mono ?_
    rintro e u' w'' ⟨rfl, rfl, rfl⟩
    have f0 := HF0.out
    have f1 := HF1.out
    generalize ((w1.setCell ⟨w.heap.size, 0, none⟩ (.slice a ds.length c)).setCell ⟨w.heap.size + 1, 0, none⟩ (.bool true)).alloc (.cells #[] 57) = w9 at *
    simp [Leaves, settle, results, Tryz.results33, go_sem, f0, f1]
    exact ⟨HB9.out, Or.inr ⟨ds, a, c, HGd.out, rfl, HO1.out⟩⟩
set_option maxHeartbeats 4000000 in
theorem implVmRead (s : ByteArray) (w : World) (hs : s.size ≤ 1048576) (hL : LaidE w) :
    Calls Tryz.prog 8 #[.string s] w (ReadVP s w) := by
  have hmf := makeFV
  have hA : Below w.heap.size w (w.alloc (.cells #[.string s] 9)) := (Below.refl _ _).alloc (Nat.le_refl _) _
  have hX : (w.alloc (.cells #[.string s] 9)).heap[w.heap.size]? = some (.cells #[.string s] 9 (0, 0)) := heap_alloc_new w _
  have y0 : (w.alloc (.cells #[.string s] 9)).cell? ⟨w.heap.size, 0, none⟩ = some (.string s) := by rw [Lib.cell_of_heap hX]; rfl
  have HA := Lib.hid hA
  have hz : w.heap.size ≤ (w.alloc (.cells #[.string s] 9)).heap.size := hA.size
  rcases Nat.lt_or_ge 1600 s.size with h16 | h16
  · have z1 : decide ((1600 : Int) < (s.size : Int)) = true := decide_eq_true (by omega)
    have i1 : (1600 : Int) < (s.size : Int) := by omega
    have HN : Hid (¬ IsVmT s) := Lib.hid (fun k => by have := isVm_len k; omega)
    clear hA hX hL
    go_enter Tryz.func8, Tryz.ntmps8
    go_wp2
    go_ret2
    exact ⟨HA.out, Or.inl ⟨HN, rfl⟩⟩
  have z1 : decide ((1600 : Int) < (s.size : Int)) = false := decide_eq_false (by omega)
  have i1 : ¬ (1600 : Int) < (s.size : Int) := by omega
  have K := Lib.hid (orNoneVC w.heap.size s _ h16 (laidE_stays hL hA) y0 (lt_heapT hX))
  clear hA hX hL
  go_enter Tryz.func8, Tryz.ntmps8
  go_wp2_with fail
  refine K.out.mono ?_
  rintro e w1 ⟨hb, ⟨hn, rfl⟩ | ⟨ds, a, c, hgood, rfl, hcode⟩⟩
  · have HB := Lib.hid (HA.out.trans (hb.mono hz))
    have HN := Lib.hid hn
    clear hb hn K
    go_wp2
    go_ret2
    exact ⟨HB.out, Or.inl ⟨HN.out, rfl⟩⟩
  · have HB := Lib.hid (HA.out.trans (hb.mono hz))
    have HG := Lib.hid hgood
    have HO := Lib.hid (hcode.mono hz)
    clear hb hgood hcode K
    go_wp2
    go_ret2
    exact ⟨HB.out, Or.inr ⟨ds, a, c, HG.out, rfl, HO.out⟩⟩
end Go.Proofs.YtjhgmmcglonokaaGreatDoor
