/-
  A rule without kids is spoilt.
-/
import Derived.Test.YtjphjnopdlfplaaGreatDoorSpoilRule
import Derived.Deep.DeepMust
import Derived.Deep.RegionWith
import Derived.Deep.RegionLaw
import Derived.Deep.AppendLies
namespace Go.Proofs.YtjphjnopdlfplaaGreatDoor
open Go.RowKit
set_option linter.unusedVariables false
set_option linter.unusedSimpArgs false

set_option maxRecDepth 100000 in
set_option maxHeartbeats 32000000 in
theorem spoilZ (o n : Int) (s : ByteArray) (ks : List Tr) (ms : List (Int × Int)) (ih : ∀ t ∈ ks, SpoilAt t) (h0 : ks.length = 0) : SpoilAt (.node o n s ks ms) := by
  obtain ⟨i0, hi, hz0, hz1, hz2⟩ := info_parts infoRuleK
  obtain ⟨j0, hj, hy0, hy1, hy2⟩ := info_parts infoMark
  have hk0 := Lib.hid h0
  clear h0
  intro f b p w h hs hr hp
  have HBL : Hid (b < w.heap.size) := hr.le.2
  have hw1 : 1 ≤ wT (.node o n s ks ms) := by rw [wT]; omega
  have hsn : s.size + (ks.length + szL ks) + ms.length ≤ 5000 := by rw [szT] at hs; exact hs
  have HSZ := Lib.hid hs
  have hZa : ((w.alloc (.cells #[.int .i64 f.op, .int .i64 f.num, .string f.name, .slice f.ka f.kl f.kc, .slice f.ma f.ml f.mc] 39)).alloc (.cells #[.int .i64 0, .int .i64 0, .string ⟨#[]⟩, .slice none 0 0, .slice none 0 0] 39)).heap[w.heap.size + 1]? = some (.cells #[.int .i64 0, .int .i64 0, .string ⟨#[]⟩, .slice none 0 0, .slice none 0 0] 39 (0, 0)) := by
    have := heap_alloc_new (w.alloc (.cells #[.int .i64 f.op, .int .i64 f.num, .string f.name, .slice f.ka f.kl f.kc, .slice f.ma f.ml f.mc] 39)) (.cells #[.int .i64 0, .int .i64 0, .string ⟨#[]⟩, .slice none 0 0, .slice none 0 0] 39)
    simpa only [World.size_alloc] using this
  have hBa : Below w.heap.size w ((w.alloc (.cells #[.int .i64 f.op, .int .i64 f.num, .string f.name, .slice f.ka f.kl f.kc, .slice f.ma f.ml f.mc] 39)).alloc (.cells #[.int .i64 0, .int .i64 0, .string ⟨#[]⟩, .slice none 0 0, .slice none 0 0] 39)) := ((Below.refl _ _).alloc (Nat.le_refl _) _).alloc (by simp only [World.size_alloc]; omega) _
  have hra := rd_alloc (rd_alloc hr (.cells #[.int .i64 f.op, .int .i64 f.num, .string f.name, .slice f.ka f.kl f.kc, .slice f.ma f.ml f.mc] 39)) (.cells #[.int .i64 0, .int .i64 0, .string ⟨#[]⟩, .slice none 0 0, .slice none 0 0] 39)
  have hcopy := copyO _ (.node o n s ks ms) (Nat.le_refl _) f ((w.alloc (.cells #[.int .i64 f.op, .int .i64 f.num, .string f.name, .slice f.ka f.kl f.kc, .slice f.ma f.ml f.mc] 39)).alloc (.cells #[.int .i64 0, .int .i64 0, .string ⟨#[]⟩, .slice none 0 0, .slice none 0 0] 39)) (h.kept (same_of_below hBa)) (by omega)
  have hsA : ((w.alloc (.cells #[.int .i64 f.op, .int .i64 f.num, .string f.name, .slice f.ka f.kl f.kc, .slice f.ma f.ml f.mc] 39)).alloc (.cells #[.int .i64 0, .int .i64 0, .string ⟨#[]⟩, .slice none 0 0, .slice none 0 0] 39)).heap.size = w.heap.size + 2 := by simp only [World.size_alloc]
  have xa : ((w.alloc (.cells #[.int .i64 f.op, .int .i64 f.num, .string f.name, .slice f.ka f.kl f.kc, .slice f.ma f.ml f.mc] 39)).alloc (.cells #[.int .i64 0, .int .i64 0, .string ⟨#[]⟩, .slice none 0 0, .slice none 0 0] 39)).heap[w.heap.size]? = some (.cells #[.int .i64 f.op, .int .i64 f.num, .string f.name, .slice f.ka f.kl f.kc, .slice f.ma f.ml f.mc] 39 (0, 0)) := by
    rw [Lib.alloc_old _ _ _ (by simp only [World.size_alloc]; omega)]
    exact heap_alloc_new w _
  have xa0 : ((w.alloc (.cells #[.int .i64 f.op, .int .i64 f.num, .string f.name, .slice f.ka f.kl f.kc, .slice f.ma f.ml f.mc] 39)).alloc (.cells #[.int .i64 0, .int .i64 0, .string ⟨#[]⟩, .slice none 0 0, .slice none 0 0] 39)).cell? ⟨w.heap.size, 0, none⟩ = some (.int .i64 f.op) := by rw [Lib.cell_of_heap xa]; rfl
  have xa1 : ((w.alloc (.cells #[.int .i64 f.op, .int .i64 f.num, .string f.name, .slice f.ka f.kl f.kc, .slice f.ma f.ml f.mc] 39)).alloc (.cells #[.int .i64 0, .int .i64 0, .string ⟨#[]⟩, .slice none 0 0, .slice none 0 0] 39)).cell? ⟨w.heap.size, 1, none⟩ = some (.int .i64 f.num) := by rw [Lib.cell_of_heap xa]; rfl
  have xa2 : ((w.alloc (.cells #[.int .i64 f.op, .int .i64 f.num, .string f.name, .slice f.ka f.kl f.kc, .slice f.ma f.ml f.mc] 39)).alloc (.cells #[.int .i64 0, .int .i64 0, .string ⟨#[]⟩, .slice none 0 0, .slice none 0 0] 39)).cell? ⟨w.heap.size, 2, none⟩ = some (.string f.name) := by rw [Lib.cell_of_heap xa]; rfl
  have xa3 : ((w.alloc (.cells #[.int .i64 f.op, .int .i64 f.num, .string f.name, .slice f.ka f.kl f.kc, .slice f.ma f.ml f.mc] 39)).alloc (.cells #[.int .i64 0, .int .i64 0, .string ⟨#[]⟩, .slice none 0 0, .slice none 0 0] 39)).cell? ⟨w.heap.size, 3, none⟩ = some (.slice f.ka f.kl f.kc) := by rw [Lib.cell_of_heap xa]; rfl
  have xa4 : ((w.alloc (.cells #[.int .i64 f.op, .int .i64 f.num, .string f.name, .slice f.ka f.kl f.kc, .slice f.ma f.ml f.mc] 39)).alloc (.cells #[.int .i64 0, .int .i64 0, .string ⟨#[]⟩, .slice none 0 0, .slice none 0 0] 39)).cell? ⟨w.heap.size, 4, none⟩ = some (.slice f.ma f.ml f.mc) := by rw [Lib.cell_of_heap xa]; rfl
  have HZa := Lib.hid hZa
  have HBa := Lib.hid hBa
  have HRa := Lib.hid hra
  have HSA := Lib.hid hsA
  have IH := Lib.hid ih
  unfold CopyOP Fld.val at hcopy
  dsimp only [Tr.op, Tr.num, Tr.name, Tr.kids, Tr.marks] at hcopy
  have HCP := Lib.hid hcopy
  clear h hs hr hZa hBa hra hcopy hsA xa ih
  unfold Fld.val
  go_enter Tryz.func74, Tryz.ntmps74
  go_wp2_with fail
  refine HCP.out.mono ?_
  rintro e w1 ⟨f1, C0, rfl, e1, e2, e3, htop, d1⟩
  obtain ⟨fo, fn, fs1, ka, kl, kc, ma, ml, mc⟩ := f1
  dsimp only at e1 e2 e3 htop ⊢
  have e1' := e1.symm
  have e2' := e2.symm
  have e3' := e3.symm
  clear e1 e2 e3
  subst e1' e2' e3'
  have hkl := htop.2.1.rows.1
  dsimp only at hkl
  subst hkl
  have hml := (marksN_own htop.2.2.1).2.1
  dsimp only at hml
  subst hml
  have hd1 := d1.size
  have hwa := HSA.out
  have hXb := heap_alloc_new w1 (.cells #[.int .i64 0, .int .i64 0, .string ⟨#[]⟩, .slice none 0 0, .slice none 0 0] 39)
  have hrowX := setRow_heap (w1.alloc (.cells #[.int .i64 0, .int .i64 0, .string ⟨#[]⟩, .slice none 0 0, .slice none 0 0] 39)) w1.heap.size _ (#[.int .i64 o, .int .i64 n, .string s, .slice ka ks.length kc, .slice ma ms.length mc]) _ _ hXb
  have hB3 : Below w1.heap.size w1 ((w1.alloc (.cells #[.int .i64 0, .int .i64 0, .string ⟨#[]⟩, .slice none 0 0, .slice none 0 0] 39)).setRow w1.heap.size #[.int .i64 o, .int .i64 n, .string s, .slice ka ks.length kc, .slice ma ms.length mc]) := ((Below.refl _ _).alloc (Nat.le_refl _) _).trans ⟨rfl, rfl, rfl, by simp, fun i hi => setRow_other _ _ _ _ (by omega)⟩
  have hSt : ∃ C, StY b p (w.heap.size + 1) w1.heap.size C w ((w1.alloc (.cells #[.int .i64 0, .int .i64 0, .string ⟨#[]⟩, .slice none 0 0, .slice none 0 0] 39)).setRow w1.heap.size #[.int .i64 o, .int .i64 n, .string s, .slice ka ks.length kc, .slice ma ms.length mc]) ⟨o, n, s, ka, ks.length, kc, ma, ms.length, mc⟩ ks ms := by
    obtain ⟨t1, t2, t3, t4⟩ := htop
    have hb1 : b < w1.heap.size := by have := HBL.out; omega
    have hg1 : w.grownBy w1 (some b) := grown_trans (grown_any HBa.out) (grown_any d1)
    have hko : ∀ g, (Value.slice ka ks.length kc).ownBlock = some g → C0 ≤ g ∧ g < w1.heap.size := fun g e => by obtain ⟨fs, k1, k2, k3⟩ := t2; exact k2.lt g e
    have hmo : ∀ g, (Value.slice ma ms.length mc).ownBlock = some g → ((w.alloc (.cells #[.int .i64 f.op, .int .i64 f.num, .string f.name, .slice f.ka f.kl f.kc, .slice f.ma f.ml f.mc] 39)).alloc (.cells #[.int .i64 0, .int .i64 0, .string ⟨#[]⟩, .slice none 0 0, .slice none 0 0] 39)).heap.size ≤ g ∧ g < w1.heap.size := fun g e => t3.lt g e
    obtain ⟨C, hC1, hC2, hC3, hC4⟩ : ∃ C, w.heap.size + 1 < C ∧ C ≤ w1.heap.size ∧ C ≤ C0 ∧ ∀ g, (Value.slice ma ms.length mc).ownBlock = some g → g < C := by
      rcases Nat.le_total C0 w1.heap.size with hc | hc
      · exact ⟨C0, by omega, hc, Nat.le_refl _, t4⟩
      · exact ⟨w1.heap.size, by omega, Nat.le_refl _, hc, fun g e => (hmo g e).2⟩
    have hk2 := (t2.mono hC3).top
    refine ⟨C, hrowX, ?_, hk2.kept (row := none) (grown_any hB3) (fun y e => by cases e), own_rowKept (row := none) (own_B t3 (by omega)) (grown_any hB3) (fun y e => by cases e), fun g e => ⟨by have := (hko g e).1; omega, (hko g e).2⟩, fun g e => ⟨by have := (hmo g e).1; omega, hC4 g e⟩, ⟨hC1, hC2⟩, ?_, grown_trans hg1 (grown_any hB3), by omega, HBL.out⟩
    · exact (hB3.block _ (by omega)).trans ((d1.block _ (by omega)).trans HZa.out)
    · have hra := HRa.out
      have hbl := HBL.out
      exact (hra.kept (d1.mono (by omega)) (d1.block b (by omega))).kept (hB3.mono (by omega)) (hB3.block b hb1)
  have y3 : ((w1.alloc (.cells #[.int .i64 0, .int .i64 0, .string ⟨#[]⟩, .slice none 0 0, .slice none 0 0] 39)).setRow w1.heap.size #[.int .i64 o, .int .i64 n, .string s, .slice ka ks.length kc, .slice ma ms.length mc]).cell? ⟨w1.heap.size, 3, none⟩ = some (.slice ka ks.length kc) := by rw [Lib.cell_of_heap hrowX]; rfl
  obtain ⟨C, hSt⟩ := hSt
  have HS := Lib.hid hSt
  have hres0 := hXb
  clear hSt hrowX hB3 htop d1 HZa HBa HRa HCP xa0 xa1 xa2 xa3 xa4 hd1 hwa HSA
  have h0 := hk0.out
  have kz : decide (0 < (ks.length : Int)) = false := decide_eq_false (by omega)
  have kz' : decide (0 < ks.length) = false := decide_eq_false (by omega)
  have H0 := Lib.hid h0
  clear h0
  go_wp2_with (first
    | (refine wpList_store_row rfl 39 _ _ rfl w1.heap.size #[.int .i64 o, .int .i64 n, .string s, .slice ka ks.length kc, .slice ma ms.length mc] rfl rfl 39 #[.int .i64 0, .int .i64 0, .string ⟨#[]⟩, .slice none 0 0, .slice none 0 0] hres0 ruleSize rfl (by simp [Value.oneCell']) ?_)
    | fail)
  clear y3 hres0
  generalize ((w1.alloc (.cells #[.int .i64 0, .int .i64 0, .string ⟨#[]⟩, .slice none 0 0, .slice none 0 0] 39)).setRow w1.heap.size #[.int .i64 o, .int .i64 n, .string s, .slice ka ks.length kc, .slice ma ms.length mc]) = W2 at *
  generalize w1.heap.size = Y at *
  refine (pick b b (p) 6 _ HS.out.2.2.2.2.2.2.2.1 (by omega) (by omega) (by omega)).mono ?_
  rintro e w5 ⟨x6, l6, u6, rfl, hr5, hg5, -⟩
  have HS5 := Lib.hid (HS.out.grown hg5 hr5)
  have f0 := Lib.frozen_of_heap HS5.out.1 0
  have f1 := Lib.frozen_of_heap HS5.out.1 1
  have f2 := Lib.frozen_of_heap HS5.out.1 2
  have f3 := Lib.frozen_of_heap HS5.out.1 3
  have f4 := Lib.frozen_of_heap HS5.out.1 4
  have hb5 : b < w5.heap.size := hr5.le.2
  have HR5 := Lib.hid hr5
  clear hg5 hr5 HS
  have hx6 : x6 = 0 ∨ x6 = 1 ∨ x6 = 2 ∨ x6 = 3 ∨ x6 = 4 ∨ x6 = 5 := by omega
  clear l6 u6
  rcases hx6 with rfl | rfl | rfl | rfl | rfl | rfl
  · clear f0 f1 f2 f3 f4
    go_wp2_with fail
    refine (pick b b (p + 1) 13 _ HR5.out (by omega) (by omega) (by omega)).mono ?_
    rintro e w6 ⟨x7, l7, u7, rfl, hr6, hg6, -⟩
    have kw : IntKind.i64.wrap (x7 - 1) = x7 - 1 := IntWalk.i64_in _ (by omega)
    have HS6 := Lib.hid (HS5.out.grown hg6 hr6)
    have f0 := Lib.frozen_of_heap HS6.out.1 0
    have c0 : w6.cell? ⟨Y, 0, none⟩ = some (.int .i64 o) := by rw [Lib.cell_of_heap HS6.out.1]; rfl
    clear hr6 hg6
    have HE : Hid (EndY b p (20 * wT (.node o n s ks ms)) (szT (.node o n s ks ms) + 12) (w.heap.size + 1) Y w (w6.setCell ⟨Y, 0, none⟩ (.int .i64 (x7 - 1))) ⟨(x7 - 1), n, s, ka, ks.length, kc, ma, ms.length, mc⟩) := HS6.out.fin (by simp [World.setCell, Array.getElem?_modify, HS6.out.1]) (HS6.out.tr (x7 - 1) n s) (by have := HSZ.out; simp only [szT] at this ⊢; omega) (by omega)
    have hYe := HE.out.1
    have y0 : (w6.setCell ⟨Y, 0, none⟩ (.int .i64 (x7 - 1))).cell? ⟨Y, 0, none⟩ = some (.int .i64 (x7 - 1)) := by rw [Lib.cell_of_heap hYe]; rfl
    have y1 : (w6.setCell ⟨Y, 0, none⟩ (.int .i64 (x7 - 1))).cell? ⟨Y, 1, none⟩ = some (.int .i64 n) := by rw [Lib.cell_of_heap hYe]; rfl
    have y2 : (w6.setCell ⟨Y, 0, none⟩ (.int .i64 (x7 - 1))).cell? ⟨Y, 2, none⟩ = some (.string s) := by rw [Lib.cell_of_heap hYe]; rfl
    have y3 : (w6.setCell ⟨Y, 0, none⟩ (.int .i64 (x7 - 1))).cell? ⟨Y, 3, none⟩ = some (.slice ka ks.length kc) := by rw [Lib.cell_of_heap hYe]; rfl
    have y4 : (w6.setCell ⟨Y, 0, none⟩ (.int .i64 (x7 - 1))).cell? ⟨Y, 4, none⟩ = some (.slice ma ms.length mc) := by rw [Lib.cell_of_heap hYe]; rfl
    have hres := HE.out.2.1
    have hfin : ((w6.setCell ⟨Y, 0, none⟩ (.int .i64 (x7 - 1))).setRow (w.heap.size + 1) #[.int .i64 (x7 - 1), .int .i64 n, .string s, .slice ka ks.length kc, .slice ma ms.length mc]).heap[w.heap.size + 1]? = some (.cells #[.int .i64 (x7 - 1), .int .i64 n, .string s, .slice ka ks.length kc, .slice ma ms.length mc] 39 (0, 0)) := setRow_heap _ (w.heap.size + 1) _ _ _ _ hres
    have hpost := HE.out.post (cells := #[.int .i64 (x7 - 1), .int .i64 n, .string s, .slice ka ks.length kc, .slice ma ms.length mc])
    clear hYe
    go_wp2_with (first
      | (refine wpList_store_row rfl 39 _ _ rfl (w.heap.size + 1) #[.int .i64 (x7 - 1), .int .i64 n, .string s, .slice ka ks.length kc, .slice ma ms.length mc] rfl rfl 39 #[.int .i64 0, .int .i64 0, .string ⟨#[]⟩, .slice none 0 0, .slice none 0 0] hres ruleSize rfl (by simp [Value.oneCell']) ?_)
      | fail)
    generalize (w6.setCell ⟨Y, 0, none⟩ (.int .i64 (x7 - 1))).setRow (w.heap.size + 1) #[.int .i64 (x7 - 1), .int .i64 n, .string s, .slice ka ks.length kc, .slice ma ms.length mc] = WF at *
    have v0 : WF.cell? ⟨w.heap.size + 1, 0, none⟩ = some (.int .i64 (x7 - 1)) := by rw [Lib.cell_of_heap hfin]; rfl
    have v1 : WF.cell? ⟨w.heap.size + 1, 1, none⟩ = some (.int .i64 n) := by rw [Lib.cell_of_heap hfin]; rfl
    have v2 : WF.cell? ⟨w.heap.size + 1, 2, none⟩ = some (.string s) := by rw [Lib.cell_of_heap hfin]; rfl
    have v3 : WF.cell? ⟨w.heap.size + 1, 3, none⟩ = some (.slice ka ks.length kc) := by rw [Lib.cell_of_heap hfin]; rfl
    have v4 : WF.cell? ⟨w.heap.size + 1, 4, none⟩ = some (.slice ma ms.length mc) := by rw [Lib.cell_of_heap hfin]; rfl
    have HP := Lib.hid hpost
    clear hfin hpost hres y0 y1 y2 y3 y4
    refine bodyPost_ret (v := Fld.val ⟨(x7 - 1), n, s, ka, ks.length, kc, ma, ms.length, mc⟩) ?_ rfl HP.out
    unfold Fld.val
    rw [results_cell1 rfl]
    go_simp
    all_goals rfl
  · clear f0 f1 f2 f3 f4
    go_wp2_with fail
    refine (pick b b (p + 1) 3 _ (rd_alloc HR5.out _) (by omega) (by omega) (by omega)).mono ?_
    rintro e w6 ⟨x7, l7, u7, rfl, hr6, hg6, -⟩
    obtain ⟨i, rfl⟩ := Int.eq_ofNat_of_zero_le l7
    have k1 : (i : Int) < 3 := u7
    have k0 : 0 ≤ (i : Int) := l7
    obtain ⟨y, -, -, cy⟩ := one_of w5.heap.size rfl [1000000001, 1, -1000000001] rfl (-1000000001) 1000000001 (by intro v hv; simp at hv; omega) i (by simp; omega) hg6 (by omega)
    have HS6 := Lib.hid (HS5.out.grown (grown_trans (grown_alloc _ (some b)) hg6) hr6)
    have f1 := Lib.frozen_of_heap HS6.out.1 1
    have c1 : w6.cell? ⟨Y, 1, none⟩ = some (.int .i64 n) := by rw [Lib.cell_of_heap HS6.out.1]; rfl
    clear hr6 hg6
    have HE : Hid (EndY b p (20 * wT (.node o n s ks ms)) (szT (.node o n s ks ms) + 12) (w.heap.size + 1) Y w (w6.setCell ⟨Y, 1, none⟩ (.int .i64 y)) ⟨o, y, s, ka, ks.length, kc, ma, ms.length, mc⟩) := HS6.out.fin (by simp [World.setCell, Array.getElem?_modify, HS6.out.1]) (HS6.out.tr o y s) (by have := HSZ.out; simp only [szT] at this ⊢; omega) (by omega)
    have hYe := HE.out.1
    have y0 : (w6.setCell ⟨Y, 1, none⟩ (.int .i64 y)).cell? ⟨Y, 0, none⟩ = some (.int .i64 o) := by rw [Lib.cell_of_heap hYe]; rfl
    have y1 : (w6.setCell ⟨Y, 1, none⟩ (.int .i64 y)).cell? ⟨Y, 1, none⟩ = some (.int .i64 y) := by rw [Lib.cell_of_heap hYe]; rfl
    have y2 : (w6.setCell ⟨Y, 1, none⟩ (.int .i64 y)).cell? ⟨Y, 2, none⟩ = some (.string s) := by rw [Lib.cell_of_heap hYe]; rfl
    have y3 : (w6.setCell ⟨Y, 1, none⟩ (.int .i64 y)).cell? ⟨Y, 3, none⟩ = some (.slice ka ks.length kc) := by rw [Lib.cell_of_heap hYe]; rfl
    have y4 : (w6.setCell ⟨Y, 1, none⟩ (.int .i64 y)).cell? ⟨Y, 4, none⟩ = some (.slice ma ms.length mc) := by rw [Lib.cell_of_heap hYe]; rfl
    have hres := HE.out.2.1
    have hfin : ((w6.setCell ⟨Y, 1, none⟩ (.int .i64 y)).setRow (w.heap.size + 1) #[.int .i64 o, .int .i64 y, .string s, .slice ka ks.length kc, .slice ma ms.length mc]).heap[w.heap.size + 1]? = some (.cells #[.int .i64 o, .int .i64 y, .string s, .slice ka ks.length kc, .slice ma ms.length mc] 39 (0, 0)) := setRow_heap _ (w.heap.size + 1) _ _ _ _ hres
    have hpost := HE.out.post (cells := #[.int .i64 o, .int .i64 y, .string s, .slice ka ks.length kc, .slice ma ms.length mc])
    clear hYe
    go_wp2_with (first
      | (refine wpList_store_row rfl 39 _ _ rfl (w.heap.size + 1) #[.int .i64 o, .int .i64 y, .string s, .slice ka ks.length kc, .slice ma ms.length mc] rfl rfl 39 #[.int .i64 0, .int .i64 0, .string ⟨#[]⟩, .slice none 0 0, .slice none 0 0] hres ruleSize rfl (by simp [Value.oneCell']) ?_)
      | fail)
    generalize (w6.setCell ⟨Y, 1, none⟩ (.int .i64 y)).setRow (w.heap.size + 1) #[.int .i64 o, .int .i64 y, .string s, .slice ka ks.length kc, .slice ma ms.length mc] = WF at *
    have v0 : WF.cell? ⟨w.heap.size + 1, 0, none⟩ = some (.int .i64 o) := by rw [Lib.cell_of_heap hfin]; rfl
    have v1 : WF.cell? ⟨w.heap.size + 1, 1, none⟩ = some (.int .i64 y) := by rw [Lib.cell_of_heap hfin]; rfl
    have v2 : WF.cell? ⟨w.heap.size + 1, 2, none⟩ = some (.string s) := by rw [Lib.cell_of_heap hfin]; rfl
    have v3 : WF.cell? ⟨w.heap.size + 1, 3, none⟩ = some (.slice ka ks.length kc) := by rw [Lib.cell_of_heap hfin]; rfl
    have v4 : WF.cell? ⟨w.heap.size + 1, 4, none⟩ = some (.slice ma ms.length mc) := by rw [Lib.cell_of_heap hfin]; rfl
    have HP := Lib.hid hpost
    clear hfin hpost hres y0 y1 y2 y3 y4
    refine bodyPost_ret (v := Fld.val ⟨o, y, s, ka, ks.length, kc, ma, ms.length, mc⟩) ?_ rfl HP.out
    unfold Fld.val
    rw [results_cell1 rfl]
    go_simp
    all_goals rfl
  · clear f0 f1 f2 f3 f4
    go_wp2_with fail
    refine (pickOf b b (p + 1) 4 w5.heap.size 4 (fun i => [(⟨#[]⟩ : ByteArray), ⟨#[65]⟩, ⟨#[116, 111, 111, 108, 111, 110, 103, 97, 110, 97, 109, 101]⟩, ⟨#[97]⟩].getD i ByteArray.empty) _ (rd_alloc HR5.out _) (by omega) (by omega) (by omega) (fun i hi => lits_at _ w5.heap.size rfl [(⟨#[]⟩ : ByteArray), ⟨#[65]⟩, ⟨#[116, 111, 111, 108, 111, 110, 103, 97, 110, 97, 109, 101]⟩, ⟨#[97]⟩] rfl i hi) (by omega)).mono ?_
    rintro e w6 ⟨i, hi4, rfl, hr6, hg6, -⟩
    obtain ⟨s9, hs9⟩ : ∃ s9, s9 = [(⟨#[]⟩ : ByteArray), ⟨#[65]⟩, ⟨#[116, 111, 111, 108, 111, 110, 103, 97, 110, 97, 109, 101]⟩, ⟨#[97]⟩].getD i ByteArray.empty := ⟨_, rfl⟩
    have hz9 : s9.size ≤ 12 := by
      have : i = 0 ∨ i = 1 ∨ i = 2 ∨ i = 3 := by omega
      rw [hs9]
      rcases this with rfl | rfl | rfl | rfl <;> decide
    rw [show (fun i => [(⟨#[]⟩ : ByteArray), ⟨#[65]⟩, ⟨#[116, 111, 111, 108, 111, 110, 103, 97, 110, 97, 109, 101]⟩, ⟨#[97]⟩].getD i ByteArray.empty) i = s9 from hs9.symm]
    clear hs9
    have HS6 := Lib.hid (HS5.out.grown (grown_trans (grown_alloc _ (some b)) hg6) hr6)
    have f2 := Lib.frozen_of_heap HS6.out.1 2
    have c2 : w6.cell? ⟨Y, 2, none⟩ = some (.string s) := by rw [Lib.cell_of_heap HS6.out.1]; rfl
    clear hr6 hg6
    have HE : Hid (EndY b p (20 * wT (.node o n s ks ms)) (szT (.node o n s ks ms) + 12) (w.heap.size + 1) Y w (w6.setCell ⟨Y, 2, none⟩ (.string s9)) ⟨o, n, s9, ka, ks.length, kc, ma, ms.length, mc⟩) := HS6.out.fin (by simp [World.setCell, Array.getElem?_modify, HS6.out.1]) (HS6.out.tr o n s9) (by have := HSZ.out; simp only [szT] at this ⊢; omega) (by omega)
    have hYe := HE.out.1
    have y0 : (w6.setCell ⟨Y, 2, none⟩ (.string s9)).cell? ⟨Y, 0, none⟩ = some (.int .i64 o) := by rw [Lib.cell_of_heap hYe]; rfl
    have y1 : (w6.setCell ⟨Y, 2, none⟩ (.string s9)).cell? ⟨Y, 1, none⟩ = some (.int .i64 n) := by rw [Lib.cell_of_heap hYe]; rfl
    have y2 : (w6.setCell ⟨Y, 2, none⟩ (.string s9)).cell? ⟨Y, 2, none⟩ = some (.string s9) := by rw [Lib.cell_of_heap hYe]; rfl
    have y3 : (w6.setCell ⟨Y, 2, none⟩ (.string s9)).cell? ⟨Y, 3, none⟩ = some (.slice ka ks.length kc) := by rw [Lib.cell_of_heap hYe]; rfl
    have y4 : (w6.setCell ⟨Y, 2, none⟩ (.string s9)).cell? ⟨Y, 4, none⟩ = some (.slice ma ms.length mc) := by rw [Lib.cell_of_heap hYe]; rfl
    have hres := HE.out.2.1
    have hfin : ((w6.setCell ⟨Y, 2, none⟩ (.string s9)).setRow (w.heap.size + 1) #[.int .i64 o, .int .i64 n, .string s9, .slice ka ks.length kc, .slice ma ms.length mc]).heap[w.heap.size + 1]? = some (.cells #[.int .i64 o, .int .i64 n, .string s9, .slice ka ks.length kc, .slice ma ms.length mc] 39 (0, 0)) := setRow_heap _ (w.heap.size + 1) _ _ _ _ hres
    have hpost := HE.out.post (cells := #[.int .i64 o, .int .i64 n, .string s9, .slice ka ks.length kc, .slice ma ms.length mc])
    clear hYe
    go_wp2_with (first
      | (refine wpList_store_row rfl 39 _ _ rfl (w.heap.size + 1) #[.int .i64 o, .int .i64 n, .string s9, .slice ka ks.length kc, .slice ma ms.length mc] rfl rfl 39 #[.int .i64 0, .int .i64 0, .string ⟨#[]⟩, .slice none 0 0, .slice none 0 0] hres ruleSize rfl (by simp [Value.oneCell']) ?_)
      | fail)
    generalize (w6.setCell ⟨Y, 2, none⟩ (.string s9)).setRow (w.heap.size + 1) #[.int .i64 o, .int .i64 n, .string s9, .slice ka ks.length kc, .slice ma ms.length mc] = WF at *
    have v0 : WF.cell? ⟨w.heap.size + 1, 0, none⟩ = some (.int .i64 o) := by rw [Lib.cell_of_heap hfin]; rfl
    have v1 : WF.cell? ⟨w.heap.size + 1, 1, none⟩ = some (.int .i64 n) := by rw [Lib.cell_of_heap hfin]; rfl
    have v2 : WF.cell? ⟨w.heap.size + 1, 2, none⟩ = some (.string s9) := by rw [Lib.cell_of_heap hfin]; rfl
    have v3 : WF.cell? ⟨w.heap.size + 1, 3, none⟩ = some (.slice ka ks.length kc) := by rw [Lib.cell_of_heap hfin]; rfl
    have v4 : WF.cell? ⟨w.heap.size + 1, 4, none⟩ = some (.slice ma ms.length mc) := by rw [Lib.cell_of_heap hfin]; rfl
    have HP := Lib.hid hpost
    clear hfin hpost hres y0 y1 y2 y3 y4
    refine bodyPost_ret (v := Fld.val ⟨o, n, s9, ka, ks.length, kc, ma, ms.length, mc⟩) ?_ rfl HP.out
    unfold Fld.val
    rw [results_cell1 rfl]
    go_simp
    all_goals rfl
  · clear f0 f1 f2 f4
    obtain ⟨fs, q1, q2, q3⟩ := HS5.out.2.2.1
    have Q2 := Lib.hid q2
    have c3 : w5.cell? ⟨Y, 3, none⟩ = some (.slice ka ks.length kc) := by rw [Lib.cell_of_heap HS5.out.1]; rfl
    have hYl : Y < w5.heap.size := (Array.getElem?_eq_some_iff.1 HS5.out.1).1
    have hC5 : C ≤ w5.heap.size := by have := HS5.out.2.2.2.2.2.2.1; omega
    have HT3 := Lib.hid q3
    have HF3 := Lib.hid q1
    clear q1 q2 q3
    go_wp2_with (first
      | (refine wpList_append_lies _ rfl _ _ 36 rfl C 39 i0 (.agg #[.int .i64 0, .int .i64 0, .string ⟨#[]⟩, .slice none 0 0, .slice none 0 0]) 5 80 Tryz.underlying36 hi hz0 hz1 hz2 rfl (by decide) (.slice ka ks.length kc) ks.length (rowsR fs) rfl (Q2.out.alloc _) ⟨w5.heap.size, 0, none⟩ 1 1 (rowR ⟨1, 0, ⟨#[]⟩, none, 0, 0, none, 0, 0⟩) rfl rfl (one_kid ⟨1, 0, ⟨#[]⟩, none, 0, 0, none, 0, 0⟩ (heap_alloc_new w5 _)) (rowR_one _) (by decide) (by unfold maxLen; omega) (by omega) (by simp only [World.size_alloc]; omega) (w5.heap.size + 1) (by simp only [World.size_alloc]) ?_; intro g7 cap7 w7 hown7 hgrow7 hat7 hlt7; go_must (have hY7 := (hgrow7.block Y (by simp only [World.size_alloc]; omega) (fun e => by have := HS5.out.2.2.2.2.1 Y e.symm; omega)).trans ((Lib.alloc_old _ _ Y hYl).trans HS5.out.1); have c37 : w7.cell? ⟨Y, 3, none⟩ = some (.slice ka ks.length kc) := (by rw [Lib.cell_of_heap hY7]; rfl); have f37 := Lib.frozen_of_heap hY7 3; have HE : Hid (EndY b p (20 * wT (.node o n s ks ms)) (szT (.node o n s ks ms) + 12) (w.heap.size + 1) Y w (w7.setCell ⟨Y, 3, none⟩ (.slice (some ⟨g7, 0, none⟩) (ks.length + 1) cap7)) ⟨o, n, s, some ⟨g7, 0, none⟩, ks.length + 1, cap7, ma, ms.length, mc⟩) := HS5.out.addKid ((Below.refl _ _).alloc (Nat.le_refl _) _) HF3.out HT3.out (fun W' => leaf_tr 1 0 ⟨#[]⟩) hown7 hgrow7 (by simp only [World.size_alloc]; exact hat7) (by have := HSZ.out; have z0 : (⟨#[]⟩ : ByteArray).size = 0 := rfl; simp only [szT, szL_snoc, List.length_append, List.length_cons, List.length_nil, szL] at this ⊢; omega) (by omega)); clear hown7 hgrow7 hat7 hlt7 hY7; have hYe := HE.out.1; have y0 : (w7.setCell ⟨Y, 3, none⟩ (.slice (some ⟨g7, 0, none⟩) (ks.length + 1) cap7)).cell? ⟨Y, 0, none⟩ = some (.int .i64 o) := (by rw [Lib.cell_of_heap hYe]; rfl); have y1 : (w7.setCell ⟨Y, 3, none⟩ (.slice (some ⟨g7, 0, none⟩) (ks.length + 1) cap7)).cell? ⟨Y, 1, none⟩ = some (.int .i64 n) := (by rw [Lib.cell_of_heap hYe]; rfl); have y2 : (w7.setCell ⟨Y, 3, none⟩ (.slice (some ⟨g7, 0, none⟩) (ks.length + 1) cap7)).cell? ⟨Y, 2, none⟩ = some (.string s) := (by rw [Lib.cell_of_heap hYe]; rfl); have y3 : (w7.setCell ⟨Y, 3, none⟩ (.slice (some ⟨g7, 0, none⟩) (ks.length + 1) cap7)).cell? ⟨Y, 3, none⟩ = some (.slice (some ⟨g7, 0, none⟩) (ks.length + 1) cap7) := (by rw [Lib.cell_of_heap hYe]; rfl); have y4 : (w7.setCell ⟨Y, 3, none⟩ (.slice (some ⟨g7, 0, none⟩) (ks.length + 1) cap7)).cell? ⟨Y, 4, none⟩ = some (.slice ma ms.length mc) := (by rw [Lib.cell_of_heap hYe]; rfl); have hres := HE.out.2.1; have hfin : ((w7.setCell ⟨Y, 3, none⟩ (.slice (some ⟨g7, 0, none⟩) (ks.length + 1) cap7)).setRow (w.heap.size + 1) #[.int .i64 o, .int .i64 n, .string s, .slice (some ⟨g7, 0, none⟩) (ks.length + 1) cap7, .slice ma ms.length mc]).heap[w.heap.size + 1]? = some (.cells #[.int .i64 o, .int .i64 n, .string s, .slice (some ⟨g7, 0, none⟩) (ks.length + 1) cap7, .slice ma ms.length mc] 39 (0, 0)) := setRow_heap _ (w.heap.size + 1) _ _ _ _ hres; have hpost := HE.out.post (cells := #[.int .i64 o, .int .i64 n, .string s, .slice (some ⟨g7, 0, none⟩) (ks.length + 1) cap7, .slice ma ms.length mc]); clear hYe)
      | (refine wpList_store_row rfl 39 _ _ rfl (w.heap.size + 1) #[.int .i64 o, .int .i64 n, .string s, .slice (some ⟨g7, 0, none⟩) (ks.length + 1) cap7, .slice ma ms.length mc] rfl rfl 39 #[.int .i64 0, .int .i64 0, .string ⟨#[]⟩, .slice none 0 0, .slice none 0 0] hres ruleSize rfl (by simp [Value.oneCell']) ?_)
      | fail)
    generalize (w7.setCell ⟨Y, 3, none⟩ (.slice (some ⟨g7, 0, none⟩) (ks.length + 1) cap7)).setRow (w.heap.size + 1) #[.int .i64 o, .int .i64 n, .string s, .slice (some ⟨g7, 0, none⟩) (ks.length + 1) cap7, .slice ma ms.length mc] = WF at *
    have v0 : WF.cell? ⟨w.heap.size + 1, 0, none⟩ = some (.int .i64 o) := by rw [Lib.cell_of_heap hfin]; rfl
    have v1 : WF.cell? ⟨w.heap.size + 1, 1, none⟩ = some (.int .i64 n) := by rw [Lib.cell_of_heap hfin]; rfl
    have v2 : WF.cell? ⟨w.heap.size + 1, 2, none⟩ = some (.string s) := by rw [Lib.cell_of_heap hfin]; rfl
    have v3 : WF.cell? ⟨w.heap.size + 1, 3, none⟩ = some (.slice (some ⟨g7, 0, none⟩) (ks.length + 1) cap7) := by rw [Lib.cell_of_heap hfin]; rfl
    have v4 : WF.cell? ⟨w.heap.size + 1, 4, none⟩ = some (.slice ma ms.length mc) := by rw [Lib.cell_of_heap hfin]; rfl
    have HP := Lib.hid hpost
    clear hfin hpost hres y0 y1 y2 y3 y4
    refine bodyPost_ret (v := Fld.val ⟨o, n, s, some ⟨g7, 0, none⟩, ks.length + 1, cap7, ma, ms.length, mc⟩) ?_ rfl HP.out
    unfold Fld.val
    rw [results_cell1 rfl]
    go_simp
    all_goals rfl
  · clear f0 f1 f2 f3 f4
    have c4 : w5.cell? ⟨Y, 4, none⟩ = some (.slice ma ms.length mc) := by rw [Lib.cell_of_heap HS5.out.1]; rfl
    have HSd := Lib.hid (HS5.out.grown (grownN w5 1 (some b)) (HR5.out.kept (belowN (Below.refl _ _) 1) rfl))
    have HC1 := Lib.hid (stPick (m := 3) HSd.out (by omega) (by omega) (by omega))
    go_wp2_with fail
    go_region_law (first
      | (refine step_append_lies _ ?g1 ?gs ?gx 37 ?g2 (w.heap.size + 1 + 1) 117 j0 (.agg #[.int .i64 0, .int .i64 0]) 2 16 ?g3 ?g4 ?g5 ?g6 ?g7 ?g8 ?g9 (.slice ma ms.length mc) ms.length (cellsM ms) ?g10 ?h1 ⟨w7.heap.size, 0, none⟩ 1 1 [.int .i64 x7, .int .i64 (x8 - 1)] ?g11 ?g12 ?h2 ?h3 ?c1 ?c2 ?c3 ?c4 (w7.heap.size + 1) ?c5 ?_; (case g1 => rfl); (case g2 => rfl); (case g10 => rfl); (case g11 => rfl); (case h1 => exact HS7.out.2.2.2.1.alloc _); (case g3 => exact Tryz.underlying37); (case g4 => exact hj); (case g5 => exact hy0); (case g6 => exact hy1); (case g7 => exact hy2); (case g8 => rfl); (case g9 => decide); (case g12 => rfl); (case h2 => exact news_new _ _ _); (case h3 => intro u hu; simp at hu; rcases hu with rfl | rfl <;> rfl); (case c1 => decide); (case c2 => unfold maxLen; omega); (case c3 => omega); (case c4 => simp only [World.size_alloc]; have := HS7.out.2.2.2.2.2.2.2.2.2; have := (Array.getElem?_eq_some_iff.1 HS7.out.2.1).1; omega); (case c5 => simp only [World.size_alloc]); intro g9 cap9 w9 hown9 hgrow9 hat9 hlt9; have hY9 := (hgrow9.block Y (by have := (Array.getElem?_eq_some_iff.1 HS7.out.1).1; simp only [World.size_alloc]; omega) (fun e => by have h5 := HS7.out.2.2.2.2.2.1 Y e.symm; have h6 := HS7.out.2.2.2.2.2.2.1; omega)).trans ((Lib.alloc_old _ _ Y (Array.getElem?_eq_some_iff.1 HS7.out.1).1).trans HS7.out.1); have c49 : w9.cell? ⟨Y, 4, none⟩ = some (.slice ma ms.length mc) := (by rw [Lib.cell_of_heap hY9]; rfl); have f49 := Lib.frozen_of_heap hY9 4)
      | (go_simp; go_at_call_of 57 (Value.int IntKind.i64 3); go_must (refine HC1.out.mono ?_); rintro e w6 ⟨x7, l7, u7, rfl, HS6, c46, c46a, -⟩; have HC2 := Lib.hid (stPick (m := 4) HS6.out (by omega) (by omega) (by omega)))
      | (go_simp; go_at_call_of 57 (Value.int IntKind.i64 4); go_must (refine HC2.out.mono ?_); rintro e w7 ⟨x8, l8, u8, rfl, HS7, c47, c47a, kw8⟩; have c47b := c47a (.cells #[.int .i64 x7, .int .i64 (x8 - 1)] 117)))
    all_goals
      have HE : Hid (EndY b p (20 * wT (.node o n s ks ms)) (szT (.node o n s ks ms) + 12) (w.heap.size + 1) Y w (w9.setCell ⟨Y, 4, none⟩ (.slice (some ⟨g9, 0, none⟩) (ms.length + 1) cap9)) ⟨o, n, s, ka, ks.length, kc, some ⟨g9, 0, none⟩, ms.length + 1, cap9⟩) := HS7.out.addMark (m := (x7, x8 - 1)) ((Below.refl _ _).alloc (Nat.le_refl _) _) hown9 hgrow9 (by simp only [World.size_alloc]; exact hat9) (by have := HSZ.out; simp only [szT, List.length_append, List.length_cons, List.length_nil] at this ⊢; omega) (by omega)
      clear hown9 hgrow9 hat9 hlt9 hY9 c49 f49
      have hYe := HE.out.1
      have y0 : (w9.setCell ⟨Y, 4, none⟩ (.slice (some ⟨g9, 0, none⟩) (ms.length + 1) cap9)).cell? ⟨Y, 0, none⟩ = some (.int .i64 o) := by rw [Lib.cell_of_heap hYe]; rfl
      have y1 : (w9.setCell ⟨Y, 4, none⟩ (.slice (some ⟨g9, 0, none⟩) (ms.length + 1) cap9)).cell? ⟨Y, 1, none⟩ = some (.int .i64 n) := by rw [Lib.cell_of_heap hYe]; rfl
      have y2 : (w9.setCell ⟨Y, 4, none⟩ (.slice (some ⟨g9, 0, none⟩) (ms.length + 1) cap9)).cell? ⟨Y, 2, none⟩ = some (.string s) := by rw [Lib.cell_of_heap hYe]; rfl
      have y3 : (w9.setCell ⟨Y, 4, none⟩ (.slice (some ⟨g9, 0, none⟩) (ms.length + 1) cap9)).cell? ⟨Y, 3, none⟩ = some (.slice ka ks.length kc) := by rw [Lib.cell_of_heap hYe]; rfl
      have y4 : (w9.setCell ⟨Y, 4, none⟩ (.slice (some ⟨g9, 0, none⟩) (ms.length + 1) cap9)).cell? ⟨Y, 4, none⟩ = some (.slice (some ⟨g9, 0, none⟩) (ms.length + 1) cap9) := by rw [Lib.cell_of_heap hYe]; rfl
      have hres := HE.out.2.1
      have hfin : ((w9.setCell ⟨Y, 4, none⟩ (.slice (some ⟨g9, 0, none⟩) (ms.length + 1) cap9)).setRow (w.heap.size + 1) #[.int .i64 o, .int .i64 n, .string s, .slice ka ks.length kc, .slice (some ⟨g9, 0, none⟩) (ms.length + 1) cap9]).heap[w.heap.size + 1]? = some (.cells #[.int .i64 o, .int .i64 n, .string s, .slice ka ks.length kc, .slice (some ⟨g9, 0, none⟩) (ms.length + 1) cap9] 39 (0, 0)) := setRow_heap _ (w.heap.size + 1) _ _ _ _ hres
      have hpost := HE.out.post (cells := #[.int .i64 o, .int .i64 n, .string s, .slice ka ks.length kc, .slice (some ⟨g9, 0, none⟩) (ms.length + 1) cap9])
      clear hYe
      go_wp2_with (first
        | (refine wpList_store_row rfl 39 _ _ rfl (w.heap.size + 1) #[.int .i64 o, .int .i64 n, .string s, .slice ka ks.length kc, .slice (some ⟨g9, 0, none⟩) (ms.length + 1) cap9] rfl rfl 39 #[.int .i64 0, .int .i64 0, .string ⟨#[]⟩, .slice none 0 0, .slice none 0 0] hres ruleSize rfl (by simp [Value.oneCell']) ?_)
        | fail)
      generalize (w9.setCell ⟨Y, 4, none⟩ (.slice (some ⟨g9, 0, none⟩) (ms.length + 1) cap9)).setRow (w.heap.size + 1) #[.int .i64 o, .int .i64 n, .string s, .slice ka ks.length kc, .slice (some ⟨g9, 0, none⟩) (ms.length + 1) cap9] = WF at *
      have v0 : WF.cell? ⟨w.heap.size + 1, 0, none⟩ = some (.int .i64 o) := by rw [Lib.cell_of_heap hfin]; rfl
      have v1 : WF.cell? ⟨w.heap.size + 1, 1, none⟩ = some (.int .i64 n) := by rw [Lib.cell_of_heap hfin]; rfl
      have v2 : WF.cell? ⟨w.heap.size + 1, 2, none⟩ = some (.string s) := by rw [Lib.cell_of_heap hfin]; rfl
      have v3 : WF.cell? ⟨w.heap.size + 1, 3, none⟩ = some (.slice ka ks.length kc) := by rw [Lib.cell_of_heap hfin]; rfl
      have v4 : WF.cell? ⟨w.heap.size + 1, 4, none⟩ = some (.slice (some ⟨g9, 0, none⟩) (ms.length + 1) cap9) := by rw [Lib.cell_of_heap hfin]; rfl
      have HP := Lib.hid hpost
      clear hfin hpost hres y0 y1 y2 y3 y4
      refine bodyPost_ret (v := Fld.val ⟨o, n, s, ka, ks.length, kc, some ⟨g9, 0, none⟩, ms.length + 1, cap9⟩) ?_ rfl HP.out
      unfold Fld.val
      rw [results_cell1 rfl]
      go_simp
      all_goals rfl
  · clear f0 f1 f2 f3 f4
    have HW5 : Hid (WrapY b (p + 1) (w.heap.size + 1) Y 0 (szT (.node o n s ks ms)) w w5 ⟨o, n, s, ka, ks.length, kc, ma, ms.length, mc⟩) := by
      have h := HS5.out
      have hh := h
      obtain ⟨h1, h2, h3, h4, h5, h6, h7, h8, h9, h10, h11⟩ := h
      exact ⟨h1, h2, ⟨_, TrF.mono (fun x hx => ⟨hx.1, by omega⟩) _ _ (hh.tr o n s), by omega⟩, h8, h9, h10, h11, by omega⟩
    go_wp2_with fail
    go_loopw [7] (fun vi wr => ∃ (k : Nat) (f : Fld), k ≤ 6 ∧ vi = .int .i64 k ∧ Hid (WrapY b (p + 1) (w.heap.size + 1) Y k (szT (.node o n s ks ms)) w wr f)) (fun vi _ => 6 - (intOf vi).toNat)
    case atStart => exact ⟨0, ⟨o, n, s, ka, ks.length, kc, ma, ms.length, mc⟩, Nat.zero_le _, rfl, HW5⟩
    case round =>
      obtain ⟨k, f, hk6, rfl, hW⟩ := hrel
      clear HS5 HW5 HR5
      have hYe := hW.out.1
      have y0 : (wr).cell? ⟨Y, 0, none⟩ = some (.int .i64 f.op) := by rw [Lib.cell_of_heap hYe]; rfl
      have y1 : (wr).cell? ⟨Y, 1, none⟩ = some (.int .i64 f.num) := by rw [Lib.cell_of_heap hYe]; rfl
      have y2 : (wr).cell? ⟨Y, 2, none⟩ = some (.string f.name) := by rw [Lib.cell_of_heap hYe]; rfl
      have y3 : (wr).cell? ⟨Y, 3, none⟩ = some (.slice f.ka f.kl f.kc) := by rw [Lib.cell_of_heap hYe]; rfl
      have y4 : (wr).cell? ⟨Y, 4, none⟩ = some (.slice f.ma f.ml f.mc) := by rw [Lib.cell_of_heap hYe]; rfl
      rcases Nat.lt_or_ge k 6 with hlt | hge
      · have k1 : decide ((k : Int) < 6) = true := decide_eq_true (by omega)
        have kw : IntKind.i64.wrap ((k : Int) + 1) = ((k + 1 : Nat) : Int) := by rw [IntWalk.i64_in _ (by omega)]; omega
        have hYl := (Array.getElem?_eq_some_iff.1 hYe).1
        have hYA := (Lib.alloc_old wr (.cells #[.int .i64 f.op, .int .i64 f.num, .string f.name, .slice f.ka f.kl f.kc, .slice f.ma f.ml f.mc, .int .i64 1, .int .i64 0, .string ⟨#[]⟩, .slice none 0 0, .slice none 0 0] 39) Y hYl).trans hYe
        have HN := Lib.hid hW.out.next
        clear hYe hYl
        go_wp2_with (first
          | (refine wpList_store_row rfl 39 _ _ rfl Y #[.int .i64 3, .int .i64 0, .string ⟨#[]⟩, .slice (some ⟨wr.heap.size, 0, none⟩) 2 2, .slice none 0 0] rfl rfl 39 #[.int .i64 f.op, .int .i64 f.num, .string f.name, .slice f.ka f.kl f.kc, .slice f.ma f.ml f.mc] hYA ruleSize rfl (by simp [Value.oneCell']) ?_)
          | fail)
        clear hYA y0 y1 y2 y3 y4
        generalize ((wr.alloc (.cells #[.int .i64 f.op, .int .i64 f.num, .string f.name, .slice f.ka f.kl f.kc, .slice f.ma f.ml f.mc, .int .i64 1, .int .i64 0, .string ⟨#[]⟩, .slice none 0 0, .slice none 0 0] 39)).setRow Y #[.int .i64 3, .int .i64 0, .string ⟨#[]⟩, .slice (some ⟨wr.heap.size, 0, none⟩) 2 2, .slice none 0 0]) = WN at *
        go_roundw
        case rel => exact ⟨k + 1, _, by omega, by first | rfl | go_num | (rw [← kw]), HN⟩
        case measure => simp [intOf]; omega
      · obtain rfl : k = 6 := by omega
        have k1 : decide (((6 : Nat) : Int) < 6) = false := rfl
        have HE : Hid (EndY b p (20 * wT (.node o n s ks ms)) (szT (.node o n s ks ms) + 12) (w.heap.size + 1) Y w (wr) f) := by
          obtain ⟨h1, h2, ⟨t, h3, h4⟩, h5, h6, h7, h8, h9⟩ := hW.out
          exact ⟨h1, h2, ⟨t, TrF.mono (fun x hx => hx.1) _ _ h3, by omega⟩, ⟨_, h5, by omega⟩, h6, h7, h8⟩
        clear hYe y0 y1 y2 y3 y4
        have hYe := HE.out.1
        have y0 : (wr).cell? ⟨Y, 0, none⟩ = some (.int .i64 f.op) := by rw [Lib.cell_of_heap hYe]; rfl
        have y1 : (wr).cell? ⟨Y, 1, none⟩ = some (.int .i64 f.num) := by rw [Lib.cell_of_heap hYe]; rfl
        have y2 : (wr).cell? ⟨Y, 2, none⟩ = some (.string f.name) := by rw [Lib.cell_of_heap hYe]; rfl
        have y3 : (wr).cell? ⟨Y, 3, none⟩ = some (.slice f.ka f.kl f.kc) := by rw [Lib.cell_of_heap hYe]; rfl
        have y4 : (wr).cell? ⟨Y, 4, none⟩ = some (.slice f.ma f.ml f.mc) := by rw [Lib.cell_of_heap hYe]; rfl
        have hres := HE.out.2.1
        have hfin : ((wr).setRow (w.heap.size + 1) #[.int .i64 f.op, .int .i64 f.num, .string f.name, .slice f.ka f.kl f.kc, .slice f.ma f.ml f.mc]).heap[w.heap.size + 1]? = some (.cells #[.int .i64 f.op, .int .i64 f.num, .string f.name, .slice f.ka f.kl f.kc, .slice f.ma f.ml f.mc] 39 (0, 0)) := setRow_heap _ (w.heap.size + 1) _ _ _ _ hres
        have hpost := HE.out.post (cells := #[.int .i64 f.op, .int .i64 f.num, .string f.name, .slice f.ka f.kl f.kc, .slice f.ma f.ml f.mc])
        clear hYe
        go_wp2_with (first
          | (refine wpList_store_row rfl 39 _ _ rfl (w.heap.size + 1) #[.int .i64 f.op, .int .i64 f.num, .string f.name, .slice f.ka f.kl f.kc, .slice f.ma f.ml f.mc] rfl rfl 39 #[.int .i64 0, .int .i64 0, .string ⟨#[]⟩, .slice none 0 0, .slice none 0 0] hres ruleSize rfl (by simp [Value.oneCell']) ?_)
          | fail)
        generalize (wr).setRow (w.heap.size + 1) #[.int .i64 f.op, .int .i64 f.num, .string f.name, .slice f.ka f.kl f.kc, .slice f.ma f.ml f.mc] = WF at *
        have v0 : WF.cell? ⟨w.heap.size + 1, 0, none⟩ = some (.int .i64 f.op) := by rw [Lib.cell_of_heap hfin]; rfl
        have v1 : WF.cell? ⟨w.heap.size + 1, 1, none⟩ = some (.int .i64 f.num) := by rw [Lib.cell_of_heap hfin]; rfl
        have v2 : WF.cell? ⟨w.heap.size + 1, 2, none⟩ = some (.string f.name) := by rw [Lib.cell_of_heap hfin]; rfl
        have v3 : WF.cell? ⟨w.heap.size + 1, 3, none⟩ = some (.slice f.ka f.kl f.kc) := by rw [Lib.cell_of_heap hfin]; rfl
        have v4 : WF.cell? ⟨w.heap.size + 1, 4, none⟩ = some (.slice f.ma f.ml f.mc) := by rw [Lib.cell_of_heap hfin]; rfl
        have HP := Lib.hid hpost
        clear hfin hpost hres y0 y1 y2 y3 y4
        refine bodyPost_ret (v := f.val) ?_ rfl HP.out
        unfold Fld.val
        rw [results_cell1 rfl]
        go_simp
        all_goals rfl
end Go.Proofs.YtjphjnopdlfplaaGreatDoor
