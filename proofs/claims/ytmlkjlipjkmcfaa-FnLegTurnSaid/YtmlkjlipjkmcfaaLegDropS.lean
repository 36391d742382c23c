/-
  What is held of a leg let go, or made sold: the model's answers.
-/
import Derived.Test.YtmlkjlipjkmcfaaLegDropM
import Derived.Test.YtmlkjlipjkmcfaaLegOkM
import Derived.Test.YtmlkjlipjkmcfaaLegDropI
namespace Go.Proofs.Ytmlkjlipjkmcfaa
open Go.RowKit
set_option linter.unusedVariables false
set_option linter.unusedSimpArgs false

theorem dropD_lens {d : LegD} (h : OkLeg d) (txn : Int) : (dropD d txn).nL = 3 ∧ (dropD d txn).nS = 3 ∧ 1 ≤ (dropD d txn).nB ∧ (dropD d txn).nB ≤ 8 ∧ (dropD d txn).nH ≤ 10 := by
  have h1 := h.2.1.2.1
  have h2 := h.2.1.2.2.1
  have h3 := h.2.1.2.2.2.2.1
  have h4 := h.2.2.1.1
  unfold dropD
  split
  · exact ⟨h1, h2, by show 1 ≤ d.nB; omega, by show d.nB ≤ 8; omega, by show d.nH - 1 ≤ 10; omega⟩
  · exact ⟨h1, h2, by omega, by omega, by omega⟩
theorem keepD_lens {d : LegD} (h : OkLeg d) (txn : Int) : (keepD d txn).nL = 3 ∧ (keepD d txn).nS = 3 ∧ 1 ≤ (keepD d txn).nB ∧ (keepD d txn).nB ≤ 8 ∧ (keepD d txn).nH ≤ 10 := by
  have h1 := h.2.1.2.1
  have h2 := h.2.1.2.2.1
  have h3 := h.2.1.2.2.2.2.1
  have h4 := h.2.2.1.1
  unfold keepD
  split
  · exact ⟨h1, h2, by show 1 ≤ d.nB; omega, by show d.nB ≤ 8; omega, by show d.nH - 1 ≤ 10; omega⟩
  · exact ⟨h1, h2, by omega, by omega, by omega⟩

set_option maxRecDepth 100000 in
set_option maxHeartbeats 8000000 in
theorem LegDropM (d : LegD) (p : LegP) (txn : Int) (w : World) (hin : LegIn w d p) (hf : Fits d) (hc : d.nH ≤ p.cH) :
    Calls Try.prog 29 #[LegV d p, .int .i64 txn] w (LegPost d (dropD d txn) w) := by
  have hbC : Below w.heap.size w ((w.alloc (.cells (LegC d p) 31)).alloc (.cells #[.string ⟨#[]⟩, .string ⟨#[]⟩, .string ⟨#[]⟩, .int .i64 0, .int .i64 0, .int .i64 0, .slice none 0 0, .slice none 0 0, .slice none 0 0, .slice none 0 0] 31)) := ((Below.refl _ _).alloc (Nat.le_refl _) _).alloc (by simp) _
  have hX : LegBox ((w.alloc (.cells (LegC d p) 31)).alloc (.cells #[.string ⟨#[]⟩, .string ⟨#[]⟩, .string ⟨#[]⟩, .int .i64 0, .int .i64 0, .int .i64 0, .slice none 0 0, .slice none 0 0, .slice none 0 0, .slice none 0 0] 31)) w.heap.size d p := (LegBox.new w d p).kept ((Below.refl _ _).alloc (Nat.le_refl _) _)
  have hR : ((w.alloc (.cells (LegC d p) 31)).alloc (.cells #[.string ⟨#[]⟩, .string ⟨#[]⟩, .string ⟨#[]⟩, .int .i64 0, .int .i64 0, .int .i64 0, .slice none 0 0, .slice none 0 0, .slice none 0 0, .slice none 0 0] 31)).heap[w.heap.size + 1]? = some (.cells #[.string ⟨#[]⟩, .string ⟨#[]⟩, .string ⟨#[]⟩, .int .i64 0, .int .i64 0, .int .i64 0, .slice none 0 0, .slice none 0 0, .slice none 0 0, .slice none 0 0] 31 (0, 0)) := by
    have := heap_alloc_new (w.alloc (.cells (LegC d p) 31)) (.cells #[.string ⟨#[]⟩, .string ⟨#[]⟩, .string ⟨#[]⟩, .int .i64 0, .int .i64 0, .int .i64 0, .slice none 0 0, .slice none 0 0, .slice none 0 0, .slice none 0 0] 31)
    rwa [World.size_alloc] at this
  have Hin := Lib.hid hin
  have HF := Lib.hid hf
  have D0 := Lib.hid hbC
  have X0 := Lib.hid hX
  have R0 := Lib.hid hR
  have b0 := hX.c0
  have b1 := hX.c1
  have b2 := hX.c2
  have b3 := hX.c3
  have b4 := hX.c4
  have b5 := hX.c5
  have b6 := hX.c6
  have b7 := hX.c7
  have b8 := hX.c8
  have b9 := hX.c9
  rw [LegV_eq]
  generalize hLC : LegC d p = LC at *
  have HLC := Lib.hid hLC
  clear hbC hX hR hin hf hLC
  go_enter Try.func29, Try.ntmps29
  go_wp2_with fail
  generalize ((w.alloc (.cells LC 31)).alloc (.cells #[.string ⟨#[]⟩, .string ⟨#[]⟩, .string ⟨#[]⟩, .int .i64 0, .int .i64 0, .int .i64 0, .slice none 0 0, .slice none 0 0, .slice none 0 0, .slice none 0 0] 31)) = W0 at *
  refine (okM d p W0 (Hin.out.kept D0.out) HF.out).mono ?_
  rintro e w1 ⟨v, rfl, hv, d1⟩
  have X1 := X0.out.kept d1
  have R1 := Lib.hid ((d1.block _ (lt_heap R0.out)).trans R0.out)
  have X1h := Lib.hid X1
  have D1 := Lib.hid (bt D0.out d1)
  have hl0 := lt_heap R0.out
  have hl1 := d1.size
  clear b0 b1 b2 b3 b4 b5 b6 b7 b8 b9 d1
  have b0 := X1.c0
  have b1 := X1.c1
  have b2 := X1.c2
  have b3 := X1.c3
  have b4 := X1.c4
  have b5 := X1.c5
  have b6 := X1.c6
  have b7 := X1.c7
  have b8 := X1.c8
  have b9 := X1.c9
  clear X1
  cases v with
  | false =>
    have hno : Hid (¬ OkLeg d) := fun h => by have := hv.out.2 h; cases this
    clear hv
    go_wp2_with (first
      | (refine wpList_store_row rfl 31 _ _ rfl (w.heap.size + 1) #[.string ⟨#[]⟩, .string ⟨#[]⟩, .string ⟨#[]⟩, .int .i64 0, .int .i64 0, .int .i64 0, .slice none 0 0, .slice none 0 0, .slice none 0 0, .slice none 0 0] rfl rfl 31 #[.string ⟨#[]⟩, .string ⟨#[]⟩, .string ⟨#[]⟩, .int .i64 0, .int .i64 0, .int .i64 0, .slice none 0 0, .slice none 0 0, .slice none 0 0, .slice none 0 0] R1.out legSize rfl (leg_one1 zeroD zeroP) ?_)
      | fail)
    have hfin : LegBox (w1.setRow (w.heap.size + 1) #[.string ⟨#[]⟩, .string ⟨#[]⟩, .string ⟨#[]⟩, .int .i64 0, .int .i64 0, .int .i64 0, .slice none 0 0, .slice none 0 0, .slice none 0 0, .slice none 0 0]) (w.heap.size + 1) zeroD zeroP := setRow_heap w1 (w.heap.size + 1) _ _ _ _ R1.out
    have gr := grown_setRow w1 (w.heap.size + 1) #[.string ⟨#[]⟩, .string ⟨#[]⟩, .string ⟨#[]⟩, .int .i64 0, .int .i64 0, .int .i64 0, .slice none 0 0, .slice none 0 0, .slice none 0 0, .slice none 0 0]
    have hb2 := Lib.hid (D1.out.grown gr D1.out.size (fun q e => by cases e; omega))
    clear b0 b1 b2 b3 b4 b5 b6 b7 b8 b9
    generalize w1.setRow (w.heap.size + 1) #[.string ⟨#[]⟩, .string ⟨#[]⟩, .string ⟨#[]⟩, .int .i64 0, .int .i64 0, .int .i64 0, .slice none 0 0, .slice none 0 0, .slice none 0 0, .slice none 0 0] = W2 at *
    have a0 := hfin.c0
    have a1 := hfin.c1
    have a2 := hfin.c2
    have a3 := hfin.c3
    have a4 := hfin.c4
    have a5 := hfin.c5
    have a6 := hfin.c6
    have a7 := hfin.c7
    have a8 := hfin.c8
    have a9 := hfin.c9
    clear hfin gr
    refine bodyPost_ret (v := LegV zeroD zeroP) ?_ rfl ⟨zeroD, zeroP, rfl, ⟨fun h => absurd h hno.out, fun _ => rfl⟩, (zero_new W2).mono hb2.out.size, hb2.out⟩
    rw [LegV_eq]
    unfold LegC
    rw [results_cell1 rfl]
    go_simp
  | true =>
  have hyes : Hid (OkLeg d) := hv.out.1 rfl
  clear hv
  have hlens := dropD_lens hyes.out txn
  have HLens := Lib.hid (dropD_lens hyes.out txn)
  clear hlens
  go_wp2_with fail
  refine (dropM d p txn w1 (Hin.out.kept D1.out) hyes.out.2.2.1 hc).mono ?_
  rintro e w2 ⟨⟨a, c, rfl, hac, hin2⟩, d2⟩
  have s2 := d2.size
  go_wp2_with fail
  refine (copyM (dropD d txn) _ w2 hin2 HLens.out.1 HLens.out.2.1 HLens.out.2.2.1 HLens.out.2.2.2.1 HLens.out.2.2.2.2).mono ?_
  rintro e w4 ⟨p4, rfl, hnew, d4⟩
  have D4 := bt (bt D1.out d2) d4
  have R4 := (d4.block (w.heap.size + 1) (by omega)).trans ((d2.block (w.heap.size + 1) (by omega)).trans R1.out)
  have R4h := Lib.hid R4
  clear b0 b1 b2 b3 b4 b5 b6 b7 b8 b9
  go_wp2_with (first
    | (refine wpList_store_row rfl 31 _ _ rfl (w.heap.size + 1) (LegC (dropD d txn) p4) rfl rfl 31 #[.string ⟨#[]⟩, .string ⟨#[]⟩, .string ⟨#[]⟩, .int .i64 0, .int .i64 0, .int .i64 0, .slice none 0 0, .slice none 0 0, .slice none 0 0, .slice none 0 0] R4h.out legSize rfl (leg_one1 _ _) ?_)
    | fail)
  have hfin : LegBox (w4.setRow (w.heap.size + 1) (LegC (dropD d txn) p4)) (w.heap.size + 1) (dropD d txn) p4 := setRow_heap w4 (w.heap.size + 1) _ _ _ _ R4h.out
  have gr := grown_setRow w4 (w.heap.size + 1) (LegC (dropD d txn) p4)
  have hb6 := D4.grown gr D4.size (fun q e => by cases e; omega)
  have N6 := (hnew.far gr (fun q e => by cases e; omega)).mono (B' := w.heap.size) (by omega)
  have HN6 := Lib.hid N6
  generalize w4.setRow (w.heap.size + 1) (LegC (dropD d txn) p4) = W6 at *
  have y0 := hfin.c0
  have y1 := hfin.c1
  have y2 := hfin.c2
  have y3 := hfin.c3
  have y4 := hfin.c4
  have y5 := hfin.c5
  have y6 := hfin.c6
  have y7 := hfin.c7
  have y8 := hfin.c8
  have y9 := hfin.c9
  clear hfin gr N6 hnew
  refine bodyPost_ret (v := LegV (dropD d txn) p4) ?_ rfl ⟨dropD d txn, p4, rfl, ⟨fun _ => rfl, fun h => absurd hyes.out h⟩, HN6.out, hb6⟩
  rw [LegV_eq]
  unfold LegC
  rw [results_cell1 rfl]
  go_simp
  all_goals rfl
end Go.Proofs.Ytmlkjlipjkmcfaa
