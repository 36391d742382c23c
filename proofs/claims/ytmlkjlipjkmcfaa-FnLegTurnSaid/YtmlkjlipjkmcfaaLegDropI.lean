/-
  What is held of a leg let go, or made sold: the program's answers.
-/
import Derived.Test.YtmlkjlipjkmcfaaLegDropMath
namespace Go.Proofs.Ytmlkjlipjkmcfaa
open Go.RowKit
set_option linter.unusedVariables false
set_option linter.unusedSimpArgs false

/-- A leg is handed back: the leg g if l is ok, nothing if not. -/
def LegPost (d g : LegD) (w : World) (e : Ending) (w' : World) : Prop :=
  ∃ d' p', e = .returned (LegV d' p') ∧ Hid ((OkLeg d → d' = g) ∧ (¬ OkLeg d → d' = zeroD)) ∧ LegNew w.heap.size w' d' p' ∧ Below w.heap.size w w'

/-- A store into what is sold. -/
theorem LegNewT.setS {B T : Nat} {w : World} {d : LegD} {p : LegP} (h : LegNewT B T w d p) {m : Nat} (hm : m < d.nS) (v : Int) :
    ∃ g, p.aS = some ⟨g, 0, none⟩ ∧ B ≤ g ∧ g < T ∧ w.cell? ⟨g, m, none⟩ = some (.int .i64 (d.S m)) ∧ w.frozen? ⟨g, m, none⟩ = false ∧ LegNewT B T (w.setCell ⟨g, m, none⟩ (.int .i64 v)) { d with S := fun i => if i = m then v else d.S i } p := by
  obtain ⟨hc, b1, b2, b3, b4, q1, q2, q3, q4, q5, q6, h1, h2, h3, h4⟩ := h
  rcases h2 with h2 | ⟨g, ha, r1, r2, r3, r4⟩
  · omega
  · have gs := grown_set w ⟨g, m, none⟩ (.int .i64 v)
    refine ⟨g, ha, by omega, by omega, (r4 m hm).1, (r4 m hm).2, hc, b1, b2, b3, b4, q1, q2, q3, q4, q5, Nat.le_trans q6 gs.size, h1.far gs (fun k e => by cases e; right; exact r1), ?_, h3.far gs (fun k e => by cases e; left; exact r2), h4.far gs (fun k e => by cases e; left; show g < _; omega)⟩
    refine .inr ⟨g, ha, r1, r2, Nat.lt_of_lt_of_le r3 gs.size, fun i hi => ?_⟩
    have r4i := r4 i hi
    refine ⟨?_, by simpa [go_sem] using r4i.2⟩
    by_cases e : i = m
    · subst e; simp [go_sem, r4i.1]
    · simp [go_sem, r4i.1, e]
theorem keep_same {d : LegD} {txn y z : Int} {D : LegD} (hs : LegSame D (dropD d txn)) {m : Nat} (hy : y = m) (h : (posT d.t txn d.nH < d.nH ∧ y = d.c (posT d.t txn d.nH) ∧ z = d.s (posT d.t txn d.nH)) ∨ (posT d.t txn d.nH = d.nH ∧ y = 0 ∧ z = 0)) :
    LegSame { D with S := fun i => if i = m then D.S m + z else D.S i } (keepD d txn) := by
  unfold keepD
  unfold dropD at hs
  rcases h with ⟨h1, h2, h3⟩ | ⟨h1, h2, h3⟩
  · rw [if_pos h1] at hs ⊢
    refine ⟨hs.name, hs.fr, hs.to, hs.dep, hs.arr, hs.cap, hs.nL, hs.nS, hs.nB, hs.nH, hs.L, fun i hi => ?_, hs.B, hs.H⟩
    have hS : D.S i = d.S i := hs.S i hi
    show (if i = m then D.S m + z else D.S i) = if (i : Int) = d.c _ then d.S i + d.s _ else d.S i
    rw [← h2, ← h3, hy]
    by_cases e : i = m
    · subst e; rw [if_pos rfl, if_pos rfl, hS]
    · rw [if_neg e, if_neg (by omega), hS]
  · rw [if_neg (by omega)] at hs ⊢
    refine ⟨hs.name, hs.fr, hs.to, hs.dep, hs.arr, hs.cap, hs.nL, hs.nS, hs.nB, hs.nH, hs.L, fun i hi => ?_, hs.B, hs.H⟩
    have hS : D.S i = d.S i := hs.S i hi
    show (if i = m then D.S m + z else D.S i) = d.S i
    by_cases e : i = m
    · subst e; rw [if_pos rfl, h3, hS]; omega
    · rw [if_neg e, hS]
theorem LegIn.nS {d : LegD} (h : OkLeg d) : d.nS = 3 := h.2.1.2.2.1

set_option maxRecDepth 100000 in
set_option maxHeartbeats 8000000 in
theorem LegDropI (d : LegD) (p : LegP) (txn : Int) (w : World) (hin : LegIn w d p) (hf : Fits d) (hc : d.nS ≤ p.cS) :
    Calls Try.prog 24 #[LegV d p, .int .i64 txn] w (LegPost d (dropD d txn) w) := by
  have hbC : Below w.heap.size w ((w.alloc (.cells (LegC d p) 31)).alloc (.cells #[.string ⟨#[]⟩, .string ⟨#[]⟩, .string ⟨#[]⟩, .int .i64 0, .int .i64 0, .int .i64 0, .slice none 0 0, .slice none 0 0, .slice none 0 0, .slice none 0 0] 31)) := ((Below.refl _ _).alloc (Nat.le_refl _) _).alloc (by simp) _
  have hX : LegBox ((w.alloc (.cells (LegC d p) 31)).alloc (.cells #[.string ⟨#[]⟩, .string ⟨#[]⟩, .string ⟨#[]⟩, .int .i64 0, .int .i64 0, .int .i64 0, .slice none 0 0, .slice none 0 0, .slice none 0 0, .slice none 0 0] 31)) w.heap.size d p := (LegBox.new w d p).kept ((Below.refl _ _).alloc (Nat.le_refl _) _)
  have hR : ((w.alloc (.cells (LegC d p) 31)).alloc (.cells #[.string ⟨#[]⟩, .string ⟨#[]⟩, .string ⟨#[]⟩, .int .i64 0, .int .i64 0, .int .i64 0, .slice none 0 0, .slice none 0 0, .slice none 0 0, .slice none 0 0] 31)).heap[w.heap.size + 1]? = some (.cells #[.string ⟨#[]⟩, .string ⟨#[]⟩, .string ⟨#[]⟩, .int .i64 0, .int .i64 0, .int .i64 0, .slice none 0 0, .slice none 0 0, .slice none 0 0, .slice none 0 0] 31 (0, 0)) := by
    have := heap_alloc_new (w.alloc (.cells (LegC d p) 31)) (.cells #[.string ⟨#[]⟩, .string ⟨#[]⟩, .string ⟨#[]⟩, .int .i64 0, .int .i64 0, .int .i64 0, .slice none 0 0, .slice none 0 0, .slice none 0 0, .slice none 0 0] 31)
    rwa [World.size_alloc] at this
  have Hin := Lib.hid hin
  have HF := Lib.hid hf
  have D0 := Lib.hid hbC
  have X0 := Lib.hid hX
  have R0 := Lib.hid hR
  have b0 := hX.c0
  have b1 := hX.c1
  have b2 := hX.c2
  have b3 := hX.c3
  have b4 := hX.c4
  have b5 := hX.c5
  have b6 := hX.c6
  have b7 := hX.c7
  have b8 := hX.c8
  have b9 := hX.c9
  rw [LegV_eq]
  generalize hLC : LegC d p = LC at *
  have HLC := Lib.hid hLC
  clear hbC hX hR hin hf hLC
  go_enter Try.func24, Try.ntmps24
  go_wp2_with fail
  generalize ((w.alloc (.cells LC 31)).alloc (.cells #[.string ⟨#[]⟩, .string ⟨#[]⟩, .string ⟨#[]⟩, .int .i64 0, .int .i64 0, .int .i64 0, .slice none 0 0, .slice none 0 0, .slice none 0 0, .slice none 0 0] 31)) = W0 at *
  refine (okI d p W0 (Hin.out.kept D0.out) HF.out hc).mono ?_
  rintro e w1 ⟨v, rfl, hv, d1⟩
  have X1 := X0.out.kept d1
  have R1 := Lib.hid ((d1.block _ (lt_heap R0.out)).trans R0.out)
  have D1 := Lib.hid (bt D0.out d1)
  have hl0 := lt_heap R0.out
  have hl1 := d1.size
  clear b0 b1 b2 b3 b4 b5 b6 b7 b8 b9 d1
  have b0 := X1.c0
  have b1 := X1.c1
  have b2 := X1.c2
  have b3 := X1.c3
  have b4 := X1.c4
  have b5 := X1.c5
  have b6 := X1.c6
  have b7 := X1.c7
  have b8 := X1.c8
  have b9 := X1.c9
  clear X1
  cases v with
  | false =>
    have hno : Hid (¬ OkLeg d) := fun h => by have := hv.out.2 h; cases this
    clear hv
    go_wp2_with (first
      | (refine wpList_store_row rfl 31 _ _ rfl (w.heap.size + 1) #[.string ⟨#[]⟩, .string ⟨#[]⟩, .string ⟨#[]⟩, .int .i64 0, .int .i64 0, .int .i64 0, .slice none 0 0, .slice none 0 0, .slice none 0 0, .slice none 0 0] rfl rfl 31 #[.string ⟨#[]⟩, .string ⟨#[]⟩, .string ⟨#[]⟩, .int .i64 0, .int .i64 0, .int .i64 0, .slice none 0 0, .slice none 0 0, .slice none 0 0, .slice none 0 0] R1.out legSize rfl (leg_one1 zeroD zeroP) ?_)
      | fail)
    have hfin : LegBox (w1.setRow (w.heap.size + 1) #[.string ⟨#[]⟩, .string ⟨#[]⟩, .string ⟨#[]⟩, .int .i64 0, .int .i64 0, .int .i64 0, .slice none 0 0, .slice none 0 0, .slice none 0 0, .slice none 0 0]) (w.heap.size + 1) zeroD zeroP := setRow_heap w1 (w.heap.size + 1) _ _ _ _ R1.out
    have gr := grown_setRow w1 (w.heap.size + 1) #[.string ⟨#[]⟩, .string ⟨#[]⟩, .string ⟨#[]⟩, .int .i64 0, .int .i64 0, .int .i64 0, .slice none 0 0, .slice none 0 0, .slice none 0 0, .slice none 0 0]
    have hb2 := Lib.hid (D1.out.grown gr D1.out.size (fun q e => by cases e; omega))
    clear b0 b1 b2 b3 b4 b5 b6 b7 b8 b9
    generalize w1.setRow (w.heap.size + 1) #[.string ⟨#[]⟩, .string ⟨#[]⟩, .string ⟨#[]⟩, .int .i64 0, .int .i64 0, .int .i64 0, .slice none 0 0, .slice none 0 0, .slice none 0 0, .slice none 0 0] = W2 at *
    have a0 := hfin.c0
    have a1 := hfin.c1
    have a2 := hfin.c2
    have a3 := hfin.c3
    have a4 := hfin.c4
    have a5 := hfin.c5
    have a6 := hfin.c6
    have a7 := hfin.c7
    have a8 := hfin.c8
    have a9 := hfin.c9
    clear hfin gr
    refine bodyPost_ret (v := LegV zeroD zeroP) ?_ rfl ⟨zeroD, zeroP, rfl, ⟨fun h => absurd h hno.out, fun _ => rfl⟩, (zero_new W2).mono hb2.out.size, hb2.out⟩
    rw [LegV_eq]
    unfold LegC
    rw [results_cell1 rfl]
    go_simp
  | true =>
  have hyes : Hid (OkLeg d) := hv.out.1 rfl
  clear hv
  go_wp2_with fail
  refine (legWithoutI d p txn w1 (Hin.out.kept D1.out) HF.out hyes.out.2.2.1).mono ?_
  rintro e w2 ⟨p2, L, x, y, z, M, hrd, htk, rfl, hnew, d2⟩
  have HT := Lib.hid (taken_drop hyes.out.2.2.1 hrd htk)
  have hl2 := d2.size
  have hb3 : Below w2.heap.size w2 ((w2.alloc (.cells #[.string ⟨#[]⟩, .string ⟨#[]⟩, .string ⟨#[]⟩, .int .i64 0, .int .i64 0, .int .i64 0, .slice none 0 0, .slice none 0 0, .slice none 0 0, .slice none 0 0] 31)).alloc (.cells #[.int .i64 0, .int .i64 0, .int .i64 0] 35)) := ((Below.refl _ _).alloc (Nat.le_refl _) _).alloc (by simp) _
  have D3 := bt (bt D1.out d2) hb3
  have R3 := (hb3.block (w.heap.size + 1) (by omega)).trans ((d2.block (w.heap.size + 1) (by omega)).trans R1.out)
  have N3 := hnew.toT.kept hb3
  have P3 : ((w2.alloc (.cells #[.string ⟨#[]⟩, .string ⟨#[]⟩, .string ⟨#[]⟩, .int .i64 0, .int .i64 0, .int .i64 0, .slice none 0 0, .slice none 0 0, .slice none 0 0, .slice none 0 0] 31)).alloc (.cells #[.int .i64 0, .int .i64 0, .int .i64 0] 35)).heap[w2.heap.size]? = some (.cells #[.string ⟨#[]⟩, .string ⟨#[]⟩, .string ⟨#[]⟩, .int .i64 0, .int .i64 0, .int .i64 0, .slice none 0 0, .slice none 0 0, .slice none 0 0, .slice none 0 0] 31 (0, 0)) := (((Below.refl _ _).alloc (Nat.le_refl _) _).block _ (by simp)).trans (heap_alloc_new w2 _)
  have Q3 : ((w2.alloc (.cells #[.string ⟨#[]⟩, .string ⟨#[]⟩, .string ⟨#[]⟩, .int .i64 0, .int .i64 0, .int .i64 0, .slice none 0 0, .slice none 0 0, .slice none 0 0, .slice none 0 0] 31)).alloc (.cells #[.int .i64 0, .int .i64 0, .int .i64 0] 35)).heap[w2.heap.size + 1]? = some (.cells #[.int .i64 0, .int .i64 0, .int .i64 0] 35 (0, 0)) := by
    have := heap_alloc_new (w2.alloc (.cells #[.string ⟨#[]⟩, .string ⟨#[]⟩, .string ⟨#[]⟩, .int .i64 0, .int .i64 0, .int .i64 0, .slice none 0 0, .slice none 0 0, .slice none 0 0, .slice none 0 0] 31)) (.cells #[.int .i64 0, .int .i64 0, .int .i64 0] 35)
    rwa [World.size_alloc] at this
  have P4 : LegBox (((w2.alloc (.cells #[.string ⟨#[]⟩, .string ⟨#[]⟩, .string ⟨#[]⟩, .int .i64 0, .int .i64 0, .int .i64 0, .slice none 0 0, .slice none 0 0, .slice none 0 0, .slice none 0 0] 31)).alloc (.cells #[.int .i64 0, .int .i64 0, .int .i64 0] 35)).setRow w2.heap.size (LegC (withH d M) p2)) w2.heap.size (withH d M) p2 := setRow_heap _ _ _ _ _ _ P3
  have Q4 := (setRow_other ((w2.alloc (.cells #[.string ⟨#[]⟩, .string ⟨#[]⟩, .string ⟨#[]⟩, .int .i64 0, .int .i64 0, .int .i64 0, .slice none 0 0, .slice none 0 0, .slice none 0 0, .slice none 0 0] 31)).alloc (.cells #[.int .i64 0, .int .i64 0, .int .i64 0] 35)) w2.heap.size (w2.heap.size + 1) (LegC (withH d M) p2) (by omega)).trans Q3
  have R4 := (setRow_other ((w2.alloc (.cells #[.string ⟨#[]⟩, .string ⟨#[]⟩, .string ⟨#[]⟩, .int .i64 0, .int .i64 0, .int .i64 0, .slice none 0 0, .slice none 0 0, .slice none 0 0, .slice none 0 0] 31)).alloc (.cells #[.int .i64 0, .int .i64 0, .int .i64 0] 35)) w2.heap.size (w.heap.size + 1) (LegC (withH d M) p2) (by omega)).trans R3
  have g4 := grown_setRow ((w2.alloc (.cells #[.string ⟨#[]⟩, .string ⟨#[]⟩, .string ⟨#[]⟩, .int .i64 0, .int .i64 0, .int .i64 0, .slice none 0 0, .slice none 0 0, .slice none 0 0, .slice none 0 0] 31)).alloc (.cells #[.int .i64 0, .int .i64 0, .int .i64 0] 35)) w2.heap.size (LegC (withH d M) p2)
  have N4 := N3.far g4 (fun q e => by cases e; exact Or.inr (Nat.le_refl _))
  have D4 := D3.grown g4 D3.size (fun q e => by cases e; omega)
  have P5 : LegBox ((((w2.alloc (.cells #[.string ⟨#[]⟩, .string ⟨#[]⟩, .string ⟨#[]⟩, .int .i64 0, .int .i64 0, .int .i64 0, .slice none 0 0, .slice none 0 0, .slice none 0 0, .slice none 0 0] 31)).alloc (.cells #[.int .i64 0, .int .i64 0, .int .i64 0] 35)).setRow w2.heap.size (LegC (withH d M) p2)).setRow (w2.heap.size + 1) #[.int .i64 x, .int .i64 y, .int .i64 z]) w2.heap.size (withH d M) p2 := (setRow_other _ (w2.heap.size + 1) w2.heap.size _ (by omega)).trans P4
  have Q5 : ((((w2.alloc (.cells #[.string ⟨#[]⟩, .string ⟨#[]⟩, .string ⟨#[]⟩, .int .i64 0, .int .i64 0, .int .i64 0, .slice none 0 0, .slice none 0 0, .slice none 0 0, .slice none 0 0] 31)).alloc (.cells #[.int .i64 0, .int .i64 0, .int .i64 0] 35)).setRow w2.heap.size (LegC (withH d M) p2)).setRow (w2.heap.size + 1) #[.int .i64 x, .int .i64 y, .int .i64 z]).heap[w2.heap.size + 1]? = some (.cells #[.int .i64 x, .int .i64 y, .int .i64 z] 35 (0, 0)) := setRow_heap _ _ _ _ _ _ Q4
  have R5 := (setRow_other (((w2.alloc (.cells #[.string ⟨#[]⟩, .string ⟨#[]⟩, .string ⟨#[]⟩, .int .i64 0, .int .i64 0, .int .i64 0, .slice none 0 0, .slice none 0 0, .slice none 0 0, .slice none 0 0] 31)).alloc (.cells #[.int .i64 0, .int .i64 0, .int .i64 0] 35)).setRow w2.heap.size (LegC (withH d M) p2)) (w2.heap.size + 1) (w.heap.size + 1) #[.int .i64 x, .int .i64 y, .int .i64 z] (by omega)).trans R4
  have g5 := grown_setRow (((w2.alloc (.cells #[.string ⟨#[]⟩, .string ⟨#[]⟩, .string ⟨#[]⟩, .int .i64 0, .int .i64 0, .int .i64 0, .slice none 0 0, .slice none 0 0, .slice none 0 0, .slice none 0 0] 31)).alloc (.cells #[.int .i64 0, .int .i64 0, .int .i64 0] 35)).setRow w2.heap.size (LegC (withH d M) p2)) (w2.heap.size + 1) #[.int .i64 x, .int .i64 y, .int .i64 z]
  have N5 := N4.far g5 (fun q e => by cases e; exact Or.inr (by omega))
  have D5 := Lib.hid (D4.grown g5 D4.size (fun q e => by cases e; omega))
  have P3h := Lib.hid P3
  have Q4h := Lib.hid Q4
  have R5h := Lib.hid R5
  have N5h := Lib.hid N5
  have P5h := Lib.hid P5
  have Q5h := Lib.hid Q5
  clear b0 b1 b2 b3 b4 b5 b6 b7 b8 b9 hrd htk hnew d2 hb3 D3 R3 N3 P3 Q3 P4 Q4 R4 g4 N4 D4 Q5 R5 g5 N5
  have c0 := P5.c0
  have c1 := P5.c1
  have c2 := P5.c2
  have c3 := P5.c3
  have c4 := P5.c4
  have c5 := P5.c5
  have c6 := P5.c6
  have c7 := P5.c7
  have c8 := P5.c8
  have c9 := P5.c9
  clear P5
  go_wp2_with (first
    | (refine wpList_store_row rfl 31 _ _ rfl w2.heap.size (LegC (withH d M) p2) rfl rfl 31 #[.string ⟨#[]⟩, .string ⟨#[]⟩, .string ⟨#[]⟩, .int .i64 0, .int .i64 0, .int .i64 0, .slice none 0 0, .slice none 0 0, .slice none 0 0, .slice none 0 0] P3h.out legSize rfl (leg_one1 _ _) ?_)
    | (refine wpList_store_row rfl 35 _ _ rfl (w2.heap.size + 1) #[.int .i64 x, .int .i64 y, .int .i64 z] rfl rfl 35 #[.int .i64 0, .int .i64 0, .int .i64 0] Q4h.out holdSize rfl (hold_one _ _ _) ?_)
    | (refine wpList_store_row rfl 31 _ _ rfl (w.heap.size + 1) (LegC (withH d M) p2) rfl rfl 31 #[.string ⟨#[]⟩, .string ⟨#[]⟩, .string ⟨#[]⟩, .int .i64 0, .int .i64 0, .int .i64 0, .slice none 0 0, .slice none 0 0, .slice none 0 0, .slice none 0 0] R5h.out legSize rfl (leg_one1 _ _) ?_)
    | fail)
  clear c0 c1 c2 c3 c4 c5 c6 c7 c8 c9
  generalize ((((w2.alloc (.cells #[.string ⟨#[]⟩, .string ⟨#[]⟩, .string ⟨#[]⟩, .int .i64 0, .int .i64 0, .int .i64 0, .slice none 0 0, .slice none 0 0, .slice none 0 0, .slice none 0 0] 31)).alloc (.cells #[.int .i64 0, .int .i64 0, .int .i64 0] 35)).setRow w2.heap.size (LegC (withH d M) p2)).setRow (w2.heap.size + 1) #[.int .i64 x, .int .i64 y, .int .i64 z]) = W5 at *
  have hfin : LegBox (W5.setRow (w.heap.size + 1) (LegC (withH d M) p2)) (w.heap.size + 1) (withH d M) p2 := setRow_heap W5 (w.heap.size + 1) _ _ _ _ R5h.out
  have gr := grown_setRow W5 (w.heap.size + 1) (LegC (withH d M) p2)
  have hb6 := D5.out.grown gr D5.out.size (fun q e => by cases e; omega)
  have N6 := ((N5h.out.far gr (fun q e => by cases e; exact Or.inl (by omega))).new.mono (B' := w.heap.size) (by have := D1.out.size; omega)).same HT.out.1
  have HN6 := Lib.hid N6
  generalize W5.setRow (w.heap.size + 1) (LegC (withH d M) p2) = W6 at *
  have a0 := hfin.c0
  have a1 := hfin.c1
  have a2 := hfin.c2
  have a3 := hfin.c3
  have a4 := hfin.c4
  have a5 := hfin.c5
  have a6 := hfin.c6
  have a7 := hfin.c7
  have a8 := hfin.c8
  have a9 := hfin.c9
  clear hfin gr N6
  have hV : LegV (withH d M) p2 = LegV (dropD d txn) p2 := LegV.same HT.out.1 p2
  refine bodyPost_ret (v := LegV (withH d M) p2) ?_ rfl ⟨dropD d txn, p2, by rw [hV], ⟨fun _ => rfl, fun h => absurd hyes.out h⟩, HN6.out, hb6⟩
  rw [LegV_eq]
  unfold LegC
  rw [results_cell1 rfl]
  go_simp

set_option maxRecDepth 100000 in
set_option maxHeartbeats 8000000 in
theorem LegKeepI (d : LegD) (p : LegP) (txn : Int) (w : World) (hin : LegIn w d p) (hf : Fits d) (hc : d.nS ≤ p.cS) :
    Calls Try.prog 26 #[LegV d p, .int .i64 txn] w (LegPost d (keepD d txn) w) := by
  have hbC : Below w.heap.size w ((w.alloc (.cells (LegC d p) 31)).alloc (.cells #[.string ⟨#[]⟩, .string ⟨#[]⟩, .string ⟨#[]⟩, .int .i64 0, .int .i64 0, .int .i64 0, .slice none 0 0, .slice none 0 0, .slice none 0 0, .slice none 0 0] 31)) := ((Below.refl _ _).alloc (Nat.le_refl _) _).alloc (by simp) _
  have hX : LegBox ((w.alloc (.cells (LegC d p) 31)).alloc (.cells #[.string ⟨#[]⟩, .string ⟨#[]⟩, .string ⟨#[]⟩, .int .i64 0, .int .i64 0, .int .i64 0, .slice none 0 0, .slice none 0 0, .slice none 0 0, .slice none 0 0] 31)) w.heap.size d p := (LegBox.new w d p).kept ((Below.refl _ _).alloc (Nat.le_refl _) _)
  have hR : ((w.alloc (.cells (LegC d p) 31)).alloc (.cells #[.string ⟨#[]⟩, .string ⟨#[]⟩, .string ⟨#[]⟩, .int .i64 0, .int .i64 0, .int .i64 0, .slice none 0 0, .slice none 0 0, .slice none 0 0, .slice none 0 0] 31)).heap[w.heap.size + 1]? = some (.cells #[.string ⟨#[]⟩, .string ⟨#[]⟩, .string ⟨#[]⟩, .int .i64 0, .int .i64 0, .int .i64 0, .slice none 0 0, .slice none 0 0, .slice none 0 0, .slice none 0 0] 31 (0, 0)) := by
    have := heap_alloc_new (w.alloc (.cells (LegC d p) 31)) (.cells #[.string ⟨#[]⟩, .string ⟨#[]⟩, .string ⟨#[]⟩, .int .i64 0, .int .i64 0, .int .i64 0, .slice none 0 0, .slice none 0 0, .slice none 0 0, .slice none 0 0] 31)
    rwa [World.size_alloc] at this
  have Hin := Lib.hid hin
  have HF := Lib.hid hf
  have D0 := Lib.hid hbC
  have X0 := Lib.hid hX
  have R0 := Lib.hid hR
  have b0 := hX.c0
  have b1 := hX.c1
  have b2 := hX.c2
  have b3 := hX.c3
  have b4 := hX.c4
  have b5 := hX.c5
  have b6 := hX.c6
  have b7 := hX.c7
  have b8 := hX.c8
  have b9 := hX.c9
  rw [LegV_eq]
  generalize hLC : LegC d p = LC at *
  have HLC := Lib.hid hLC
  clear hbC hX hR hin hf hLC
  go_enter Try.func26, Try.ntmps26
  go_wp2_with fail
  generalize ((w.alloc (.cells LC 31)).alloc (.cells #[.string ⟨#[]⟩, .string ⟨#[]⟩, .string ⟨#[]⟩, .int .i64 0, .int .i64 0, .int .i64 0, .slice none 0 0, .slice none 0 0, .slice none 0 0, .slice none 0 0] 31)) = W0 at *
  refine (okI d p W0 (Hin.out.kept D0.out) HF.out hc).mono ?_
  rintro e w1 ⟨v, rfl, hv, d1⟩
  have X1 := X0.out.kept d1
  have R1 := Lib.hid ((d1.block _ (lt_heap R0.out)).trans R0.out)
  have D1 := Lib.hid (bt D0.out d1)
  have hl0 := lt_heap R0.out
  have hl1 := d1.size
  clear b0 b1 b2 b3 b4 b5 b6 b7 b8 b9 d1
  have b0 := X1.c0
  have b1 := X1.c1
  have b2 := X1.c2
  have b3 := X1.c3
  have b4 := X1.c4
  have b5 := X1.c5
  have b6 := X1.c6
  have b7 := X1.c7
  have b8 := X1.c8
  have b9 := X1.c9
  clear X1
  cases v with
  | false =>
    have hno : Hid (¬ OkLeg d) := fun h => by have := hv.out.2 h; cases this
    clear hv
    go_wp2_with (first
      | (refine wpList_store_row rfl 31 _ _ rfl (w.heap.size + 1) #[.string ⟨#[]⟩, .string ⟨#[]⟩, .string ⟨#[]⟩, .int .i64 0, .int .i64 0, .int .i64 0, .slice none 0 0, .slice none 0 0, .slice none 0 0, .slice none 0 0] rfl rfl 31 #[.string ⟨#[]⟩, .string ⟨#[]⟩, .string ⟨#[]⟩, .int .i64 0, .int .i64 0, .int .i64 0, .slice none 0 0, .slice none 0 0, .slice none 0 0, .slice none 0 0] R1.out legSize rfl (leg_one1 zeroD zeroP) ?_)
      | fail)
    have hfin : LegBox (w1.setRow (w.heap.size + 1) #[.string ⟨#[]⟩, .string ⟨#[]⟩, .string ⟨#[]⟩, .int .i64 0, .int .i64 0, .int .i64 0, .slice none 0 0, .slice none 0 0, .slice none 0 0, .slice none 0 0]) (w.heap.size + 1) zeroD zeroP := setRow_heap w1 (w.heap.size + 1) _ _ _ _ R1.out
    have gr := grown_setRow w1 (w.heap.size + 1) #[.string ⟨#[]⟩, .string ⟨#[]⟩, .string ⟨#[]⟩, .int .i64 0, .int .i64 0, .int .i64 0, .slice none 0 0, .slice none 0 0, .slice none 0 0, .slice none 0 0]
    have hb2 := Lib.hid (D1.out.grown gr D1.out.size (fun q e => by cases e; omega))
    clear b0 b1 b2 b3 b4 b5 b6 b7 b8 b9
    generalize w1.setRow (w.heap.size + 1) #[.string ⟨#[]⟩, .string ⟨#[]⟩, .string ⟨#[]⟩, .int .i64 0, .int .i64 0, .int .i64 0, .slice none 0 0, .slice none 0 0, .slice none 0 0, .slice none 0 0] = W2 at *
    have a0 := hfin.c0
    have a1 := hfin.c1
    have a2 := hfin.c2
    have a3 := hfin.c3
    have a4 := hfin.c4
    have a5 := hfin.c5
    have a6 := hfin.c6
    have a7 := hfin.c7
    have a8 := hfin.c8
    have a9 := hfin.c9
    clear hfin gr
    refine bodyPost_ret (v := LegV zeroD zeroP) ?_ rfl ⟨zeroD, zeroP, rfl, ⟨fun h => absurd h hno.out, fun _ => rfl⟩, (zero_new W2).mono hb2.out.size, hb2.out⟩
    rw [LegV_eq]
    unfold LegC
    rw [results_cell1 rfl]
    go_simp
  | true =>
  have hyes : Hid (OkLeg d) := hv.out.1 rfl
  clear hv
  go_wp2_with fail
  refine (legWithoutI d p txn w1 (Hin.out.kept D1.out) HF.out hyes.out.2.2.1).mono ?_
  rintro e w2 ⟨p2, L, x, y, z, M, hrd, htk, rfl, hnew, d2⟩
  have HT := Lib.hid (taken_drop hyes.out.2.2.1 hrd htk)
  have hl2 := d2.size
  have hb3 : Below w2.heap.size w2 ((w2.alloc (.cells #[.string ⟨#[]⟩, .string ⟨#[]⟩, .string ⟨#[]⟩, .int .i64 0, .int .i64 0, .int .i64 0, .slice none 0 0, .slice none 0 0, .slice none 0 0, .slice none 0 0] 31)).alloc (.cells #[.int .i64 0, .int .i64 0, .int .i64 0] 35)) := ((Below.refl _ _).alloc (Nat.le_refl _) _).alloc (by simp) _
  have D3 := bt (bt D1.out d2) hb3
  have R3 := (hb3.block (w.heap.size + 1) (by omega)).trans ((d2.block (w.heap.size + 1) (by omega)).trans R1.out)
  have N3 := hnew.toT.kept hb3
  have P3 : ((w2.alloc (.cells #[.string ⟨#[]⟩, .string ⟨#[]⟩, .string ⟨#[]⟩, .int .i64 0, .int .i64 0, .int .i64 0, .slice none 0 0, .slice none 0 0, .slice none 0 0, .slice none 0 0] 31)).alloc (.cells #[.int .i64 0, .int .i64 0, .int .i64 0] 35)).heap[w2.heap.size]? = some (.cells #[.string ⟨#[]⟩, .string ⟨#[]⟩, .string ⟨#[]⟩, .int .i64 0, .int .i64 0, .int .i64 0, .slice none 0 0, .slice none 0 0, .slice none 0 0, .slice none 0 0] 31 (0, 0)) := (((Below.refl _ _).alloc (Nat.le_refl _) _).block _ (by simp)).trans (heap_alloc_new w2 _)
  have Q3 : ((w2.alloc (.cells #[.string ⟨#[]⟩, .string ⟨#[]⟩, .string ⟨#[]⟩, .int .i64 0, .int .i64 0, .int .i64 0, .slice none 0 0, .slice none 0 0, .slice none 0 0, .slice none 0 0] 31)).alloc (.cells #[.int .i64 0, .int .i64 0, .int .i64 0] 35)).heap[w2.heap.size + 1]? = some (.cells #[.int .i64 0, .int .i64 0, .int .i64 0] 35 (0, 0)) := by
    have := heap_alloc_new (w2.alloc (.cells #[.string ⟨#[]⟩, .string ⟨#[]⟩, .string ⟨#[]⟩, .int .i64 0, .int .i64 0, .int .i64 0, .slice none 0 0, .slice none 0 0, .slice none 0 0, .slice none 0 0] 31)) (.cells #[.int .i64 0, .int .i64 0, .int .i64 0] 35)
    rwa [World.size_alloc] at this
  have P4 : LegBox (((w2.alloc (.cells #[.string ⟨#[]⟩, .string ⟨#[]⟩, .string ⟨#[]⟩, .int .i64 0, .int .i64 0, .int .i64 0, .slice none 0 0, .slice none 0 0, .slice none 0 0, .slice none 0 0] 31)).alloc (.cells #[.int .i64 0, .int .i64 0, .int .i64 0] 35)).setRow w2.heap.size (LegC (withH d M) p2)) w2.heap.size (withH d M) p2 := setRow_heap _ _ _ _ _ _ P3
  have Q4 := (setRow_other ((w2.alloc (.cells #[.string ⟨#[]⟩, .string ⟨#[]⟩, .string ⟨#[]⟩, .int .i64 0, .int .i64 0, .int .i64 0, .slice none 0 0, .slice none 0 0, .slice none 0 0, .slice none 0 0] 31)).alloc (.cells #[.int .i64 0, .int .i64 0, .int .i64 0] 35)) w2.heap.size (w2.heap.size + 1) (LegC (withH d M) p2) (by omega)).trans Q3
  have R4 := (setRow_other ((w2.alloc (.cells #[.string ⟨#[]⟩, .string ⟨#[]⟩, .string ⟨#[]⟩, .int .i64 0, .int .i64 0, .int .i64 0, .slice none 0 0, .slice none 0 0, .slice none 0 0, .slice none 0 0] 31)).alloc (.cells #[.int .i64 0, .int .i64 0, .int .i64 0] 35)) w2.heap.size (w.heap.size + 1) (LegC (withH d M) p2) (by omega)).trans R3
  have g4 := grown_setRow ((w2.alloc (.cells #[.string ⟨#[]⟩, .string ⟨#[]⟩, .string ⟨#[]⟩, .int .i64 0, .int .i64 0, .int .i64 0, .slice none 0 0, .slice none 0 0, .slice none 0 0, .slice none 0 0] 31)).alloc (.cells #[.int .i64 0, .int .i64 0, .int .i64 0] 35)) w2.heap.size (LegC (withH d M) p2)
  have N4 := N3.far g4 (fun q e => by cases e; exact Or.inr (Nat.le_refl _))
  have D4 := D3.grown g4 D3.size (fun q e => by cases e; omega)
  have P5 : LegBox ((((w2.alloc (.cells #[.string ⟨#[]⟩, .string ⟨#[]⟩, .string ⟨#[]⟩, .int .i64 0, .int .i64 0, .int .i64 0, .slice none 0 0, .slice none 0 0, .slice none 0 0, .slice none 0 0] 31)).alloc (.cells #[.int .i64 0, .int .i64 0, .int .i64 0] 35)).setRow w2.heap.size (LegC (withH d M) p2)).setRow (w2.heap.size + 1) #[.int .i64 x, .int .i64 y, .int .i64 z]) w2.heap.size (withH d M) p2 := (setRow_other _ (w2.heap.size + 1) w2.heap.size _ (by omega)).trans P4
  have Q5 : ((((w2.alloc (.cells #[.string ⟨#[]⟩, .string ⟨#[]⟩, .string ⟨#[]⟩, .int .i64 0, .int .i64 0, .int .i64 0, .slice none 0 0, .slice none 0 0, .slice none 0 0, .slice none 0 0] 31)).alloc (.cells #[.int .i64 0, .int .i64 0, .int .i64 0] 35)).setRow w2.heap.size (LegC (withH d M) p2)).setRow (w2.heap.size + 1) #[.int .i64 x, .int .i64 y, .int .i64 z]).heap[w2.heap.size + 1]? = some (.cells #[.int .i64 x, .int .i64 y, .int .i64 z] 35 (0, 0)) := setRow_heap _ _ _ _ _ _ Q4
  have R5 := (setRow_other (((w2.alloc (.cells #[.string ⟨#[]⟩, .string ⟨#[]⟩, .string ⟨#[]⟩, .int .i64 0, .int .i64 0, .int .i64 0, .slice none 0 0, .slice none 0 0, .slice none 0 0, .slice none 0 0] 31)).alloc (.cells #[.int .i64 0, .int .i64 0, .int .i64 0] 35)).setRow w2.heap.size (LegC (withH d M) p2)) (w2.heap.size + 1) (w.heap.size + 1) #[.int .i64 x, .int .i64 y, .int .i64 z] (by omega)).trans R4
  have g5 := grown_setRow (((w2.alloc (.cells #[.string ⟨#[]⟩, .string ⟨#[]⟩, .string ⟨#[]⟩, .int .i64 0, .int .i64 0, .int .i64 0, .slice none 0 0, .slice none 0 0, .slice none 0 0, .slice none 0 0] 31)).alloc (.cells #[.int .i64 0, .int .i64 0, .int .i64 0] 35)).setRow w2.heap.size (LegC (withH d M) p2)) (w2.heap.size + 1) #[.int .i64 x, .int .i64 y, .int .i64 z]
  have N5 := N4.far g5 (fun q e => by cases e; exact Or.inr (by omega))
  have D5 := Lib.hid (D4.grown g5 D4.size (fun q e => by cases e; omega))
  have P3h := Lib.hid P3
  have Q4h := Lib.hid Q4
  have R5h := Lib.hid R5
  have N5h := Lib.hid N5
  have P5h := Lib.hid P5
  have Q5h := Lib.hid Q5
  clear b0 b1 b2 b3 b4 b5 b6 b7 b8 b9 hrd htk hnew d2 hb3 D3 R3 N3 P3 Q3 P4 Q4 R4 g4 N4 D4 Q5 R5 g5 N5
  have hyz : ∃ m : Nat, m < 3 ∧ y = m ∧ -9 ≤ z ∧ z ≤ 9 := by
    rcases HT.out.2 with ⟨h1, h2, h3⟩ | ⟨h1, h2, h3⟩
    · have q := (hyes.out.2.2.1.2 _ h1).1
      have q2 := q.2.1
      have q3 := q.2.2.1
      have q4 := hyes.out.2.1.1
      exact ⟨y.toNat, by omega, by omega, by omega, by omega⟩
    · exact ⟨0, by omega, by omega, by omega, by omega⟩
  obtain ⟨m, hm3, hym, hz0, hz9⟩ := hyz
  have hnS : (withH d M).nS = 3 := hyes.out.2.1.2.2.1
  have hSm := hyes.out.2.1.sold.2 m hm3
  have hwz : IntKind.i64.wrap (d.S m + z) = d.S m + z := IntWalk.i64_in _ (by omega)
  obtain ⟨g, hag, hBg, hgT, cS, fS, N6⟩ := N5h.out.setS (m := m) (by rw [hnS]; exact hm3) (d.S m + z)
  have N6h := Lib.hid N6
  have c7 := P5.c7
  rw [hag, hnS] at c7
  obtain ⟨u0, u1', u2⟩ := row3 Q5h.out
  have u1 : ((((w2.alloc (.cells #[.string ⟨#[]⟩, .string ⟨#[]⟩, .string ⟨#[]⟩, .int .i64 0, .int .i64 0, .int .i64 0, .slice none 0 0, .slice none 0 0, .slice none 0 0, .slice none 0 0] 31)).alloc (.cells #[.int .i64 0, .int .i64 0, .int .i64 0] 35)).setRow w2.heap.size (LegC (withH d M) p2)).setRow (w2.heap.size + 1) #[.int .i64 x, .int .i64 y, .int .i64 z]).cell? ⟨w2.heap.size + 1, 1, none⟩ = some (.int .i64 (m : Int)) := by rw [← hym]; exact u1'
  clear u1'
  have HY := Lib.hid hym
  have HAG := Lib.hid hag
  have hSw : (withH d M).S m = d.S m := rfl
  rw [hSw] at cS
  have m1 : (m : Int) < 3 := by omega
  have m0 : (0 : Int) ≤ m := by omega
  clear P5 N6 hag hym hnS hSw
  go_wp2_with (first
    | (refine wpList_store_row rfl 31 _ _ rfl w2.heap.size (LegC (withH d M) p2) rfl rfl 31 #[.string ⟨#[]⟩, .string ⟨#[]⟩, .string ⟨#[]⟩, .int .i64 0, .int .i64 0, .int .i64 0, .slice none 0 0, .slice none 0 0, .slice none 0 0, .slice none 0 0] P3h.out legSize rfl (leg_one1 _ _) ?_)
    | (refine wpList_store_row rfl 35 _ _ rfl (w2.heap.size + 1) #[.int .i64 x, .int .i64 y, .int .i64 z] rfl rfl 35 #[.int .i64 0, .int .i64 0, .int .i64 0] Q4h.out holdSize rfl (hold_one _ _ _) ?_)
    | fail)
  go_frame
  have P6 : LegBox ((((((w2.alloc (.cells #[.string ⟨#[]⟩, .string ⟨#[]⟩, .string ⟨#[]⟩, .int .i64 0, .int .i64 0, .int .i64 0, .slice none 0 0, .slice none 0 0, .slice none 0 0, .slice none 0 0] 31)).alloc (.cells #[.int .i64 0, .int .i64 0, .int .i64 0] 35)).setRow w2.heap.size (LegC (withH d M) p2)).setRow (w2.heap.size + 1) #[.int .i64 x, .int .i64 y, .int .i64 z]).setCell ⟨g, m, none⟩ (.int .i64 (d.S m + z))).drew) w2.heap.size (withH d M) p2 := ((set_other _ (by omega)).trans P5h.out : (((((w2.alloc (.cells #[.string ⟨#[]⟩, .string ⟨#[]⟩, .string ⟨#[]⟩, .int .i64 0, .int .i64 0, .int .i64 0, .slice none 0 0, .slice none 0 0, .slice none 0 0, .slice none 0 0] 31)).alloc (.cells #[.int .i64 0, .int .i64 0, .int .i64 0] 35)).setRow w2.heap.size (LegC (withH d M) p2)).setRow (w2.heap.size + 1) #[.int .i64 x, .int .i64 y, .int .i64 z]).setCell ⟨g, m, none⟩ (.int .i64 (d.S m + z))).heap[w2.heap.size]? = _)
  have R6 : ((((((w2.alloc (.cells #[.string ⟨#[]⟩, .string ⟨#[]⟩, .string ⟨#[]⟩, .int .i64 0, .int .i64 0, .int .i64 0, .slice none 0 0, .slice none 0 0, .slice none 0 0, .slice none 0 0] 31)).alloc (.cells #[.int .i64 0, .int .i64 0, .int .i64 0] 35)).setRow w2.heap.size (LegC (withH d M) p2)).setRow (w2.heap.size + 1) #[.int .i64 x, .int .i64 y, .int .i64 z]).setCell ⟨g, m, none⟩ (.int .i64 (d.S m + z))).drew).heap[w.heap.size + 1]? = some (.cells #[.string ⟨#[]⟩, .string ⟨#[]⟩, .string ⟨#[]⟩, .int .i64 0, .int .i64 0, .int .i64 0, .slice none 0 0, .slice none 0 0, .slice none 0 0, .slice none 0 0] 31 (0, 0)) := ((set_other _ (by have := D1.out.size; omega)).trans R5h.out : (((((w2.alloc (.cells #[.string ⟨#[]⟩, .string ⟨#[]⟩, .string ⟨#[]⟩, .int .i64 0, .int .i64 0, .int .i64 0, .slice none 0 0, .slice none 0 0, .slice none 0 0, .slice none 0 0] 31)).alloc (.cells #[.int .i64 0, .int .i64 0, .int .i64 0] 35)).setRow w2.heap.size (LegC (withH d M) p2)).setRow (w2.heap.size + 1) #[.int .i64 x, .int .i64 y, .int .i64 z]).setCell ⟨g, m, none⟩ (.int .i64 (d.S m + z))).heap[w.heap.size + 1]? = _)
  have D6 := Lib.hid ((D5.out.setCell (p := ⟨g, m, none⟩) (by show w.heap.size ≤ g; have := D1.out.size; omega) (.int .i64 (d.S m + z))).drew)
  have N7 := Lib.hid (N6h.out.kept (Below.refl _ _).drew)
  have P6h := Lib.hid P6
  have R6h := Lib.hid R6
  clear P6 R6
  generalize ((((w2.alloc (.cells #[.string ⟨#[]⟩, .string ⟨#[]⟩, .string ⟨#[]⟩, .int .i64 0, .int .i64 0, .int .i64 0, .slice none 0 0, .slice none 0 0, .slice none 0 0, .slice none 0 0] 31)).alloc (.cells #[.int .i64 0, .int .i64 0, .int .i64 0] 35)).setRow w2.heap.size (LegC (withH d M) p2)).setRow (w2.heap.size + 1) #[.int .i64 x, .int .i64 y, .int .i64 z]) = W5 at *
  go_region
  all_goals
    have P6 := P6h.out
    clear cS fS c7 u0 u1 u2
    have c0 := P6.c0
    have c1 := P6.c1
    have c2 := P6.c2
    have c3 := P6.c3
    have c4 := P6.c4
    have c5 := P6.c5
    have c6 := P6.c6
    have c7 := P6.c7
    have c8 := P6.c8
    have c9 := P6.c9
    clear P6
    generalize (W5.setCell ⟨g, m, none⟩ (.int .i64 (d.S m + z))).drew = W6 at *
    go_wp2_with (first
      | (refine wpList_store_row rfl 31 _ _ rfl (w.heap.size + 1) (LegC (withH d M) p2) rfl rfl 31 #[.string ⟨#[]⟩, .string ⟨#[]⟩, .string ⟨#[]⟩, .int .i64 0, .int .i64 0, .int .i64 0, .slice none 0 0, .slice none 0 0, .slice none 0 0, .slice none 0 0] R6h.out legSize rfl (leg_one1 _ _) ?_)
      | fail)
    clear c0 c1 c2 c3 c4 c5 c6 c7 c8 c9
    have hfin : LegBox (W6.setRow (w.heap.size + 1) (LegC (withH d M) p2)) (w.heap.size + 1) (withH d M) p2 := setRow_heap W6 (w.heap.size + 1) _ _ _ _ R6h.out
    have gr := grown_setRow W6 (w.heap.size + 1) (LegC (withH d M) p2)
    have hb6 := D6.out.grown gr D6.out.size (fun q e => by cases e; omega)
    have hks := keep_same (m := m) HT.out.1 HY.out HT.out.2
    have N8 := ((N7.out.far gr (fun q e => by cases e; exact Or.inl (by omega))).new.mono (B' := w.heap.size) (by have := D1.out.size; omega)).same hks
    have HN8 := Lib.hid N8
    generalize W6.setRow (w.heap.size + 1) (LegC (withH d M) p2) = W8 at *
    have a0 := hfin.c0
    have a1 := hfin.c1
    have a2 := hfin.c2
    have a3 := hfin.c3
    have a4 := hfin.c4
    have a5 := hfin.c5
    have a6 := hfin.c6
    have a7 := hfin.c7
    have a8 := hfin.c8
    have a9 := hfin.c9
    clear hfin gr N8
    have hV : LegV (withH d M) p2 = LegV (keepD d txn) p2 := LegV.same hks p2
    refine bodyPost_ret (v := LegV (withH d M) p2) ?_ rfl ⟨keepD d txn, p2, by rw [hV], ⟨fun _ => rfl, fun h => absurd hyes.out h⟩, HN8.out, hb6⟩
    rw [LegV_eq]
    unfold LegC
    rw [results_cell1 rfl]
    go_simp
end Go.Proofs.Ytmlkjlipjkmcfaa
