/-
  The legs that the laws draw: sound, or spoilt.
-/
import Derived.Test.YtdaccpffdnbkiaaGreatDoorDrawSpoil
import Derived.Test.YtdaccpffdnbkiaaGreatDoorDrawSold
namespace Go.Proofs.YtdaccpffdnbkiaaGreatDoor
open Go.RowKit
set_option linter.unusedVariables false
set_option linter.unusedSimpArgs false

theorem legNew_offD {B x : Nat} {W : World} {d : LegD} {p : LegP} (h : LegNew B W d p) (hx : x < B) : LegOff x d p := by
  obtain ⟨-, b1, b2, b3, b4, q1, q2, q3, q4, -, h1, h2, h3, h4⟩ := h
  refine ⟨fun h0 y hy => ?_, fun h0 y hy => ?_, fun h0 y hy => ?_, fun h0 y hy => ?_⟩
  · rcases h1 with h1 | ⟨g, ha, r1, -⟩
    · omega
    · rw [ha] at hy; cases hy; show g ≠ x; omega
  · rcases h2 with h1 | ⟨g, ha, r1, -⟩
    · omega
    · rw [ha] at hy; cases hy; show g ≠ x; omega
  · rcases h3 with h1 | ⟨g, ha, r1, -⟩
    · omega
    · rw [ha] at hy; cases hy; show g ≠ x; omega
  · rcases h4 with h1 | ⟨g, ha, r1, -⟩
    · omega
    · rw [ha] at hy; cases hy; show g ≠ x; omega
theorem leg_oneD (d : LegD) (p : LegP) : (LegC d p).all (·.oneCell') = true := by simp [LegC, Value.oneCell']
def DrawnL (w : World) (e : Ending) (w' : World) : Prop := ∃ d p, e = .returned (LegV d p) ∧ Hid (Fits d ∧ d.nS ≤ p.cS) ∧ LegIn w' d p ∧ (∀ x, x < w.heap.size → LegOff x d p) ∧ Below w.heap.size w w'
theorem fits_okD {d : LegD} (h : OkLeg d) : Fits d := okLeg_fits h
theorem legCellsD {W : World} {k : Nat} {d : LegD} {p : LegP} (h : W.heap[k]? = some (.cells (LegC d p) 25 (0, 0))) :
    W.cell? ⟨k, 0, none⟩ = some (.string d.name) ∧ W.cell? ⟨k, 1, none⟩ = some (.string d.fr) ∧ W.cell? ⟨k, 2, none⟩ = some (.string d.to) ∧ W.cell? ⟨k, 3, none⟩ = some (.int .i64 d.dep) ∧ W.cell? ⟨k, 4, none⟩ = some (.int .i64 d.arr) ∧ W.cell? ⟨k, 5, none⟩ = some (.int .i64 d.cap) ∧ W.cell? ⟨k, 6, none⟩ = some (.slice p.aL d.nL p.cL) ∧ W.cell? ⟨k, 7, none⟩ = some (.slice p.aS d.nS p.cS) ∧ W.cell? ⟨k, 8, none⟩ = some (.slice p.aB d.nB p.cB) ∧ W.cell? ⟨k, 9, none⟩ = some (.slice p.aH d.nH p.cH) := by
  refine ⟨?_, ?_, ?_, ?_, ?_, ?_, ?_, ?_, ?_, ?_⟩ <;> (rw [Lib.cell_of_heap h]; rfl)
theorem leg_boxD (w : World) (d : LegD) (p : LegP) : Below w.heap.size w ((w.alloc (.cells #[.string ⟨#[]⟩, .string ⟨#[]⟩, .string ⟨#[]⟩, .int .i64 0, .int .i64 0, .int .i64 0, .slice none 0 0, .slice none 0 0, .slice none 0 0, .slice none 0 0] 25)).setRow w.heap.size (LegC d p)) ∧ ((w.alloc (.cells #[.string ⟨#[]⟩, .string ⟨#[]⟩, .string ⟨#[]⟩, .int .i64 0, .int .i64 0, .int .i64 0, .slice none 0 0, .slice none 0 0, .slice none 0 0, .slice none 0 0] 25)).setRow w.heap.size (LegC d p)).heap[w.heap.size]? = some (.cells (LegC d p) 25 (0, 0)) :=
  ⟨((Below.refl _ _).alloc (Nat.le_refl _) _).grown (grown_setRow _ _ _) (by simp) (fun k e => by cases e; exact Nat.le_refl _), setRow_heap _ _ _ _ _ _ (heap_alloc_new w _)⟩
set_option maxRecDepth 100000 in
set_option maxHeartbeats 8000000 in
theorem drawLegOk (a0 : Option Addr) (len cap : Nat) (z : List Int) (w : World) (w0 : IsRow .u8 w a0 len cap z) :
    Calls Tryz.prog 36 #[.slice a0 len cap] w (DrawnL w) := by
  have W0 := Lib.hid w0
  have hA : Below w.heap.size w (w.alloc (.cells #[.string ⟨#[]⟩, .string ⟨#[]⟩, .string ⟨#[]⟩, .int .i64 0, .int .i64 0, .int .i64 0, .slice none 0 0, .slice none 0 0, .slice none 0 0, .slice none 0 0] 25)) := (Below.refl _ _).alloc (Nat.le_refl _) _
  have HA := Lib.hid hA
  have HX0 : Hid ((w.alloc (.cells #[.string ⟨#[]⟩, .string ⟨#[]⟩, .string ⟨#[]⟩, .int .i64 0, .int .i64 0, .int .i64 0, .slice none 0 0, .slice none 0 0, .slice none 0 0, .slice none 0 0] 25)).heap[w.heap.size]? = some (.cells #[.string ⟨#[]⟩, .string ⟨#[]⟩, .string ⟨#[]⟩, .int .i64 0, .int .i64 0, .int .i64 0, .slice none 0 0, .slice none 0 0, .slice none 0 0, .slice none 0 0] 25 (0, 0))) := heap_alloc_new w _
  have KO := Lib.hid (opened a0 len cap z (w.alloc (.cells #[.string ⟨#[]⟩, .string ⟨#[]⟩, .string ⟨#[]⟩, .int .i64 0, .int .i64 0, .int .i64 0, .slice none 0 0, .slice none 0 0, .slice none 0 0, .slice none 0 0] 25)) (by
    rcases w0 with h | ⟨x, h1, h2, h3, h4, h5, h6⟩
    · exact Or.inl h
    · exact Or.inr ⟨x, h1, h2, h3, h4, fun i hi => (hA.cell (p := x.add i) (World.block_lt_of_cell? w _ (h5 i hi))).trans (h5 i hi), h6⟩))
  clear w0 hA W0
  go_enter Tryz.func36, Tryz.ntmps36
  go_wp2_with fail
  refine KO.out.mono ?_
  rintro e w1 ⟨rfl, hr1, hb1, hz1⟩
  have hzA : (w.alloc (.cells #[.string ⟨#[]⟩, .string ⟨#[]⟩, .string ⟨#[]⟩, .int .i64 0, .int .i64 0, .int .i64 0, .slice none 0 0, .slice none 0 0, .slice none 0 0, .slice none 0 0] 25)).heap.size = w.heap.size + 1 := by simp
  have HX1 := Lib.hid ((hb1.block w.heap.size (by omega)).trans HX0.out)
  have HB1 := Lib.hid (HA.out.trans (hb1.mono (by omega)))
  generalize w.alloc (.cells #[.string ⟨#[]⟩, .string ⟨#[]⟩, .string ⟨#[]⟩, .int .i64 0, .int .i64 0, .int .i64 0, .slice none 0 0, .slice none 0 0, .slice none 0 0, .slice none 0 0] 25) = wA at *
  have hlw : w.heap.size < wA.heap.size := by omega
  have hzz : wA.heap.size ≤ w1.heap.size := hb1.size
  have hBw1 : wA.heap.size < w1.heap.size := hr1.le.2
  clear hzA hz1
  generalize wA.heap.size = B at *
  have KD := Lib.hid (drawSold B B 0 w1 hr1 (by omega))
  clear hr1 hb1 KO HA HX0
  go_wp2_with fail
  refine KD.out.mono ?_
  rintro e w2 ⟨d, p, rfl, hok, hnew, hrt, hg2⟩
  have HOK := Lib.hid hok.out
  obtain ⟨q2, hq2, hr2⟩ := hrt
  have hBz2 : B ≤ w2.heap.size := Nat.le_trans hzz hg2.size
  have hs12 : w1.heap.size ≤ w2.heap.size := hg2.size
  obtain ⟨t1, t2⟩ := leg_boxD w2 d p
  have HR2 := Lib.hid (hr2.kept (t1.mono hBz2) (t1.block _ hr2.le.2))
  have HX2 := Lib.hid ((t1.block w.heap.size (by have := hg2.size; omega)).trans ((hg2.block w.heap.size (by omega) (by simp; omega)).trans HX1.out))
  have HB2 := Lib.hid ((HB1.out.grown hg2 (by omega) (fun k e => by cases e; omega)).trans (t1.mono (by have := hg2.size; omega)))
  have HI2 := Lib.hid (hnew.leg.kept t1)
  have HN2 := Lib.hid (hnew.kept t1)
  have HK2 := Lib.hid t2
  have HZ2 := Lib.hid (heap_alloc_new w2 (.cells #[.string ⟨#[]⟩, .string ⟨#[]⟩, .string ⟨#[]⟩, .int .i64 0, .int .i64 0, .int .i64 0, .slice none 0 0, .slice none 0 0, .slice none 0 0, .slice none 0 0] 25))
  have KP := Lib.hid (pick B B q2 2 _ HR2.out (by omega) (by omega) (by omega))
  clear hok hnew hr2 hg2 KD t1 t2 HX1 HB1
  unfold LegV
  go_wp2_with (first
    | (refine wpList_store_row rfl 25 _ _ rfl w2.heap.size (LegC d p) rfl rfl 25 #[.string ⟨#[]⟩, .string ⟨#[]⟩, .string ⟨#[]⟩, .int .i64 0, .int .i64 0, .int .i64 0, .slice none 0 0, .slice none 0 0, .slice none 0 0, .slice none 0 0] HZ2.out legSize rfl (leg_oneD d p) ?_)
    | fail)
  generalize (w2.alloc (.cells #[.string ⟨#[]⟩, .string ⟨#[]⟩, .string ⟨#[]⟩, .int .i64 0, .int .i64 0, .int .i64 0, .slice none 0 0, .slice none 0 0, .slice none 0 0, .slice none 0 0] 25)).setRow w2.heap.size (LegC d p) = w3 at *
  have hk2 : w2.heap.size < w3.heap.size := lt_heap HK2.out
  generalize w2.heap.size = k2 at *
  clear HZ2 HI2
  refine KP.out.mono ?_
  rintro e w4 ⟨x, l1, u1, rfl, hr4, hg4, -⟩
  have HN4 := HN2.out.far hg4 (fun k e => by cases e; exact hBw1)
  have HK4 := Lib.hid ((hg4.block k2 hk2 (by simp; omega)).trans HK2.out)
  have HX4 := Lib.hid ((hg4.block w.heap.size (lt_heap HX2.out) (by simp; omega)).trans HX2.out)
  have HB4 := Lib.hid (HB2.out.grown hg4 HB2.out.size (fun k e => by cases e; omega))
  have HNh := Lib.hid HN4
  have hw4 : w.heap.size < w4.heap.size := lt_heap HX4.out
  have HR4 := Lib.hid hr4
  clear hg4 hr4 HN4 HN2 HK2 HX2 HB2 HR2 KP
  by_cases hx : x = 0
  · subst hx
    have KS := Lib.hid (drawSpoil B B _ d p w4 HR4.out (by omega) HOK.out HNh.out.leg)
    obtain ⟨z0, z1, z2, z3, z4, z5, z6, z7, z8, z9⟩ := legCellsD HK4.out
    unfold LegV at KS
    go_wp2_with fail
    refine KS.out.mono ?_
    rintro e w5 ⟨d', p', rfl, hf, hin, hoB, hoff, -, hg5⟩
    have HX5 := Lib.hid ((hg5.block w.heap.size hw4 (by simp; omega)).trans HX4.out)
    have gs := grown_setRow w5 w.heap.size (LegC d' p')
    have HI6 := Lib.hid (hin.farX (hoff _ hw4) gs)
    have HB5 := HB4.out.grown hg5 HB4.out.size (fun k e => by cases e; omega)
    have HB6 := Lib.hid (HB5.grown gs HB5.size (fun k e => by cases e; exact Nat.le_refl _))
    have F0 := Lib.hid (legCellsD (setRow_heap _ w.heap.size _ (LegC d' p') _ _ HX5.out))
    have HFt : Hid (Fits d' ∧ d'.nS ≤ p'.cS) := ⟨hf.out.1, hf.out.2.1⟩
    have HOf : Hid (∀ x, x < w.heap.size → LegOff x d' p') := fun x hx => hoff x (by omega)
    clear hf hin hoB hoff hg5 gs HB5 z0 z1 z2 z3 z4 z5 z6 z7 z8 z9 KS
    unfold LegV
    go_wp2_with (first
      | (refine wpList_store_row rfl 25 _ _ rfl w.heap.size (LegC d' p') rfl rfl 25 #[.string ⟨#[]⟩, .string ⟨#[]⟩, .string ⟨#[]⟩, .int .i64 0, .int .i64 0, .int .i64 0, .slice none 0 0, .slice none 0 0, .slice none 0 0, .slice none 0 0] HX5.out legSize rfl (leg_oneD d' p') ?_)
      | fail)
    generalize w5.setRow w.heap.size (LegC d' p') = w6 at *
    obtain ⟨f0, f1, f2, f3, f4, f5, f6, f7, f8, f9⟩ := F0.out
    (try simp only [Exit.inBlock, Exit.then])
    refine bodyPost_ret (v := LegV d' p') ?_ rfl ⟨d', p', rfl, HFt, HI6.out, HOf.out, HB6.out⟩
    rw [results_cell1 rfl]
    unfold LegV
    go_simp
  · have hz : (x == 0) = false := by simpa using hx
    obtain ⟨z0, z1, z2, z3, z4, z5, z6, z7, z8, z9⟩ := legCellsD HK4.out
    have gs := grown_setRow w4 w.heap.size (LegC d p)
    have HI6 := Lib.hid (HNh.out.far gs (fun k e => by cases e; omega)).leg
    have HB6 := Lib.hid (HB4.out.grown gs HB4.out.size (fun k e => by cases e; exact Nat.le_refl _))
    have F0 := Lib.hid (legCellsD (setRow_heap _ w.heap.size _ (LegC d p) _ _ HX4.out))
    have HFt : Hid (Fits d ∧ d.nS ≤ p.cS) := ⟨fits_okD HOK.out, HNh.out.1.2.1⟩
    have HOf : Hid (∀ x, x < w.heap.size → LegOff x d p) := fun x hx => legNew_offD HNh.out (by omega)
    clear gs hx
    go_wp2_with (first
      | (refine wpList_store_row rfl 25 _ _ rfl w.heap.size (LegC d p) rfl rfl 25 #[.string ⟨#[]⟩, .string ⟨#[]⟩, .string ⟨#[]⟩, .int .i64 0, .int .i64 0, .int .i64 0, .slice none 0 0, .slice none 0 0, .slice none 0 0, .slice none 0 0] HX4.out legSize rfl (leg_oneD d p) ?_)
      | fail)
    generalize w4.setRow w.heap.size (LegC d p) = w6 at *
    obtain ⟨f0, f1, f2, f3, f4, f5, f6, f7, f8, f9⟩ := F0.out
    (try simp only [Exit.inBlock, Exit.then])
    refine bodyPost_ret (v := LegV d p) ?_ rfl ⟨d, p, rfl, HFt, HI6.out, HOf.out, HB6.out⟩
    rw [results_cell1 rfl]
    unfold LegV
    go_simp
set_option maxRecDepth 100000 in
set_option maxHeartbeats 4000000 in
theorem drawLegW (a0 : Option Addr) (len cap : Nat) (z : List Int) (w : World) (w0 : IsRow .u8 w a0 len cap z) :
    Calls Tryz.prog 13 #[.slice a0 len cap] w (DrawnL w) := by
  have hA : Below w.heap.size w (w.alloc (.cells #[.string ⟨#[]⟩, .string ⟨#[]⟩, .string ⟨#[]⟩, .int .i64 0, .int .i64 0, .int .i64 0, .slice none 0 0, .slice none 0 0, .slice none 0 0, .slice none 0 0] 25)) := (Below.refl _ _).alloc (Nat.le_refl _) _
  have HA := Lib.hid hA
  have HX0 : Hid ((w.alloc (.cells #[.string ⟨#[]⟩, .string ⟨#[]⟩, .string ⟨#[]⟩, .int .i64 0, .int .i64 0, .int .i64 0, .slice none 0 0, .slice none 0 0, .slice none 0 0, .slice none 0 0] 25)).heap[w.heap.size]? = some (.cells #[.string ⟨#[]⟩, .string ⟨#[]⟩, .string ⟨#[]⟩, .int .i64 0, .int .i64 0, .int .i64 0, .slice none 0 0, .slice none 0 0, .slice none 0 0, .slice none 0 0] 25 (0, 0))) := heap_alloc_new w _
  have KO := Lib.hid (drawLegOk a0 len cap z (w.alloc (.cells #[.string ⟨#[]⟩, .string ⟨#[]⟩, .string ⟨#[]⟩, .int .i64 0, .int .i64 0, .int .i64 0, .slice none 0 0, .slice none 0 0, .slice none 0 0, .slice none 0 0] 25)) (by
    rcases w0 with h | ⟨x, h1, h2, h3, h4, h5, h6⟩
    · exact Or.inl h
    · exact Or.inr ⟨x, h1, h2, h3, h4, fun i hi => (hA.cell (p := x.add i) (World.block_lt_of_cell? w _ (h5 i hi))).trans (h5 i hi), h6⟩))
  have hlw : w.heap.size < (w.alloc (.cells #[.string ⟨#[]⟩, .string ⟨#[]⟩, .string ⟨#[]⟩, .int .i64 0, .int .i64 0, .int .i64 0, .slice none 0 0, .slice none 0 0, .slice none 0 0, .slice none 0 0] 25)).heap.size := by simp
  clear w0 hA
  go_enter Tryz.func13, Tryz.ntmps13
  go_wp2_with fail
  generalize w.alloc (.cells #[.string ⟨#[]⟩, .string ⟨#[]⟩, .string ⟨#[]⟩, .int .i64 0, .int .i64 0, .int .i64 0, .slice none 0 0, .slice none 0 0, .slice none 0 0, .slice none 0 0] 25) = wA at *
  refine KO.out.mono ?_
  rintro e w5 ⟨d', p', rfl, hf, hin, hoff, hb5⟩
  have HX5 := Lib.hid ((hb5.block w.heap.size hlw).trans HX0.out)
  have gs := grown_setRow w5 w.heap.size (LegC d' p')
  have HI6 := Lib.hid (hin.farX (hoff _ hlw) gs)
  have HB5 := HA.out.trans (hb5.mono (Nat.le_of_lt hlw))
  have HB6 := Lib.hid (HB5.grown gs HB5.size (fun k e => by cases e; exact Nat.le_refl _))
  have F0 := Lib.hid (legCellsD (setRow_heap _ w.heap.size _ (LegC d' p') _ _ HX5.out))
  have HFt := Lib.hid hf.out
  have HOf : Hid (∀ x, x < w.heap.size → LegOff x d' p') := fun x hx => hoff x (by omega)
  clear hf hin hoff hb5 gs HB5 KO
  unfold LegV
  go_wp2_with (first
    | (refine wpList_store_row rfl 25 _ _ rfl w.heap.size (LegC d' p') rfl rfl 25 #[.string ⟨#[]⟩, .string ⟨#[]⟩, .string ⟨#[]⟩, .int .i64 0, .int .i64 0, .int .i64 0, .slice none 0 0, .slice none 0 0, .slice none 0 0, .slice none 0 0] HX5.out legSize rfl (leg_oneD d' p') ?_)
    | fail)
  generalize w5.setRow w.heap.size (LegC d' p') = w6 at *
  obtain ⟨f0, f1, f2, f3, f4, f5, f6, f7, f8, f9⟩ := F0.out
  (try simp only [Exit.inBlock, Exit.then])
  refine bodyPost_ret (v := LegV d' p') ?_ rfl ⟨d', p', rfl, HFt, HI6.out, HOf.out, HB6.out⟩
  rw [results_cell1 rfl]
  unfold LegV
  go_simp
end Go.Proofs.YtdaccpffdnbkiaaGreatDoor
