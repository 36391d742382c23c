/-
  Any leg, as it is drawn.
-/
import Derived.Test.YtmlkjlipjkmcfaaDrawSold
import Derived.Test.YtmlkjlipjkmcfaaDrawSpoil
namespace Go.Proofs.Ytmlkjlipjkmcfaa
open Go.RowKit
set_option linter.unusedVariables false
set_option linter.unusedSimpArgs false

structure AnyEnd (w : World) (B Q b : Nat) (d : LegD) (p : LegP) (W : World) : Prop where
  fit : SFit d p
  leg : LegIn W d p
  low : ∀ x, x ≤ w.heap.size → LegOff x d p
  rd : RdTo B Q b W
  gr : w.grownBy W (some b)
  hb : b < w.heap.size
theorem AnyEnd.done {w W : World} {B Q b : Nat} {d : LegD} {p : LegP} (h : AnyEnd w B Q b d p W) : DrawnAny B Q b w (.returned (LegV d p)) (W.setRow w.heap.size (LegC d p)) := by
  have gr := grown_setRow W w.heap.size (LegC d p)
  have g2 := h.gr
  exact ⟨d, p, rfl, h.fit, h.leg.farX (h.low _ (Nat.le_refl _)) gr, h.low b (Nat.le_of_lt h.hb), fun x hx => h.low x (Nat.le_of_lt hx), h.rd.far gr (fun k e => by cases e; exact h.hb), gr.os.trans g2.os, gr.tape.trans g2.tape, gr.output.trans g2.output, Nat.le_trans g2.size gr.size, fun k hk hr => (gr.block k (Nat.lt_of_lt_of_le hk g2.size) (fun e => by have e' : k = w.heap.size := (by cases e; rfl); omega)).trans (g2.block k hk hr)⟩
set_option maxRecDepth 100000 in
set_option maxHeartbeats 16000000 in
theorem anyLeg (B b p0 : Nat) (w : World) (hr : Rd B w b p0) (hp : p0 ≤ 1000000) :
    Calls Try.prog 58 #[.pointer (some ⟨b, 0, none⟩)] w (DrawnAny B (p0 + 400) b w) := by
  have hbw := hr.le.2
  go_enter Try.func58, Try.ntmps58
  go_wp2_with fail
  refine (drawSold B b p0 _ (rd_alloc hr _) (by omega)).mono ?_
  rintro e w2 ⟨d, p, rfl, hok, hnew, hrd, hg2⟩
  have hw2 := legRowBelow w2 (LegC d p)
  have hx2 : LegBox ((w2.alloc (.cells #[.string ⟨#[]⟩, .string ⟨#[]⟩, .string ⟨#[]⟩, .int .i64 0, .int .i64 0, .int .i64 0, .slice none 0 0, .slice none 0 0, .slice none 0 0, .slice none 0 0] 31)).setRow w2.heap.size (LegC d p)) w2.heap.size d p := legRowBox w2 d p
  have hs2 := hg2.size
  have hsz : (w.alloc (.cells #[.string ⟨#[]⟩, .string ⟨#[]⟩, .string ⟨#[]⟩, .int .i64 0, .int .i64 0, .int .i64 0, .slice none 0 0, .slice none 0 0, .slice none 0 0, .slice none 0 0] 31)).heap.size = w.heap.size + 1 := by simp
  have hR : (w.alloc (.cells #[.string ⟨#[]⟩, .string ⟨#[]⟩, .string ⟨#[]⟩, .int .i64 0, .int .i64 0, .int .i64 0, .slice none 0 0, .slice none 0 0, .slice none 0 0, .slice none 0 0] 31)).heap[w.heap.size]? = some (.cells #[.string ⟨#[]⟩, .string ⟨#[]⟩, .string ⟨#[]⟩, .int .i64 0, .int .i64 0, .int .i64 0, .slice none 0 0, .slice none 0 0, .slice none 0 0, .slice none 0 0] 31 (0, 0)) := heap_alloc_new w _
  have g1 : w.grownBy (w.alloc (.cells #[.string ⟨#[]⟩, .string ⟨#[]⟩, .string ⟨#[]⟩, .int .i64 0, .int .i64 0, .int .i64 0, .slice none 0 0, .slice none 0 0, .slice none 0 0, .slice none 0 0] 31)) (some b) := World.grownBy_alloc w _ _
  have HG3 := Lib.hid (grown_trans hg2 (grown_below hw2 b))
  have HRES : Hid (∀ W : World, (w.alloc (.cells #[.string ⟨#[]⟩, .string ⟨#[]⟩, .string ⟨#[]⟩, .int .i64 0, .int .i64 0, .int .i64 0, .slice none 0 0, .slice none 0 0, .slice none 0 0, .slice none 0 0] 31)).grownBy W (some b) → W.heap[w.heap.size]? = some (.cells #[.string ⟨#[]⟩, .string ⟨#[]⟩, .string ⟨#[]⟩, .int .i64 0, .int .i64 0, .int .i64 0, .slice none 0 0, .slice none 0 0, .slice none 0 0, .slice none 0 0] 31 (0, 0))) := fun W hg => (hg.block w.heap.size (by omega) (fun e => by have e' : w.heap.size = b := (by cases e; rfl); omega)).trans hR
  have HLOW : Hid (∀ x, x ≤ w.heap.size → LegOff x d p) := fun x hx => hnew.low (by omega)
  have HIN := Lib.hid (hnew.leg.kept hw2)
  have HFIT : Hid (SFit d p) := ⟨okLeg_fits hok.out, hnew.1.2.1, hnew.1.2.2.2⟩
  have HRD := Lib.hid ((hrd.below hw2).mono (Q' := p0 + 301) (Nat.le_refl _))
  have HX := Lib.hid hx2
  have HS := Lib.hid (And.intro hs2 hsz)
  have G1 := Lib.hid g1
  have HW0 : Hid (∃ W0, W0 = w.alloc (.cells #[.string ⟨#[]⟩, .string ⟨#[]⟩, .string ⟨#[]⟩, .int .i64 0, .int .i64 0, .int .i64 0, .slice none 0 0, .slice none 0 0, .slice none 0 0, .slice none 0 0] 31)) := ⟨_, rfl⟩
  have y0 := (hx2).c0
  have y1 := (hx2).c1
  have y2 := (hx2).c2
  have y3 := (hx2).c3
  have y4 := (hx2).c4
  have y5 := (hx2).c5
  have y6 := (hx2).c6
  have y7 := (hx2).c7
  have y8 := (hx2).c8
  have y9 := (hx2).c9
  clear hx2 hs2 hsz hR g1 hw2 hg2 hrd hnew
  unfold LegV
  go_wp2_with (first
    | (refine wpList_store_row rfl 31 _ _ rfl w2.heap.size (LegC d p) rfl rfl 31 #[.string ⟨#[]⟩, .string ⟨#[]⟩, .string ⟨#[]⟩, .int .i64 0, .int .i64 0, .int .i64 0, .slice none 0 0, .slice none 0 0, .slice none 0 0, .slice none 0 0] (heap_alloc_new w2 _) legSize rfl (leg_one d p) ?_)
    | fail)
  clear y0 y1 y2 y3 y4 y5 y6 y7 y8 y9
  generalize ((w2.alloc (.cells #[.string ⟨#[]⟩, .string ⟨#[]⟩, .string ⟨#[]⟩, .int .i64 0, .int .i64 0, .int .i64 0, .slice none 0 0, .slice none 0 0, .slice none 0 0, .slice none 0 0] 31)).setRow w2.heap.size (LegC d p)) = X3 at *
  obtain ⟨q3, hq3, hr3⟩ := HRD.out
  refine (pick B b q3 12 X3 hr3 (by omega) (by omega) (by omega)).mono ?_
  rintro e w4 ⟨x4, l4, u4, rfl, hr4, hg4, -⟩
  have HIN4 := Lib.hid (HIN.out.farX (HLOW.out b (Nat.le_of_lt hbw)) hg4)
  have HX4 : Hid (LegBox w4 w2.heap.size d p) := (hg4.block _ (lt_heap HX.out) (fun e => by have e' : w2.heap.size = b := (by cases e; rfl); have := HS.out; omega)).trans HX.out
  have HG4 := Lib.hid (grown_trans HG3.out hg4)
  have HR4 := Lib.hid hr4
  clear hr3 hr4 hg4
  by_cases h0 : x4 = 0
  · subst h0
    have y0 := (HX4.out).c0
    have y1 := (HX4.out).c1
    have y2 := (HX4.out).c2
    have y3 := (HX4.out).c3
    have y4 := (HX4.out).c4
    have y5 := (HX4.out).c5
    have y6 := (HX4.out).c6
    have y7 := (HX4.out).c7
    have y8 := (HX4.out).c8
    have y9 := (HX4.out).c9
    go_wp2_with fail
    refine (drawSpoil B b _ d p w4 HR4.out (by omega) hok.out HIN4.out).mono ?_
    rintro e w5 ⟨dd, q, rfl, hfit, hin5, hoff5, hlow5, hrd5, hg5⟩
    clear y0 y1 y2 y3 y4 y5 y6 y7 y8 y9
    have AE : Hid (AnyEnd w B (p0 + 400) b dd q w5) := ⟨hfit.out, hin5, fun x hx => hlow5 x (by have q1 := HG4.out.size; have q2 := HS.out.2; omega), hrd5.mono (by omega), grown_trans G1.out (grown_trans HG4.out hg5), hbw⟩
    have hres9 : Hid (w5.heap[w.heap.size]? = some (.cells #[.string ⟨#[]⟩, .string ⟨#[]⟩, .string ⟨#[]⟩, .int .i64 0, .int .i64 0, .int .i64 0, .slice none 0 0, .slice none 0 0, .slice none 0 0, .slice none 0 0] 31 (0, 0))) := HRES.out w5 (grown_trans HG4.out hg5)
    have hpost := Lib.hid AE.out.done
    go_wp2_with (first
      | (refine wpList_store_row rfl 31 _ _ rfl w.heap.size (LegC dd q) rfl rfl 31 #[.string ⟨#[]⟩, .string ⟨#[]⟩, .string ⟨#[]⟩, .int .i64 0, .int .i64 0, .int .i64 0, .slice none 0 0, .slice none 0 0, .slice none 0 0, .slice none 0 0] hres9.out legSize rfl (leg_one1 _ _) ?_)
      | fail)
    have hfin : LegBox (w5.setRow w.heap.size (LegC dd q)) w.heap.size dd q := setRow_heap w5 w.heap.size _ _ _ _ hres9.out
    generalize w5.setRow w.heap.size (LegC dd q) = W10 at *
    have v0 := (hfin).c0
    have v1 := (hfin).c1
    have v2 := (hfin).c2
    have v3 := (hfin).c3
    have v4 := (hfin).c4
    have v5 := (hfin).c5
    have v6 := (hfin).c6
    have v7 := (hfin).c7
    have v8 := (hfin).c8
    have v9 := (hfin).c9
    clear hfin
    refine bodyPost_ret (v := LegV dd q) ?_ rfl hpost.out
    rw [LegV_eq]
    unfold LegC
    rw [results_cell1 rfl]
    go_simp
    all_goals rfl
  · have zx : (x4 == 0) = false := by simpa using h0
    have zx2 : decide (x4 = 0) = false := decide_eq_false h0
    have AE : Hid (AnyEnd w B (p0 + 400) b d p w4) := ⟨HFIT.out, HIN4.out, HLOW.out, ⟨_, (by omega), HR4.out⟩, grown_trans G1.out HG4.out, hbw⟩
    have y0 := (HX4.out).c0
    have y1 := (HX4.out).c1
    have y2 := (HX4.out).c2
    have y3 := (HX4.out).c3
    have y4 := (HX4.out).c4
    have y5 := (HX4.out).c5
    have y6 := (HX4.out).c6
    have y7 := (HX4.out).c7
    have y8 := (HX4.out).c8
    have y9 := (HX4.out).c9
    have hres9 : Hid (w4.heap[w.heap.size]? = some (.cells #[.string ⟨#[]⟩, .string ⟨#[]⟩, .string ⟨#[]⟩, .int .i64 0, .int .i64 0, .int .i64 0, .slice none 0 0, .slice none 0 0, .slice none 0 0, .slice none 0 0] 31 (0, 0))) := HRES.out w4 HG4.out
    have hpost := Lib.hid AE.out.done
    go_wp2_with (first
      | (refine wpList_store_row rfl 31 _ _ rfl w.heap.size (LegC d p) rfl rfl 31 #[.string ⟨#[]⟩, .string ⟨#[]⟩, .string ⟨#[]⟩, .int .i64 0, .int .i64 0, .int .i64 0, .slice none 0 0, .slice none 0 0, .slice none 0 0, .slice none 0 0] hres9.out legSize rfl (leg_one1 _ _) ?_)
      | fail)
    have hfin : LegBox (w4.setRow w.heap.size (LegC d p)) w.heap.size d p := setRow_heap w4 w.heap.size _ _ _ _ hres9.out
    generalize w4.setRow w.heap.size (LegC d p) = W10 at *
    have v0 := (hfin).c0
    have v1 := (hfin).c1
    have v2 := (hfin).c2
    have v3 := (hfin).c3
    have v4 := (hfin).c4
    have v5 := (hfin).c5
    have v6 := (hfin).c6
    have v7 := (hfin).c7
    have v8 := (hfin).c8
    have v9 := (hfin).c9
    clear hfin
    refine bodyPost_ret (v := LegV d p) ?_ rfl hpost.out
    rw [LegV_eq]
    unfold LegC
    rw [results_cell1 rfl]
    go_simp
    all_goals rfl
end Go.Proofs.Ytmlkjlipjkmcfaa
