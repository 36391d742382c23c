/-
  Whether no class of a leg has more used than its limit, or more to be given back than is sold: the program's answer.
-/
import Derived.Test.YtdaccpffdnbkiaaGreatDoorLegIter
import Derived.Shelf.Abstract
import Derived.Test.YtdaccpffdnbkiaaGreatDoorQuietR
namespace Go.Proofs.YtdaccpffdnbkiaaGreatDoor
open Go.RowKit Go.Shelf
set_option linter.unusedVariables false
set_option linter.unusedSimpArgs false
attribute [local go_sem] Oper.semAt_some

def fitK (d : LegD) (k : Nat) : Prop := 0 ≤ leftB d k ∧ backB d k ≤ d.S k
def FitsOk (d : LegD) : Prop := ∀ k, k < 3 → fitK d k
theorem legBox_own {β : Type} (B b : Nat) (d : LegD) (p : LegP) : OwnFrom B (fun (_ : β) W => LegBox W b d p) := fun s W W' row hs hg hr =>
  (hg.block b (lt_heap hs) (fun e => by
    obtain ⟨-, o, ho, hc⟩ := hr b e.symm
    rw [show W.heap[b]? = _ from hs] at ho
    cases ho; cases hc)).trans hs
def FitsPost (d : LegD) (w : World) (e : Ending) (w' : World) : Prop := ∃ b : Bool, e = .returned (.bool b) ∧ Hid (b = true ↔ FitsOk d) ∧ Below w.heap.size w w'

set_option maxRecDepth 100000 in
set_option maxHeartbeats 8000000 in
theorem fitsIn (d : LegD) (p : LegP) (n : Nat) (hn : 3 ≤ n) (w : World) (h : LegIn w d p) (hL : LimOk d) (hS : SoldOk d) (hH : HeldOk d) (hc : d.nS ≤ p.cS) :
    CallsIn Fence.wide n Tryz.prog 41 #[LegV d p] w (FitsPost d w) := by
  have h1 : 1 ≤ n := by omega
  refine callsIn_of_wp_marks Tryz.func41 rfl trivial ?_ rfl
  simp only [Tryz.ntmps41, List.size_toArray, List.length_cons, List.length_nil, Nat.reduceAdd, Nat.reduceSub, Array.replicate_succ, Array.replicate_zero, List.push_toArray, List.append_toArray, List.nil_append, List.cons_append]
  have xA := LegBox.new w d p
  have hbA : Below w.heap.size w (w.alloc (.cells (LegC d p) 25)) := (Below.refl _ _).alloc (Nat.le_refl _) _
  have bR := Boxed.new (w.alloc (.cells (LegC d p) 25)) 4 (.bool false)
  have xB : LegBox ((w.alloc (.cells (LegC d p) 25)).alloc (.cells #[.bool false] 4)) w.heap.size d p := xA.kept ((Below.refl _ _).alloc (Nat.le_refl _) _)
  have hbB : Below w.heap.size w ((w.alloc (.cells (LegC d p) 25)).alloc (.cells #[.bool false] 4)) := hbA.alloc (by simp) _
  simp only [World.size_alloc] at bR
  have b0 := xB.c0
  have b1 := xB.c1
  have b2 := xB.c2
  have b3 := xB.c3
  have b4 := xB.c4
  have b5 := xB.c5
  have b6 := xB.c6
  have b7 := xB.c7
  have b8 := xB.c8
  have b9 := xB.c9
  have hVC : LegV d p = .agg (LegC d p) := rfl
  rw [hVC]
  generalize hLC : LegC d p = LC at *
  have sB : ((w.alloc (.cells LC 25)).alloc (.cells #[.bool false] 4)).heap.size = w.heap.size + 1 + 1 := by simp
  gi_wp2_with fail
  refine ⟨trivial, (callsIn_wide.2 (leftFn d p _)).mono ?_⟩
  rintro e w' ⟨rfl, rfl⟩
  rw [hLC]
  gi_wp2_with fail

  have xC : LegBox (((w.alloc (.cells LC 25)).alloc (.cells #[.bool false] 4)).alloc (.cells LC 25)) w.heap.size d p := xB.kept ((Below.refl _ _).alloc (Nat.le_refl _) _)
  have xD : LegBox (((w.alloc (.cells LC 25)).alloc (.cells #[.bool false] 4)).alloc (.cells LC 25)) (w.heap.size + 1 + 1) d p := by
    have := LegBox.new ((w.alloc (.cells LC 25)).alloc (.cells #[.bool false] 4)) d p
    rwa [hLC, sB] at this
  have hbC : Below w.heap.size w (((w.alloc (.cells LC 25)).alloc (.cells #[.bool false] 4)).alloc (.cells LC 25)) := hbB.alloc (by simp; omega) _
  have bRC := bR.alloc (.cells LC 25)
  have sC : (((w.alloc (.cells LC 25)).alloc (.cells #[.bool false] 4)).alloc (.cells LC 25)).heap.size = w.heap.size + 1 + 1 + 1 := by simp
  generalize (((w.alloc (.cells LC 25)).alloc (.cells #[.bool false] 4)).alloc (.cells LC 25)) = W0 at *
  refine wpIn_rangeFunc_ownF rfl h1 (gf := 84) (lb := #[.pointer (some ⟨w.heap.size + 1 + 1, 0, none⟩)]) rfl trivial (enters_of Tryz.func84 (by kernel_rfl) rfl)
    (left_stops d p (n - 1) (w.heap.size + 1 + 1) (by omega) w W0 h hL hS hH hc hbC (by rw [sC]; omega) xD) kpL_t (kpL_b hbC.size (by rw [sC]; omega)) (Below.refl _ _) (fun _ => rfl)
    (fun pre W => LegBox W w.heap.size d p ∧ Boxed W (w.heap.size + 1) 4 (.bool false) ∧ (∀ x ∈ pre, fitK d x.val) ∧ Below w.heap.size w W)
    (fun c pre W => Boxed W (w.heap.size + 1) 4 (.bool false) ∧ (c = .ret ∧ ∃ x ∈ pre, ¬ fitK d x.val) ∧ Below w.heap.size w W)
    (OwnFrom.and (legBox_own _ _ d p) (OwnFrom.and (Own.from (boxed_own _ _ _) _) (OwnFrom.and (ownFrom_pure _ _) (ownFrom_below (Nat.le_refl _) hbC.size))))
    (fun c => OwnFrom.and (Own.from (boxed_own _ _ _) _) (OwnFrom.and (ownFrom_pure _ _) (ownFrom_below (Nat.le_refl _) hbC.size)))
    ⟨xC, bRC, by simp, hbC⟩
    (fun x => { tmps := #[.agg LC, .pointer (some ⟨w.heap.size, 0, none⟩), .pointer (some ⟨w.heap.size + 1, 0, none⟩), .int .i64 (x.val : Int), .int .i64 (leftB d x.val), LegV d p, .func (.func 84) #[] #[.pointer (some ⟨w.heap.size + 1 + 1, 0, none⟩)], .int .i64 (x.val : Int), .int .i64 (leftB d x.val), undef, undef, undef, undef, undef, undef, undef, undef, undef, undef, undef, undef, undef], defers := [] }) ?assign ?body ?done ?stop
  case assign =>
    intro l x W K hK
    dsimp only [encL]
    gi_wp2
    exact hK
  case body =>
    rintro l pre ⟨k, hk⟩ W ⟨hbox, hR, hall, hB⟩ hlt
    have cR := hR.cell
    have fR := hR.frozen
    have hn1 : 1 ≤ n - 1 - 1 := by omega
    have hu := usedB_box hS hH k hk
    have hkb := backB_box (d := d) hH k
    have hLk := hL.2 k hk
    have hSk := hS.2 k hk
    obtain ⟨bS, oS, eS, hbS, hcS⟩ := h.2.1.cells (by have := hS.1; omega)
    have cS := (hB.cell (p := ⟨bS, oS + k, none⟩) hbS).trans (hcS k (by have := hS.1; omega))
    have hfit : Hid (fitK d k ↔ (0 ≤ leftB d k ∧ backB d k ≤ d.S k)) := Iff.rfl
    have hlb : leftB d k = d.L k - usedB d k := rfl
    have b0 := hbox.c0
    have b1 := hbox.c1
    have b2 := hbox.c2
    have b3 := hbox.c3
    have b4 := hbox.c4
    have b5 := hbox.c5
    have b6 := hbox.c6
    have b7 := hbox.c7
    have b8 := hbox.c8
    have b9 := hbox.c9
    have k1 : (k : Int) < 3 := by omega
    have k0 : (0 : Int) ≤ k := by omega
    have Hall := Lib.hid hall
    have Hbox := Lib.hid hbox
    have hxb : -100 ≤ leftB d k ∧ leftB d k ≤ 9 := by omega
    clear hall hlb hcS
    dsimp only
    rw [hS.1, eS] at b7
    generalize leftB d k = x at *
    generalize hbk : backB d k = y at *
    have Hbk := Lib.hid hbk
    generalize d.S k = z at *
    clear hbk
    have hmx : Tryz.prog.follows .mixedOrders = true := by kernel_rfl
    have k0' := cell_regrown b0
    have k1' := cell_regrown b1
    have k2' := cell_regrown b2
    have k3' := cell_regrown b3
    have k4' := cell_regrown b4
    have k5' := cell_regrown b5
    have k6' := cell_regrown b6
    have k7' := cell_regrown b7
    have k8' := cell_regrown b8
    have k9' := cell_regrown b9
    have kS' := cell_regrown cS
    have cB : ∀ dd os, CallsIn (Fence.wide.inRound l) (n - 1 - 1 - 1) Tryz.prog 70 #[.agg #[.string d.name, .string d.fr, .string d.to, .int .i64 d.dep, .int .i64 d.arr, .int .i64 d.cap, .slice p.aL d.nL p.cL, .slice (some ⟨bS, oS, none⟩) 3 p.cS, .slice p.aB d.nB p.cB, .slice p.aH d.nH p.cH], .int .i64 (k : Int)] (Go.Sort.grow (redrawn W dd) os) fun e w'' => e = .returned (.int .i64 y) ∧ ∃ p : Regrown, w'' = Go.Sort.grow (redrawn W p.d) p.os := fun dd os => by
      have hh := backI d p k (Go.Sort.grow (redrawn W dd) os) ((h.kept hB).kept (below_regrown W dd os)) hH
      rw [Hbk.out, show LegV d p = .agg #[.string d.name, .string d.fr, .string d.to, .int .i64 d.dep, .int .i64 d.arr, .int .i64 d.cap, .slice p.aL d.nL p.cL, .slice (some ⟨bS, oS, none⟩) 3 p.cS, .slice p.aB d.nB p.cB, .slice p.aH d.nH p.cH] from by unfold LegV; rw [hS.1, eS]] at hh
      exact CallsIn.inRound l (CallsIn.regrown_of (callsIn_wide.2 hh))
    clear b0 b1 b2 b3 b4 b5 b6 b7 b8 b9 cS
    have AFTER : ∀ dd os, KeepsOthers W (Go.Sort.grow (redrawn W dd) os) ∧ KpL w.heap.size (w.heap.size + 1 + 1) W (Go.Sort.grow (redrawn W dd) os) ∧ Boxed (Go.Sort.grow (redrawn W dd) os) (w.heap.size + 1) 4 (.bool false) ∧ LegBox (Go.Sort.grow (redrawn W dd) os) w.heap.size d p ∧ Below w.heap.size w (Go.Sort.grow (redrawn W dd) os) := fun dd os =>
      ⟨KeepsOthers.of_grownBy (below_grown (below_regrown W dd os)) (fun j o e => by cases e), kpL_of (below_regrown W dd os) hB.size, hR.kept (below_grown (below_regrown W dd os)) (by simp), Hbox.out.kept (below_regrown W dd os), hB.trans ((below_regrown W dd os).mono hB.size)⟩
    rcases Int.lt_or_le x 0 with hneg | hpos
    · have g0 : decide (x < 0) = true := by simp; omega
      gi_wp2
      refine regionR (by kernel_rfl) (by kernel_rfl) (by kernel_rfl) ?_
      repeat (refine wpQuietIn_step (fun _ _ _ _ => trivial) (fun K hK => ?_); go_simp; first | (refine hK _ ?_; clear hK K) | (apply Exists.intro; refine ⟨fun _ => ?_, hK _ ?_⟩; exact cB _ _; clear hK K))
      refine wpQuietIn_nil ?_
      intro _ hw'
      obtain ⟨⟨dq, osq⟩, hw''⟩ := hw'
      subst hw''
      obtain ⟨hkG, hKp, hR2, hbox2, hB2⟩ := AFTER dq osq
      have cR2 := hR2.cell
      have fR2 := hR2.frozen
      generalize Go.Sort.grow (redrawn W dq) osq = W2 at *
      gi_wp2
      exact ⟨hkG.trans (KeepsOthers.setCell _ _ _), hR2.set _, ⟨rfl, ⟨k, hk⟩, by simp, fun hf => absurd (hfit.out.1 hf) (by omega)⟩, hB2.setCell (p := ⟨w.heap.size + 1, 0, none⟩) (by simp) _⟩
    · have g0 : decide (x < 0) = false := by simp; omega
      gi_wp2
      refine regionR (by kernel_rfl) (by kernel_rfl) (by kernel_rfl) ?_
      repeat (refine wpQuietIn_step (fun _ _ _ _ => trivial) (fun K hK => ?_); go_simp; first | (refine hK _ ?_; clear hK K) | (apply Exists.intro; refine ⟨fun _ => ?_, hK _ ?_⟩; exact cB _ _; clear hK K))
      refine wpQuietIn_nil ?_
      intro _ hw'
      obtain ⟨⟨dq, osq⟩, hw''⟩ := hw'
      subst hw''
      obtain ⟨hkG, hKp, hR2, hbox2, hB2⟩ := AFTER dq osq
      have cR2 := hR2.cell
      have fR2 := hR2.frozen
      generalize Go.Sort.grow (redrawn W dq) osq = W2 at *
      rcases Int.lt_or_le z y with hzy | hzy
      · gi_wp2
        exact ⟨hkG.trans (KeepsOthers.setCell _ _ _), hR2.set _, ⟨rfl, ⟨k, hk⟩, by simp, fun hf => absurd (hfit.out.1 hf) (by omega)⟩, hB2.setCell (p := ⟨w.heap.size + 1, 0, none⟩) (by simp) _⟩
      · gi_wp2
        refine ⟨hkG, hKp, hbox2, hR2, ?_, hB2⟩
        intro q hq
        rcases List.mem_append.1 hq with hq | hq
        · exact Hall.out q hq
        · simp only [List.mem_singleton] at hq
          subst hq
          exact hfit.out.2 ⟨hpos, hzy⟩
  case done =>
    rintro D ys W hD hS2 ⟨hbox, hR, hall, hB⟩ hK
    have cR := hR.cell
    have fR := hR.frozen
    have hpost : Hid (FitsOk d) := by
      intro k hk
      have := hall ⟨k, hk⟩ (by rw [show ys = three from hS2]; rcases (by omega : k = 0 ∨ k = 1 ∨ k = 2) with rfl | rfl | rfl <;> simp [three])
      exact this
    clear hall
    gi_wp2
    have hK1 := (KeepsOthers.setCell W ⟨w.heap.size + 1, 0, none⟩ (.bool true)).same D _ hK rfl
    refine ⟨by simp, .inl ⟨_, _, rfl, run_takeDeferred hK1, ?_⟩⟩
    have bR2 := hR.set (.bool true)
    have c2 := Go.cell_kept bR2.cell (grownBy_putObj' _ D (.deferred none)) (fun r e => by cases e; exact ⟨_, hK1, rfl⟩)
    refine ⟨.bool true, ?_, true, rfl, ⟨fun _ => hpost.out, fun _ => rfl⟩, ?_⟩
    · simp [results, Tryz.f41, go_sem, c2]
    · exact (hB.setCell (p := ⟨w.heap.size + 1, 0, none⟩) (by simp) _).trans (belowK_b (w := w) (Nat.le_refl _) _ D _ _ (by rw [sC] at hD; omega) hK1 rfl rfl)
  case stop =>
    rintro D c pre W hD hS2 ⟨hR, ⟨rfl, hl⟩, hB⟩ hK
    have hpost : Hid (¬ FitsOk d) := by
      intro hF
      obtain ⟨q, hq, hn⟩ := hl
      exact absurd (hF q.val q.isLt) hn
    clear hl
    gi_wp2
    refine ⟨by simp, .inl ⟨_, _, rfl, run_takeDeferred hK, ?_⟩⟩
    have c2 := Go.cell_kept hR.cell (grownBy_putObj' _ D (.deferred none)) (fun r e => by cases e; exact ⟨_, hK, rfl⟩)
    refine ⟨.bool false, ?_, false, rfl, ⟨fun h => (by cases h), fun h => absurd h hpost.out⟩, ?_⟩
    · simp [results, Tryz.f41, go_sem, c2]
    · exact hB.trans (belowK_b (w := w) (Nat.le_refl _) W D _ _ (by rw [sC] at hD; omega) hK rfl rfl)
theorem fitsI (d : LegD) (p : LegP) (w : World) (h : LegIn w d p) (hL : LimOk d) (hS : SoldOk d) (hH : HeldOk d) (hc : d.nS ≤ p.cS) :
    Calls Tryz.prog 41 #[LegV d p] w (FitsPost d w) :=
  callsIn_wide.1 (fitsIn d p 3 (by omega) w h hL hS hH hc)
end Go.Proofs.YtdaccpffdnbkiaaGreatDoor
