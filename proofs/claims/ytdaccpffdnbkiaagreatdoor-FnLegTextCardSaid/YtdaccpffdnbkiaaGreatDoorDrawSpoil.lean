/-
  A leg that was drawn, spoilt in one place.
-/
import Derived.Test.YtdaccpffdnbkiaaGreatDoorJ45
import Derived.Test.YtdaccpffdnbkiaaGreatDoorRdL
import Derived.Test.YtdaccpffdnbkiaaGreatDoorFree
import Derived.Deep.CutRange
import Derived.Deep.CutBlock
import Derived.OwnWalk
import Derived.Deep.DeepMust
namespace Go.Proofs.YtdaccpffdnbkiaaGreatDoor
open Go.RowKit
set_option linter.unusedVariables false
set_option linter.unusedSimpArgs false

theorem SpInv.done {w w0 W : World} {B Q b bx br : Nat} {dd : LegD} {q : LegP} (h : SpInv w0 B Q b bx br dd q W) (h0 : w.grownBy w0 (some b)) (hb : b < br) (hs : w.heap.size ≤ br) : DrawnAny B Q b w (.returned (LegV dd q)) (W.setRow br (LegC dd q)) := by
  have gr := grown_setRow W br (LegC dd q)
  have g2 := grown_trans h0 h.gr
  exact ⟨dd, q, rfl, h.fit, h.leg.farX (h.low br h.ne.2.1) gr, h.low b h.ne.1, fun x hx => h.low x (Nat.lt_of_lt_of_le hx h0.size), h.rd.far gr (fun k e => by cases e; exact hb), gr.os.trans g2.os, gr.tape.trans g2.tape, gr.output.trans g2.output, Nat.le_trans g2.size gr.size, fun k hk hr => (gr.block k (Nat.lt_of_lt_of_le hk g2.size) (fun e => by have e' : k = br := (by cases e; rfl); omega)).trans (g2.block k hk hr)⟩
/-- A region whose last operation alone is seen behind it. -/
structure TS (m : Nat) (I : Nat → World → Prop) (S : Nat → Value → Prop) (R : World → Prop) (k : Nat) (L : Nat → Bool) (f : Nat → Value) (W : World) : Prop where
  inv : L m = false → I k W
  pre : ∀ i, i < m → L i = true → L m = false → S i (f i)
  done : L m = true → R W
theorem TS.start {m : Nat} {I : Nat → World → Prop} {S : Nat → Value → Prop} {R : World → Prop} {f : Nat → Value} {W : World} (h : I 0 W) : TS m I S R 0 (fun _ => false) f W := ⟨fun _ => h, fun _ _ a => (by cases a), fun a => (by cases a)⟩
theorem TS.pre_op {m k : Nat} {I : Nat → World → Prop} {S : Nat → Value → Prop} {R : World → Prop} {L : Nat → Bool} {f : Nat → Value} {W W' : World} (h : TS m I S R k L f W) {i : Nat} {v : Value} (hi : i < m) (hm : L m = false) (hI : I (k + 1) W') (hv : S i v) : TS m I S R (k + 1) (upd L i true) (upd f i v) W' := by
  refine ⟨fun _ => hI, fun j hj hL _ => ?_, ?_⟩
  · by_cases e : j = i
    · subst e; rw [upd_self]; exact hv
    · rw [upd_ne _ _ e] at hL ⊢; exact h.pre j hj hL hm
  · rw [upd_ne _ _ (by omega), hm]; exact fun a => by cases a
theorem TS.end_op {m k : Nat} {I : Nat → World → Prop} {S : Nat → Value → Prop} {R : World → Prop} {L : Nat → Bool} {f : Nat → Value} {W' : World} (v : Value) (hR : R W') : TS m I S R (k + 1) (upd L m true) (upd f m v) W' :=
  ⟨fun a => (by rw [upd_self] at a; cases a), fun _ _ _ a => (by rw [upd_self] at a; cases a), fun _ => hR⟩
/-- The slots of 'l.F[pick(3)] = pick(12) - 1'. -/
def SCell (b bx fld g c : Nat) (i : Nat) (v : Value) : Prop := match i with
  | 0 => v = .pointer (some ⟨bx, fld, none⟩)
  | 1 => v = .slice (some ⟨g, 0, none⟩) 3 c
  | 2 => v = .pointer (some ⟨b, 0, none⟩)
  | 3 => ∃ i : Nat, i < 3 ∧ v = .int .i64 (i : Int)
  | 4 => v = .pointer (some ⟨b, 0, none⟩)
  | 5 => ∃ x : Int, 0 ≤ x ∧ x < 12 ∧ v = .int .i64 x
  | 6 => ∃ x : Int, v = .int .i64 x
  | 7 => ∃ i : Nat, i < 3 ∧ v = .pointer (some ⟨g, i, none⟩)
  | _ => True
/-- A region whose last operations append and store. -/
structure TA (m : Nat) (I : Nat → World → Prop) (S : Nat → World → Value → Prop) (F : Value) (M : Value → World → Prop) (R : World → Prop) (k : Nat) (L : Nat → Bool) (f : Nat → Value) (W : World) : Prop where
  inv : L m = false → I k W
  pre : ∀ i, i < m → L i = true → L m = false → S i W (f i)
  fld : L (m + 1) = true → f (m + 1) = F
  mid : L m = true → L (m + 2) = false → M (f m) W
  done : L (m + 2) = true → R W
section
variable {m k : Nat} {I : Nat → World → Prop} {S : Nat → World → Value → Prop} {F : Value} {M : Value → World → Prop} {R : World → Prop} {L : Nat → Bool} {f : Nat → Value} {W W' : World}
theorem TA.start (h : I 0 W) : TA m I S F M R 0 (fun _ => false) f W := ⟨fun _ => h, fun _ _ a => (by cases a), fun a => (by cases a), fun a => (by cases a), fun a => (by cases a)⟩
theorem TA.pre_op (h : TA m I S F M R k L f W) {i : Nat} {v : Value} (hi : i < m) (hm : L m = false) (hm2 : L (m + 2) = false) (hI : I (k + 1) W') (hS : ∀ j v, S j W v → S j W' v) (hv : S i W' v) : TA m I S F M R (k + 1) (upd L i true) (upd f i v) W' := by
  have u : ∀ {α : Type} (g : Nat → α) (x : α) (j : Nat), m ≤ j → upd g i x j = g j := fun g x j hj => upd_ne g x (by omega)
  refine ⟨fun _ => hI, fun j hj hL _ => ?_, ?_, ?_, ?_⟩
  · by_cases e : j = i
    · subst e; rw [upd_self]; exact hv
    · rw [upd_ne _ _ e] at hL ⊢; exact hS _ _ (h.pre j hj hL hm)
  · rw [u _ _ _ (by omega), u _ _ _ (by omega)]; exact h.fld
  · rw [u _ _ _ (Nat.le_refl _), hm]; exact fun a => by cases a
  · rw [u _ _ _ (by omega), hm2]; exact fun a => by cases a
theorem TA.fld_op (h : TA m I S F M R k L f W) (hm2 : L (m + 2) = false) (hI : I k W → I (k + 1) W) : TA m I S F M R (k + 1) (upd L (m + 1) true) (upd f (m + 1) F) W := by
  have u : ∀ {α : Type} (g : Nat → α) (x : α) (j : Nat), j ≠ m + 1 → upd g (m + 1) x j = g j := fun g x j hj => upd_ne g x hj
  refine ⟨?_, fun j hj => ?_, fun _ => upd_self _ _ _, ?_, ?_⟩
  · rw [u _ _ _ (by omega)]; exact fun a => hI (h.inv a)
  · rw [u _ _ _ (by omega), u _ _ _ (by omega), u _ _ _ (by omega)]; exact h.pre j hj
  · rw [u _ _ _ (by omega), u _ _ _ (by omega), u _ _ _ (by omega)]; exact h.mid
  · rw [u _ _ _ (by omega), hm2]; exact fun a => by cases a
theorem TA.app_op (h : TA m I S F M R k L f W) {v : Value} (hm2 : L (m + 2) = false) (hM : M v W') : TA m I S F M R (k + 1) (upd L m true) (upd f m v) W' := by
  have u : ∀ {α : Type} (g : Nat → α) (x : α) (j : Nat), j ≠ m → upd g m x j = g j := fun g x j hj => upd_ne g x hj
  refine ⟨fun a => (by rw [upd_self] at a; cases a), fun _ _ _ a => (by rw [upd_self] at a; cases a), ?_, fun _ _ => (by rw [upd_self]; exact hM), ?_⟩
  · rw [u _ _ _ (by omega), u _ _ _ (by omega)]; exact h.fld
  · rw [u _ _ _ (by omega), hm2]; exact fun a => by cases a
theorem TA.store_op (h : TA m I S F M R k L f W) (v : Value) (hm : L m = true) (hR : R W') : TA m I S F M R (k + 1) (upd L (m + 2) true) (upd f (m + 2) v) W' := by
  have u : ∀ {α : Type} (g : Nat → α) (x : α) (j : Nat), j ≠ m + 2 → upd g (m + 2) x j = g j := fun g x j hj => upd_ne g x hj
  refine ⟨?_, fun j hj _ => ?_, ?_, fun _ a => (by rw [upd_self] at a; cases a), fun _ => hR⟩
  · rw [u _ _ _ (by omega), hm]; exact fun a => by cases a
  · rw [u _ _ _ (by omega), hm]; exact fun a => by cases a
  · rw [u _ _ _ (by omega), u _ _ _ (by omega)]; exact h.fld
end
def SAppB (b bx : Nat) (d : LegD) (p : LegP) (i : Nat) (W : World) (v : Value) : Prop := match i with
  | 0 => v = .pointer (some ⟨bx, 8, none⟩)
  | 1 => v = .slice p.aB d.nB p.cB
  | 2 => v = .pointer (some ⟨b, 0, none⟩)
  | 3 => ∃ x : Int, 0 ≤ x ∧ x < 2000 ∧ v = .int .i64 x
  | 4 => ∃ x : Int, v = .int .i64 x
  | 5 => ∃ (gl : Nat) (x : Int), v = .slice (some ⟨gl, 0, none⟩) 1 1 ∧ W.heap[gl]? = some (.cells #[.int .i64 x] 3 (0, 0)) ∧ gl ≠ b
  | _ => True
theorem SAppB.kept {b bx : Nat} {d : LegD} {p : LegP} {i : Nat} {W W' : World} {v : Value} (h : SAppB b bx d p i W v) (hg : W.grownBy W' (some b)) : SAppB b bx d p i W' v := by
  match i, h with
  | 0, h => exact h
  | 1, h => exact h
  | 2, h => exact h
  | 3, h => exact h
  | 4, h => exact h
  | 5, ⟨g, x, h1, h2, h3⟩ => exact ⟨g, x, h1, (hg.block g (lt_heap h2) (fun e => h3 (by cases e; rfl))).trans h2, h3⟩
  | i + 6, h => exact trivial
def SAppH (b bx : Nat) (d : LegD) (p : LegP) (i : Nat) (W : World) (v : Value) : Prop := match i with
  | 0 => v = .pointer (some ⟨bx, 9, none⟩)
  | 1 => v = .slice p.aH d.nH p.cH
  | 2 => v = .pointer (some ⟨b, 0, none⟩)
  | 3 => ∃ x : Int, v = .int .i64 x
  | 4 => v = .pointer (some ⟨b, 0, none⟩)
  | 5 => ∃ x : Int, v = .int .i64 x
  | 6 => v = .pointer (some ⟨b, 0, none⟩)
  | 7 => ∃ x : Int, 0 ≤ x ∧ x < 5 ∧ v = .int .i64 x
  | 8 => ∃ x : Int, v = .int .i64 x
  | 9 => ∃ t c s : Int, v = .agg #[.int .i64 t, .int .i64 c, .int .i64 s]
  | 10 => ∃ (gl : Nat) (t c s : Int), v = .slice (some ⟨gl, 0, none⟩) 1 1 ∧ W.heap[gl]? = some (.cells #[.int .i64 t, .int .i64 c, .int .i64 s] 58 (0, 0)) ∧ gl ≠ b
  | _ => True
theorem SAppH.kept {b bx : Nat} {d : LegD} {p : LegP} {i : Nat} {W W' : World} {v : Value} (h : SAppH b bx d p i W v) (hg : W.grownBy W' (some b)) : SAppH b bx d p i W' v := by
  match i, h with
  | 0, h => exact h
  | 1, h => exact h
  | 2, h => exact h
  | 3, h => exact h
  | 4, h => exact h
  | 5, h => exact h
  | 6, h => exact h
  | 7, h => exact h
  | 8, h => exact h
  | 9, h => exact h
  | 10, ⟨g, t, c, s, h1, h2, h3⟩ => exact ⟨g, t, c, s, h1, (hg.block g (lt_heap h2) (fun e => h3 (by cases e; rfl))).trans h2, h3⟩
  | i + 11, h => exact trivial
theorem SpInv.mono {w0 W : World} {B Q Q' b bx br : Nat} {dd : LegD} {q : LegP} (h : SpInv w0 B Q b bx br dd q W) (hq : Q ≤ Q') : SpInv w0 B Q' b bx br dd q W := { h with rd := h.rd.mono hq }
set_option maxRecDepth 100000 in
set_option maxHeartbeats 16000000 in
theorem drawSpoil (B b p0 : Nat) (d : LegD) (p : LegP) (w : World) (hr : Rd B w b p0) (hp : p0 ≤ 100000000) (hok : OkLeg d) (hin : LegIn w d p) :
    Calls Tryz.prog 62 #[.pointer (some ⟨b, 0, none⟩), LegV d p] w (DrawnAny B (p0 + 20) b w) := by
  have hbw := hr.le.2
  obtain ⟨i0, hi, hz0, hz1, hz2⟩ := info_parts infoInt
  obtain ⟨j0, ji, jz0, jz1, jz2⟩ := info_parts infoHold
  have hD : Below w.heap.size w ((w.alloc (.cells (LegC d p) 25)).alloc (.cells #[.string ⟨#[]⟩, .string ⟨#[]⟩, .string ⟨#[]⟩, .int .i64 0, .int .i64 0, .int .i64 0, .slice none 0 0, .slice none 0 0, .slice none 0 0, .slice none 0 0] 25)) := ((Below.refl _ _).alloc (Nat.le_refl _) _).alloc (by simp) _
  have hX : LegBox ((w.alloc (.cells (LegC d p) 25)).alloc (.cells #[.string ⟨#[]⟩, .string ⟨#[]⟩, .string ⟨#[]⟩, .int .i64 0, .int .i64 0, .int .i64 0, .slice none 0 0, .slice none 0 0, .slice none 0 0, .slice none 0 0] 25)) w.heap.size d p := (LegBox.new w d p).kept ((Below.refl _ _).alloc (Nat.le_refl _) _)
  have hR : ((w.alloc (.cells (LegC d p) 25)).alloc (.cells #[.string ⟨#[]⟩, .string ⟨#[]⟩, .string ⟨#[]⟩, .int .i64 0, .int .i64 0, .int .i64 0, .slice none 0 0, .slice none 0 0, .slice none 0 0, .slice none 0 0] 25)).heap[w.heap.size + 1]? = some (.cells #[.string ⟨#[]⟩, .string ⟨#[]⟩, .string ⟨#[]⟩, .int .i64 0, .int .i64 0, .int .i64 0, .slice none 0 0, .slice none 0 0, .slice none 0 0, .slice none 0 0] 25 (0, 0)) := by
    have := heap_alloc_new (w.alloc (.cells (LegC d p) 25)) (.cells #[.string ⟨#[]⟩, .string ⟨#[]⟩, .string ⟨#[]⟩, .int .i64 0, .int .i64 0, .int .i64 0, .slice none 0 0, .slice none 0 0, .slice none 0 0, .slice none 0 0] 25)
    rwa [World.size_alloc] at this
  have hs0 : ((w.alloc (.cells (LegC d p) 25)).alloc (.cells #[.string ⟨#[]⟩, .string ⟨#[]⟩, .string ⟨#[]⟩, .int .i64 0, .int .i64 0, .int .i64 0, .slice none 0 0, .slice none 0 0, .slice none 0 0, .slice none 0 0] 25)).heap.size = w.heap.size + 2 := by simp
  have hin0 : LegIn ((w.alloc (.cells (LegC d p) 25)).alloc (.cells #[.string ⟨#[]⟩, .string ⟨#[]⟩, .string ⟨#[]⟩, .int .i64 0, .int .i64 0, .int .i64 0, .slice none 0 0, .slice none 0 0, .slice none 0 0, .slice none 0 0] 25)) d p := hin.kept hD
  have hr0 : RdTo B p0 b ((w.alloc (.cells (LegC d p) 25)).alloc (.cells #[.string ⟨#[]⟩, .string ⟨#[]⟩, .string ⟨#[]⟩, .int .i64 0, .int .i64 0, .int .i64 0, .slice none 0 0, .slice none 0 0, .slice none 0 0, .slice none 0 0] 25)) := ((show RdTo B p0 b w from ⟨p0, Nat.le_refl _, hr⟩).alloc _).alloc _
  have D0 := Lib.hid hD
  have R0 := Lib.hid hR
  have S0 := Lib.hid hs0
  have IN0 := Lib.hid hin0
  have RD0 := Lib.hid hr0
  have OK := Lib.hid hok
  have y0 := (hX).c0
  have y1 := (hX).c1
  have y2 := (hX).c2
  have y3 := (hX).c3
  have y4 := (hX).c4
  have y5 := (hX).c5
  have y6 := (hX).c6
  have y7 := (hX).c7
  have y8 := (hX).c8
  have y9 := (hX).c9
  rw [LegV_eq]
  generalize hLC : LegC d p = LC at *
  clear hD hX hR hs0 hin hin0 hr0 hok hr hLC
  go_enter Tryz.func62, Tryz.ntmps62
  go_wp2_with fail
  refine (copyO d p ((w.alloc (.cells LC 25)).alloc (.cells #[.string ⟨#[]⟩, .string ⟨#[]⟩, .string ⟨#[]⟩, .int .i64 0, .int .i64 0, .int .i64 0, .slice none 0 0, .slice none 0 0, .slice none 0 0, .slice none 0 0] 25)) IN0.out OK.out.2.1.2.1 OK.out.2.1.2.2.1 (by have := OK.out.2.1.2.2.2.2.1; omega) (by have := OK.out.2.1.2.2.2.2.1; omega) (by have := OK.out.2.2.1.1; omega)).mono ?_
  rintro e wk ⟨pc, rfl, hnew, dc, oB, oH, oap⟩
  clear y0 y1 y2 y3 y4 y5 y6 y7 y8 y9
  generalize hW0 : ((w.alloc (.cells LC 25)).alloc (.cells #[.string ⟨#[]⟩, .string ⟨#[]⟩, .string ⟨#[]⟩, .int .i64 0, .int .i64 0, .int .i64 0, .slice none 0 0, .slice none 0 0, .slice none 0 0, .slice none 0 0] 25)) = W0 at *
  clear hW0
  have hs0 := S0.out
  have hs1 := dc.size
  have hw2 := legRowBelow wk (LegC d pc)
  have hx2 : LegBox ((wk.alloc (.cells #[.string ⟨#[]⟩, .string ⟨#[]⟩, .string ⟨#[]⟩, .int .i64 0, .int .i64 0, .int .i64 0, .slice none 0 0, .slice none 0 0, .slice none 0 0, .slice none 0 0] 25)).setRow wk.heap.size (LegC d pc)) wk.heap.size d pc := legRowBox wk d pc
  have hF0 : FrInv W0 B p0 b wk.heap.size (w.heap.size + 1) d pc ((wk.alloc (.cells #[.string ⟨#[]⟩, .string ⟨#[]⟩, .string ⟨#[]⟩, .int .i64 0, .int .i64 0, .int .i64 0, .slice none 0 0, .slice none 0 0, .slice none 0 0, .slice none 0 0] 25)).setRow wk.heap.size (LegC d pc)) :=
    ⟨hx2, hnew.kept hw2, OK.out, oB.kept (grown_below hw2 wk.heap.size) (.inr (fun e => by have := (oB.lt _ e).2; omega)), oH.kept (grown_below hw2 wk.heap.size) (.inr (fun e => by have := (oH.lt _ e).2; omega)), oap, hnew.leg.off_new (Nat.le_refl _),
      fun g e => by have := (oH.lt _ e).2; omega, (RD0.out.below dc).below hw2, grown_trans (grown_below dc b) (grown_below hw2 b), ⟨by omega, by omega, by omega⟩⟩
  have hres : ∀ W, W0.grownBy W (some b) → W.heap[w.heap.size + 1]? = some (.cells #[.string ⟨#[]⟩, .string ⟨#[]⟩, .string ⟨#[]⟩, .int .i64 0, .int .i64 0, .int .i64 0, .slice none 0 0, .slice none 0 0, .slice none 0 0, .slice none 0 0] 25 (0, 0)) := fun W hg => (hg.block (w.heap.size + 1) (by omega) (fun e => by have e' : w.heap.size + 1 = b := (by cases e; rfl); omega)).trans R0.out
  have GR0 := Lib.hid (show w.grownBy W0 (some b) from ⟨D0.out.os, D0.out.tape, D0.out.output, D0.out.size, fun k hk _ => D0.out.block k hk⟩)
  have HF0 := Lib.hid hF0
  have HRES := Lib.hid hres
  have y0 := (hx2).c0
  have y1 := (hx2).c1
  have y2 := (hx2).c2
  have y3 := (hx2).c3
  have y4 := (hx2).c4
  have y5 := (hx2).c5
  have y6 := (hx2).c6
  have y7 := (hx2).c7
  have y8 := (hx2).c8
  have y9 := (hx2).c9
  clear hnew dc oB oH oap hs0 hs1 hw2 hx2 hF0 hres
  unfold LegV
  go_wp2_with (first
    | (refine wpList_store_row rfl 25 _ _ rfl wk.heap.size (LegC d pc) rfl rfl 25 #[.string ⟨#[]⟩, .string ⟨#[]⟩, .string ⟨#[]⟩, .int .i64 0, .int .i64 0, .int .i64 0, .slice none 0 0, .slice none 0 0, .slice none 0 0, .slice none 0 0] (heap_alloc_new wk _) legSize rfl (leg_one d pc) ?_)
    | fail)
  clear y0 y1 y2 y3 y4 y5 y6 y7 y8 y9
  generalize ((wk.alloc (.cells #[.string ⟨#[]⟩, .string ⟨#[]⟩, .string ⟨#[]⟩, .int .i64 0, .int .i64 0, .int .i64 0, .slice none 0 0, .slice none 0 0, .slice none 0 0, .slice none 0 0] 25)).setRow wk.heap.size (LegC d pc)) = X3 at *
  obtain ⟨q3, hq3, hr3⟩ := HF0.out.rd
  refine (pick B b q3 9 X3 hr3 (by omega) (by omega) (by omega)).mono ?_
  rintro e w4 ⟨x4, l4, u4, rfl, hr4, hg4, -⟩
  have HF := Lib.hid (HF0.out.far hg4 (Q' := p0 + 1) ⟨_, (by omega), hr4⟩)
  clear hr3 hr4 hg4 HF0
  go_upto_block 0 with fail
  go_cut [5] from 10 to 85 (fun v wx => v = .pointer (some ⟨wk.heap.size, 0, none⟩) ∧ ∃ dd q, Hid (SpInv W0 B (p0 + 20) b wk.heap.size (w.heap.size + 1) dd q wx))
  case first =>
   rcases (by omega : x4 = 0 ∨ x4 = 1 ∨ x4 = 2 ∨ x4 = 3 ∨ x4 = 4 ∨ x4 = 5 ∨ x4 = 6 ∨ x4 = 7 ∨ x4 = 8) with rfl | rfl | rfl | rfl | rfl | rfl | rfl | rfl | rfl
   · obtain ⟨q4, hq4, hr4⟩ := HF.out.rd
     go_wp2_with fail
     refine (pickOf B b q4 3 w4.heap.size 3 (fun i => [(⟨#[]⟩ : ByteArray), ⟨#[65]⟩, ⟨#[108, 98]⟩].getD i ByteArray.empty) _ (rd_alloc hr4 _) (by omega) (by omega) (by omega) (fun i hi => lits_at _ w4.heap.size rfl _ rfl i hi) (by have := HF.out.rd.lt; omega)).mono ?_
     rintro e w5 ⟨i5, hi5, rfl, hr5, hg5, -⟩
     have hsz : ((fun i => [(⟨#[]⟩ : ByteArray), ⟨#[65]⟩, ⟨#[108, 98]⟩].getD i ByteArray.empty) i5).size ≤ 2 := by
       rcases (by omega : i5 = 0 ∨ i5 = 1 ∨ i5 = 2) with rfl | rfl | rfl <;> decide
     have H5 := Lib.hid ((HF.out.below ((Below.refl w4.heap.size w4).alloc (Nat.le_refl _) _)).far hg5 (Q' := p0 + 2) ⟨_, (by omega), hr5⟩)
     clear hr5 hg5 hr4
     generalize (fun i => [(⟨#[]⟩ : ByteArray), ⟨#[65]⟩, ⟨#[108, 98]⟩].getD i ByteArray.empty) i5 = nm at *
     have y0 := H5.out.box.c0
     have f0 := LegBox.fr H5.out.box 0
     go_wp2_with fail
     go_meet
     exact ⟨rfl, _, _, (H5.out.scal (d' := { d with name := nm }) (k := 0) (v := .string nm) rfl H5.out.new.leg ⟨⟨by show nm.size ≤ _; omega, H5.out.fits.1.2⟩, H5.out.fits.2⟩ ⟨rfl, rfl, rfl, rfl⟩ |>.mono (Q' := p0 + 20) (by omega))⟩
   · have y1 := HF.out.box.c1
     have y2 := HF.out.box.c2
     have f2 := LegBox.fr HF.out.box 2
     go_wp2_with fail
     go_meet
     exact ⟨rfl, _, _, (HF.out.scal (d' := { d with «to» := d.fr }) (k := 2) (v := .string d.fr) rfl HF.out.new.leg ⟨⟨HF.out.fits.1.1, HF.out.fits.1.2.1, HF.out.fits.1.2.1, HF.out.fits.1.2.2.2⟩, HF.out.fits.2⟩ ⟨rfl, rfl, rfl, rfl⟩ |>.mono (Q' := p0 + 20) (by omega))⟩
   · have y3 := HF.out.box.c3
     have y4 := HF.out.box.c4
     have f4 := LegBox.fr HF.out.box 4
     go_wp2_with fail
     go_meet
     exact ⟨rfl, _, _, (HF.out.scal (d' := { d with arr := d.dep }) (k := 4) (v := .int .i64 d.dep) rfl HF.out.new.leg HF.out.fits ⟨rfl, rfl, rfl, rfl⟩ |>.mono (Q' := p0 + 20) (by omega))⟩
   · obtain ⟨q4, hq4, hr4⟩ := HF.out.rd
     have y5 := HF.out.drew.box.c5
     have hcap := OK.out.2.1.1
     have ew : IntKind.i64.wrap (d.cap + 1) = d.cap + 1 := IntWalk.i64_in _ (by omega)
     have hb4 : b < w4.heap.size := HF.out.rd.lt
     go_upto_region 11 with fail
     go_region_with (first
       | (go_at_call 52; refine (pick B b q4 3 w4.drew hr4 (by omega) (by omega) (by omega)).mono ?_; rintro e w5 ⟨xp, lp, up, rfl, hrp, hgp, -⟩; have ic : ∃ i : Nat, xp = (i : Int) := Int.eq_ofNat_of_zero_le lp; obtain ⟨i, rfl⟩ := ic; have k1 : (i : Int) < 3 := (by omega); have k0 : (0 : Int) ≤ i := (by omega); have hi3 : i < 3 := (by omega); have H5 := Lib.hid (HF.out.drew.far hgp (Q' := p0 + 2) ⟨_, (by omega), hrp⟩); have y5' := H5.out.box.c5; have HA := Lib.hid (H5.out.below (W' := (w5.alloc (.cells #[.int .i64 0, .int .i64 10, .int .i64 (d.cap + 1)] 3))) ((Below.refl _ _).alloc (Nat.le_refl _) _)); have f5 := LegBox.fr HA.out.box 5; have y5b := HA.out.box.c5; obtain ⟨y, hy⟩ : ∃ y : Int, (w5.alloc (.cells #[.int .i64 0, .int .i64 10, .int .i64 (d.cap + 1)] 3)).cell? ⟨w5.heap.size, i, none⟩ = some (.int .i64 y) := ⟨_, ints_at _ w5.heap.size rfl [0, 10, d.cap + 1] rfl i hi3⟩)
       | (go_at_call 52; refine (pick B b q4 3 ((w4.alloc (.cells #[.int .i64 0, .int .i64 10, .int .i64 (d.cap + 1)] 3)).drew) (rd_alloc hr4 _) (by omega) (by omega) (by omega)).mono ?_; rintro e w5 ⟨xp, lp, up, rfl, hrp, hgp, -⟩; have ic : ∃ i : Nat, xp = (i : Int) := Int.eq_ofNat_of_zero_le lp; obtain ⟨i, rfl⟩ := ic; have k1 : (i : Int) < 3 := (by omega); have k0 : (0 : Int) ≤ i := (by omega); have hi3 : i < 3 := (by omega); have HA := Lib.hid ((HF.out.below (W' := w4.alloc (.cells #[.int .i64 0, .int .i64 10, .int .i64 (d.cap + 1)] 3)) ((Below.refl _ _).alloc (Nat.le_refl _) _)).drew.far hgp (Q' := p0 + 2) ⟨_, (by omega), hrp⟩); have f5 := LegBox.fr HA.out.box 5; have y5b := HA.out.box.c5; obtain ⟨y, hy⟩ : ∃ y : Int, w5.cell? ⟨w4.heap.size, i, none⟩ = some (.int .i64 y) := ⟨_, hgp.cell (w := (w4.alloc (.cells #[.int .i64 0, .int .i64 10, .int .i64 (d.cap + 1)] 3)).drew) (ints_at (w := w4) _ w4.heap.size rfl [0, 10, d.cap + 1] rfl i hi3) (by have hne : w4.heap.size ≠ b := (by omega); simpa using hne)⟩))
     all_goals
       go_wp2_with fail
       go_meet
       exact ⟨rfl, _, _, ((HA.out).scal (d' := { d with cap := y }) (k := 5) (v := .int .i64 y) rfl (HA.out).new.leg (HA.out).fits ⟨rfl, rfl, rfl, rfl⟩ |>.mono (Q' := p0 + 20) (by omega))⟩
   · have hn3 : d.nL = 3 := OK.out.2.1.2.1
     have N3 := Lib.hid hn3
     obtain ⟨g, eg, -⟩ := HF.out.setL (i := 0) (by omega) 0
     have EG := Lib.hid eg
     clear hn3 eg
     go_upto_region 13 with fail
     refine wp_region_invK (by kernel_rfl) (fun k L f W => TS 8 (fun k W => FrInv W0 B (p0 + 2 + k) b wk.heap.size (w.heap.size + 1) d pc W) (SCell b wk.heap.size 6 g pc.cL) (fun W => ∃ dd q, SpInv W0 B (p0 + 20) b wk.heap.size (w.heap.size + 1) dd q W) k L f W) (by kernel_rfl) (TS.start (HF.out.drew.mono (by omega))) ?_
     apply Exists.intro
     apply And.intro
     · intro f
       simp only [over, List.set]
       exact rfl
     refine ⟨?hops, ?hend⟩
     case hops =>
       refine EachOp.cons ?_ (EachOp.cons ?_ (EachOp.cons ?_ (EachOp.cons ?_ (EachOp.cons ?_ (EachOp.cons ?_ (EachOp.cons ?_ (EachOp.cons ?_ (EachOp.cons ?_ (EachOp.nil)))))))))
       · intro L ff kk ww hkk hJ hcl hLi hwt QQ' hQ
         try dsimp only
         have hkk2 : kk < 9 := hkk
         have n8 : L 8 = false := by
           cases hx : L 8 with
           | false => rfl
           | true =>
             have h8x := hx
             have h7x : L 7 = true := hcl 8 _ rfl h8x 7 (by decide)
             have h1x : L 1 = true := hcl 7 _ rfl h7x 1 (by decide)
             have h0x : L 0 = true := hcl 1 _ rfl h1x 0 (by decide)
             have h2 : L 0 = false := hLi
             rw [h0x] at h2; cases h2
         go_big_wp2_with fail
         refine hQ _ _ _ ?_ (hJ.pre_op (i := 0) (by decide) n8 ((hJ.inv n8).mono (by omega)) rfl)
         first | rfl | (simp [upd]; done)
       · intro L ff kk ww hkk hJ hcl hLi hwt QQ' hQ
         try dsimp only
         have hkk2 : kk < 9 := hkk
         have n8 : L 8 = false := by
           cases hx : L 8 with
           | false => rfl
           | true =>
             have h8x := hx
             have h7x : L 7 = true := hcl 8 _ rfl h8x 7 (by decide)
             have h1x : L 1 = true := hcl 7 _ rfl h7x 1 (by decide)
             have h2 : L 1 = false := hLi
             rw [h1x] at h2; cases h2
         have c0 : ff 0 = _ := hJ.pre 0 (by decide) (hwt 0 (by decide)) n8
         have yL := (hJ.inv n8).box.c6
         rw [EG.out, N3.out] at yL
         go_big_wp2_with fail
         refine hQ _ _ _ ?_ (hJ.pre_op (i := 1) (by decide) n8 ((hJ.inv n8).mono (by omega)) rfl)
         first | rfl | (simp [upd, c0]; done)
       · intro L ff kk ww hkk hJ hcl hLi hwt QQ' hQ
         try dsimp only
         have hkk2 : kk < 9 := hkk
         have n8 : L 8 = false := by
           cases hx : L 8 with
           | false => rfl
           | true =>
             have h8x := hx
             have h7x : L 7 = true := hcl 8 _ rfl h8x 7 (by decide)
             have h3x : L 3 = true := hcl 7 _ rfl h7x 3 (by decide)
             have h2x : L 2 = true := hcl 3 _ rfl h3x 2 (by decide)
             have h2 : L 2 = false := hLi
             rw [h2x] at h2; cases h2
         go_big_wp2_with fail
         refine hQ _ _ _ ?_ (hJ.pre_op (i := 2) (by decide) n8 ((hJ.inv n8).mono (by omega)) rfl)
         first | rfl | (simp [upd]; done)
       · intro L ff kk ww hkk hJ hcl hLi hwt QQ' hQ
         try dsimp only
         have hkk2 : kk < 9 := hkk
         have n8 : L 8 = false := by
           cases hx : L 8 with
           | false => rfl
           | true =>
             have h8x := hx
             have h7x : L 7 = true := hcl 8 _ rfl h8x 7 (by decide)
             have h3x : L 3 = true := hcl 7 _ rfl h7x 3 (by decide)
             have h2 : L 3 = false := hLi
             rw [h3x] at h2; cases h2
         have c2 : ff 2 = _ := hJ.pre 2 (by decide) (hwt 2 (by decide)) n8
         obtain ⟨qq, hqq, hrq⟩ := (hJ.inv n8).rd
         go_big_wp2_with fail
         refine (pick B b qq 3 ww hrq (by omega) (by omega) (by omega)).mono ?_
         rintro e wp ⟨xp, lp, up, rfl, hrp, hgp, -⟩
         obtain ⟨ip, rfl⟩ := Int.eq_ofNat_of_zero_le lp
         have hI' := (hJ.inv n8).far (Q' := p0 + 2 + (kk + 1)) hgp ⟨_, (by omega), hrp⟩
         clear hrp hrq
         go_big_wp2_with fail
         refine hQ _ _ wp ?_ (hJ.pre_op (i := 3) (by decide) n8 hI' ⟨ip, by omega, rfl⟩)
         first | rfl | (simp [upd, c2]; done)
       · intro L ff kk ww hkk hJ hcl hLi hwt QQ' hQ
         try dsimp only
         have hkk2 : kk < 9 := hkk
         have n8 : L 8 = false := by
           cases hx : L 8 with
           | false => rfl
           | true =>
             have h8x := hx
             have h6x : L 6 = true := hcl 8 _ rfl h8x 6 (by decide)
             have h5x : L 5 = true := hcl 6 _ rfl h6x 5 (by decide)
             have h4x : L 4 = true := hcl 5 _ rfl h5x 4 (by decide)
             have h2 : L 4 = false := hLi
             rw [h4x] at h2; cases h2
         go_big_wp2_with fail
         refine hQ _ _ _ ?_ (hJ.pre_op (i := 4) (by decide) n8 ((hJ.inv n8).mono (by omega)) rfl)
         first | rfl | (simp [upd]; done)
       · intro L ff kk ww hkk hJ hcl hLi hwt QQ' hQ
         try dsimp only
         have hkk2 : kk < 9 := hkk
         have n8 : L 8 = false := by
           cases hx : L 8 with
           | false => rfl
           | true =>
             have h8x := hx
             have h6x : L 6 = true := hcl 8 _ rfl h8x 6 (by decide)
             have h5x : L 5 = true := hcl 6 _ rfl h6x 5 (by decide)
             have h2 : L 5 = false := hLi
             rw [h5x] at h2; cases h2
         have c4 : ff 4 = _ := hJ.pre 4 (by decide) (hwt 4 (by decide)) n8
         obtain ⟨qq, hqq, hrq⟩ := (hJ.inv n8).rd
         go_big_wp2_with fail
         refine (pick B b qq 12 ww hrq (by omega) (by omega) (by omega)).mono ?_
         rintro e wp ⟨xp, lp, up, rfl, hrp, hgp, -⟩
         have hI' := (hJ.inv n8).far (Q' := p0 + 2 + (kk + 1)) hgp ⟨_, (by omega), hrp⟩
         clear hrp hrq
         go_big_wp2_with fail
         refine hQ _ _ wp ?_ (hJ.pre_op (i := 5) (by decide) n8 hI' ⟨xp, lp, up, rfl⟩)
         first | rfl | (simp [upd, c4]; done)
       · intro L ff kk ww hkk hJ hcl hLi hwt QQ' hQ
         try dsimp only
         have hkk2 : kk < 9 := hkk
         have n8 : L 8 = false := by
           cases hx : L 8 with
           | false => rfl
           | true =>
             have h8x := hx
             have h6x : L 6 = true := hcl 8 _ rfl h8x 6 (by decide)
             have h2 : L 6 = false := hLi
             rw [h6x] at h2; cases h2
         obtain ⟨x, x0, x1, c5⟩ := hJ.pre 5 (by decide) (hwt 5 (by decide)) n8
         have c5' : ff 5 = _ := c5
         have ew : IntKind.i64.wrap (x - 1) = x - 1 := IntWalk.i64_in _ (by omega)
         go_big_wp2_with fail
         refine hQ _ _ _ ?_ (hJ.pre_op (i := 6) (by decide) n8 ((hJ.inv n8).mono (by omega)) ⟨x - 1, rfl⟩)
         first | rfl | (simp [upd, c5', ew]; done)
       · intro L ff kk ww hkk hJ hcl hLi hwt QQ' hQ
         try dsimp only
         have hkk2 : kk < 9 := hkk
         have n8 : L 8 = false := by
           cases hx : L 8 with
           | false => rfl
           | true =>
             have h8x := hx
             have h7x : L 7 = true := hcl 8 _ rfl h8x 7 (by decide)
             have h2 : L 7 = false := hLi
             rw [h7x] at h2; cases h2
         obtain ⟨i, hi3, c3⟩ := hJ.pre 3 (by decide) (hwt 3 (by decide)) n8
         have c3' : ff 3 = _ := c3
         have c1 : ff 1 = _ := hJ.pre 1 (by decide) (hwt 1 (by decide)) n8
         have k1 : (i : Int) < 3 := by omega
         have k0 : (0 : Int) ≤ i := by omega
         go_big_wp2_with fail
         refine hQ _ _ _ ?_ (hJ.pre_op (i := 7) (by decide) n8 ((hJ.inv n8).mono (by omega)) ⟨i, hi3, rfl⟩)
         first | rfl | (simp [upd, c3', c1]; done)
       · intro L ff kk ww hkk hJ hcl hLi hwt QQ' hQ
         try dsimp only
         have hkk2 : kk < 9 := hkk
         have n8 : L 8 = false := hLi
         obtain ⟨i, hi3, c7⟩ := hJ.pre 7 (by decide) (hwt 7 (by decide)) n8
         obtain ⟨x, c6⟩ := hJ.pre 6 (by decide) (hwt 6 (by decide)) n8
         have c7' : ff 7 = _ := c7
         have c6' : ff 6 = _ := c6
         obtain ⟨g2, eg2, cc, fz, SPx⟩ := (hJ.inv n8).setL (i := i) (by rw [N3.out]; exact hi3) x
         have e3 := eg2.symm.trans EG.out
         obtain rfl : g = g2 := by cases e3; rfl
         have SPX := Lib.hid SPx
         clear SPx eg2 e3
         go_big_wp2_with fail
         refine hQ _ undef _ ?_ (TS.end_op _ ⟨_, _, SPX.out.mono (Q' := p0 + 20) (by omega)⟩)
         first | rfl | (simp [upd, c7', c6']; done)
     case hend =>
       intro L ff kk ww hkb hL hJ
       try dsimp only
       obtain ⟨dd, q, hsp⟩ := hJ.done (hL 8 (by decide))
       have SPX := Lib.hid hsp
       clear hJ hL hsp
       go_wp2_with fail
       go_meet
       exact ⟨rfl, _, _, SPX.out⟩
   · have hn3 : d.nS = 3 := OK.out.2.1.2.2.1
     have N3 := Lib.hid hn3
     obtain ⟨g, eg, -⟩ := HF.out.setS (i := 0) (by omega) 0
     have EG := Lib.hid eg
     clear hn3 eg
     go_upto_region 15 with fail
     refine wp_region_invK (by kernel_rfl) (fun k L f W => TS 8 (fun k W => FrInv W0 B (p0 + 2 + k) b wk.heap.size (w.heap.size + 1) d pc W) (SCell b wk.heap.size 7 g pc.cS) (fun W => ∃ dd q, SpInv W0 B (p0 + 20) b wk.heap.size (w.heap.size + 1) dd q W) k L f W) (by kernel_rfl) (TS.start (HF.out.drew.mono (by omega))) ?_
     apply Exists.intro
     apply And.intro
     · intro f
       simp only [over, List.set]
       exact rfl
     refine ⟨?hops, ?hend⟩
     case hops =>
       refine EachOp.cons ?_ (EachOp.cons ?_ (EachOp.cons ?_ (EachOp.cons ?_ (EachOp.cons ?_ (EachOp.cons ?_ (EachOp.cons ?_ (EachOp.cons ?_ (EachOp.cons ?_ (EachOp.nil)))))))))
       · intro L ff kk ww hkk hJ hcl hLi hwt QQ' hQ
         try dsimp only
         have hkk2 : kk < 9 := hkk
         have n8 : L 8 = false := by
           cases hx : L 8 with
           | false => rfl
           | true =>
             have h8x := hx
             have h7x : L 7 = true := hcl 8 _ rfl h8x 7 (by decide)
             have h1x : L 1 = true := hcl 7 _ rfl h7x 1 (by decide)
             have h0x : L 0 = true := hcl 1 _ rfl h1x 0 (by decide)
             have h2 : L 0 = false := hLi
             rw [h0x] at h2; cases h2
         go_big_wp2_with fail
         refine hQ _ _ _ ?_ (hJ.pre_op (i := 0) (by decide) n8 ((hJ.inv n8).mono (by omega)) rfl)
         first | rfl | (simp [upd]; done)
       · intro L ff kk ww hkk hJ hcl hLi hwt QQ' hQ
         try dsimp only
         have hkk2 : kk < 9 := hkk
         have n8 : L 8 = false := by
           cases hx : L 8 with
           | false => rfl
           | true =>
             have h8x := hx
             have h7x : L 7 = true := hcl 8 _ rfl h8x 7 (by decide)
             have h1x : L 1 = true := hcl 7 _ rfl h7x 1 (by decide)
             have h2 : L 1 = false := hLi
             rw [h1x] at h2; cases h2
         have c0 : ff 0 = _ := hJ.pre 0 (by decide) (hwt 0 (by decide)) n8
         have yL := (hJ.inv n8).box.c7
         rw [EG.out, N3.out] at yL
         go_big_wp2_with fail
         refine hQ _ _ _ ?_ (hJ.pre_op (i := 1) (by decide) n8 ((hJ.inv n8).mono (by omega)) rfl)
         first | rfl | (simp [upd, c0]; done)
       · intro L ff kk ww hkk hJ hcl hLi hwt QQ' hQ
         try dsimp only
         have hkk2 : kk < 9 := hkk
         have n8 : L 8 = false := by
           cases hx : L 8 with
           | false => rfl
           | true =>
             have h8x := hx
             have h7x : L 7 = true := hcl 8 _ rfl h8x 7 (by decide)
             have h3x : L 3 = true := hcl 7 _ rfl h7x 3 (by decide)
             have h2x : L 2 = true := hcl 3 _ rfl h3x 2 (by decide)
             have h2 : L 2 = false := hLi
             rw [h2x] at h2; cases h2
         go_big_wp2_with fail
         refine hQ _ _ _ ?_ (hJ.pre_op (i := 2) (by decide) n8 ((hJ.inv n8).mono (by omega)) rfl)
         first | rfl | (simp [upd]; done)
       · intro L ff kk ww hkk hJ hcl hLi hwt QQ' hQ
         try dsimp only
         have hkk2 : kk < 9 := hkk
         have n8 : L 8 = false := by
           cases hx : L 8 with
           | false => rfl
           | true =>
             have h8x := hx
             have h7x : L 7 = true := hcl 8 _ rfl h8x 7 (by decide)
             have h3x : L 3 = true := hcl 7 _ rfl h7x 3 (by decide)
             have h2 : L 3 = false := hLi
             rw [h3x] at h2; cases h2
         have c2 : ff 2 = _ := hJ.pre 2 (by decide) (hwt 2 (by decide)) n8
         obtain ⟨qq, hqq, hrq⟩ := (hJ.inv n8).rd
         go_big_wp2_with fail
         refine (pick B b qq 3 ww hrq (by omega) (by omega) (by omega)).mono ?_
         rintro e wp ⟨xp, lp, up, rfl, hrp, hgp, -⟩
         obtain ⟨ip, rfl⟩ := Int.eq_ofNat_of_zero_le lp
         have hI' := (hJ.inv n8).far (Q' := p0 + 2 + (kk + 1)) hgp ⟨_, (by omega), hrp⟩
         clear hrp hrq
         go_big_wp2_with fail
         refine hQ _ _ wp ?_ (hJ.pre_op (i := 3) (by decide) n8 hI' ⟨ip, by omega, rfl⟩)
         first | rfl | (simp [upd, c2]; done)
       · intro L ff kk ww hkk hJ hcl hLi hwt QQ' hQ
         try dsimp only
         have hkk2 : kk < 9 := hkk
         have n8 : L 8 = false := by
           cases hx : L 8 with
           | false => rfl
           | true =>
             have h8x := hx
             have h6x : L 6 = true := hcl 8 _ rfl h8x 6 (by decide)
             have h5x : L 5 = true := hcl 6 _ rfl h6x 5 (by decide)
             have h4x : L 4 = true := hcl 5 _ rfl h5x 4 (by decide)
             have h2 : L 4 = false := hLi
             rw [h4x] at h2; cases h2
         go_big_wp2_with fail
         refine hQ _ _ _ ?_ (hJ.pre_op (i := 4) (by decide) n8 ((hJ.inv n8).mono (by omega)) rfl)
         first | rfl | (simp [upd]; done)
       · intro L ff kk ww hkk hJ hcl hLi hwt QQ' hQ
         try dsimp only
         have hkk2 : kk < 9 := hkk
         have n8 : L 8 = false := by
           cases hx : L 8 with
           | false => rfl
           | true =>
             have h8x := hx
             have h6x : L 6 = true := hcl 8 _ rfl h8x 6 (by decide)
             have h5x : L 5 = true := hcl 6 _ rfl h6x 5 (by decide)
             have h2 : L 5 = false := hLi
             rw [h5x] at h2; cases h2
         have c4 : ff 4 = _ := hJ.pre 4 (by decide) (hwt 4 (by decide)) n8
         obtain ⟨qq, hqq, hrq⟩ := (hJ.inv n8).rd
         go_big_wp2_with fail
         refine (pick B b qq 12 ww hrq (by omega) (by omega) (by omega)).mono ?_
         rintro e wp ⟨xp, lp, up, rfl, hrp, hgp, -⟩
         have hI' := (hJ.inv n8).far (Q' := p0 + 2 + (kk + 1)) hgp ⟨_, (by omega), hrp⟩
         clear hrp hrq
         go_big_wp2_with fail
         refine hQ _ _ wp ?_ (hJ.pre_op (i := 5) (by decide) n8 hI' ⟨xp, lp, up, rfl⟩)
         first | rfl | (simp [upd, c4]; done)
       · intro L ff kk ww hkk hJ hcl hLi hwt QQ' hQ
         try dsimp only
         have hkk2 : kk < 9 := hkk
         have n8 : L 8 = false := by
           cases hx : L 8 with
           | false => rfl
           | true =>
             have h8x := hx
             have h6x : L 6 = true := hcl 8 _ rfl h8x 6 (by decide)
             have h2 : L 6 = false := hLi
             rw [h6x] at h2; cases h2
         obtain ⟨x, x0, x1, c5⟩ := hJ.pre 5 (by decide) (hwt 5 (by decide)) n8
         have c5' : ff 5 = _ := c5
         have ew : IntKind.i64.wrap (x - 1) = x - 1 := IntWalk.i64_in _ (by omega)
         go_big_wp2_with fail
         refine hQ _ _ _ ?_ (hJ.pre_op (i := 6) (by decide) n8 ((hJ.inv n8).mono (by omega)) ⟨x - 1, rfl⟩)
         first | rfl | (simp [upd, c5', ew]; done)
       · intro L ff kk ww hkk hJ hcl hLi hwt QQ' hQ
         try dsimp only
         have hkk2 : kk < 9 := hkk
         have n8 : L 8 = false := by
           cases hx : L 8 with
           | false => rfl
           | true =>
             have h8x := hx
             have h7x : L 7 = true := hcl 8 _ rfl h8x 7 (by decide)
             have h2 : L 7 = false := hLi
             rw [h7x] at h2; cases h2
         obtain ⟨i, hi3, c3⟩ := hJ.pre 3 (by decide) (hwt 3 (by decide)) n8
         have c3' : ff 3 = _ := c3
         have c1 : ff 1 = _ := hJ.pre 1 (by decide) (hwt 1 (by decide)) n8
         have k1 : (i : Int) < 3 := by omega
         have k0 : (0 : Int) ≤ i := by omega
         go_big_wp2_with fail
         refine hQ _ _ _ ?_ (hJ.pre_op (i := 7) (by decide) n8 ((hJ.inv n8).mono (by omega)) ⟨i, hi3, rfl⟩)
         first | rfl | (simp [upd, c3', c1]; done)
       · intro L ff kk ww hkk hJ hcl hLi hwt QQ' hQ
         try dsimp only
         have hkk2 : kk < 9 := hkk
         have n8 : L 8 = false := hLi
         obtain ⟨i, hi3, c7⟩ := hJ.pre 7 (by decide) (hwt 7 (by decide)) n8
         obtain ⟨x, c6⟩ := hJ.pre 6 (by decide) (hwt 6 (by decide)) n8
         have c7' : ff 7 = _ := c7
         have c6' : ff 6 = _ := c6
         obtain ⟨g2, eg2, cc, fz, SPx⟩ := (hJ.inv n8).setS (i := i) (by rw [N3.out]; exact hi3) x
         have e3 := eg2.symm.trans EG.out
         obtain rfl : g = g2 := by cases e3; rfl
         have SPX := Lib.hid SPx
         clear SPx eg2 e3
         go_big_wp2_with fail
         refine hQ _ undef _ ?_ (TS.end_op _ ⟨_, _, SPX.out.mono (Q' := p0 + 20) (by omega)⟩)
         first | rfl | (simp [upd, c7', c6']; done)
     case hend =>
       intro L ff kk ww hkb hL hJ
       try dsimp only
       obtain ⟨dd, q, hsp⟩ := hJ.done (hL 8 (by decide))
       have SPX := Lib.hid hsp
       clear hJ hL hsp
       go_wp2_with fail
       go_meet
       exact ⟨rfl, _, _, SPX.out⟩
   · go_upto_region 17 with fail
     refine wp_region_invK (by kernel_rfl) (fun k L f W => TA 6 (fun k W => FrInv W0 B (p0 + 2 + k) b wk.heap.size (w.heap.size + 1) d pc W) (SAppB b wk.heap.size d pc) (.pointer (some ⟨wk.heap.size, 8, none⟩)) (fun v W => ∃ a k, v = .slice a (d.nB + 1) k ∧ W.cell? ⟨wk.heap.size, 8, none⟩ = some (.slice pc.aB d.nB pc.cB) ∧ W.frozen? ⟨wk.heap.size, 8, none⟩ = false ∧ ∃ dd q, SpInv W0 B (p0 + 20) b wk.heap.size (w.heap.size + 1) dd q (W.setCell ⟨wk.heap.size, 8, none⟩ (.slice a (d.nB + 1) k))) (fun W => ∃ dd q, SpInv W0 B (p0 + 20) b wk.heap.size (w.heap.size + 1) dd q W) k L f W) (by kernel_rfl) (TA.start (HF.out.drew.mono (by omega))) ?_
     apply Exists.intro
     apply And.intro
     · intro f
       simp only [over, List.set]
       exact rfl
     refine ⟨?hops, ?hend⟩
     case hops =>
       refine EachOp.cons ?_ (EachOp.cons ?_ (EachOp.cons ?_ (EachOp.cons ?_ (EachOp.cons ?_ (EachOp.cons ?_ (EachOp.cons ?_ (EachOp.cons ?_ (EachOp.cons ?_ (EachOp.nil)))))))))
       · intro L ff kk ww hkk hJ hcl hLi hwt QQ' hQ
         try dsimp only
         have hkk2 : kk < 9 := hkk
         have n6 : L 6 = false := by
           cases hx : L 6 with
           | false => rfl
           | true =>
             have h6x := hx
             have h1x : L 1 = true := hcl 6 _ rfl h6x 1 (by decide)
             have h0x : L 0 = true := hcl 1 _ rfl h1x 0 (by decide)
             have h2 : L 0 = false := hLi
             rw [h0x] at h2; cases h2
         have n8 : L 8 = false := by
           cases hx : L 8 with
           | false => rfl
           | true =>
             have h8x := hx
             have h6x : L 6 = true := hcl 8 _ rfl h8x 6 (by decide)
             have h1x : L 1 = true := hcl 6 _ rfl h6x 1 (by decide)
             have h0x : L 0 = true := hcl 1 _ rfl h1x 0 (by decide)
             have h2 : L 0 = false := hLi
             rw [h0x] at h2; cases h2
         go_big_wp2_with fail
         refine hQ _ _ _ ?_ (hJ.pre_op (i := 0) (by decide) n6 n8 ((hJ.inv n6).mono (by omega)) (fun j v h => h) rfl)
         first | rfl | (simp [upd]; done)
       · intro L ff kk ww hkk hJ hcl hLi hwt QQ' hQ
         try dsimp only
         have hkk2 : kk < 9 := hkk
         have n6 : L 6 = false := by
           cases hx : L 6 with
           | false => rfl
           | true =>
             have h6x := hx
             have h1x : L 1 = true := hcl 6 _ rfl h6x 1 (by decide)
             have h2 : L 1 = false := hLi
             rw [h1x] at h2; cases h2
         have n8 : L 8 = false := by
           cases hx : L 8 with
           | false => rfl
           | true =>
             have h8x := hx
             have h6x : L 6 = true := hcl 8 _ rfl h8x 6 (by decide)
             have h1x : L 1 = true := hcl 6 _ rfl h6x 1 (by decide)
             have h2 : L 1 = false := hLi
             rw [h1x] at h2; cases h2
         have c0 : ff 0 = _ := hJ.pre 0 (by decide) (hwt 0 (by decide)) n6
         have yL := (hJ.inv n6).box.c8
         go_big_wp2_with fail
         refine hQ _ _ _ ?_ (hJ.pre_op (i := 1) (by decide) n6 n8 ((hJ.inv n6).mono (by omega)) (fun j v h => h) rfl)
         first | rfl | (simp [upd, c0]; done)
       · intro L ff kk ww hkk hJ hcl hLi hwt QQ' hQ
         try dsimp only
         have hkk2 : kk < 9 := hkk
         have n6 : L 6 = false := by
           cases hx : L 6 with
           | false => rfl
           | true =>
             have h6x := hx
             have h5x : L 5 = true := hcl 6 _ rfl h6x 5 (by decide)
             have h4x : L 4 = true := hcl 5 _ rfl h5x 4 (by decide)
             have h3x : L 3 = true := hcl 4 _ rfl h4x 3 (by decide)
             have h2x : L 2 = true := hcl 3 _ rfl h3x 2 (by decide)
             have h2 : L 2 = false := hLi
             rw [h2x] at h2; cases h2
         have n8 : L 8 = false := by
           cases hx : L 8 with
           | false => rfl
           | true =>
             have h8x := hx
             have h6x : L 6 = true := hcl 8 _ rfl h8x 6 (by decide)
             have h5x : L 5 = true := hcl 6 _ rfl h6x 5 (by decide)
             have h4x : L 4 = true := hcl 5 _ rfl h5x 4 (by decide)
             have h3x : L 3 = true := hcl 4 _ rfl h4x 3 (by decide)
             have h2x : L 2 = true := hcl 3 _ rfl h3x 2 (by decide)
             have h2 : L 2 = false := hLi
             rw [h2x] at h2; cases h2
         go_big_wp2_with fail
         refine hQ _ _ _ ?_ (hJ.pre_op (i := 2) (by decide) n6 n8 ((hJ.inv n6).mono (by omega)) (fun j v h => h) rfl)
         first | rfl | (simp [upd]; done)
       · intro L ff kk ww hkk hJ hcl hLi hwt QQ' hQ
         try dsimp only
         have hkk2 : kk < 9 := hkk
         have n6 : L 6 = false := by
           cases hx : L 6 with
           | false => rfl
           | true =>
             have h6x := hx
             have h5x : L 5 = true := hcl 6 _ rfl h6x 5 (by decide)
             have h4x : L 4 = true := hcl 5 _ rfl h5x 4 (by decide)
             have h3x : L 3 = true := hcl 4 _ rfl h4x 3 (by decide)
             have h2 : L 3 = false := hLi
             rw [h3x] at h2; cases h2
         have n8 : L 8 = false := by
           cases hx : L 8 with
           | false => rfl
           | true =>
             have h8x := hx
             have h6x : L 6 = true := hcl 8 _ rfl h8x 6 (by decide)
             have h5x : L 5 = true := hcl 6 _ rfl h6x 5 (by decide)
             have h4x : L 4 = true := hcl 5 _ rfl h5x 4 (by decide)
             have h3x : L 3 = true := hcl 4 _ rfl h4x 3 (by decide)
             have h2 : L 3 = false := hLi
             rw [h3x] at h2; cases h2
         have c2 : ff 2 = _ := hJ.pre 2 (by decide) (hwt 2 (by decide)) n6
         obtain ⟨qq, hqq, hrq⟩ := (hJ.inv n6).rd
         go_big_wp2_with fail
         refine (pick B b qq 2000 ww hrq (by omega) (by omega) (by omega)).mono ?_
         rintro e wp ⟨xp, lp, up, rfl, hrp, hgp, -⟩
         have hI' := (hJ.inv n6).far (Q' := p0 + 2 + (kk + 1)) hgp ⟨_, (by omega), hrp⟩
         clear hrp hrq
         go_big_wp2_with fail
         refine hQ _ _ wp ?_ (hJ.pre_op (i := 3) (by decide) n6 n8 hI' (fun j v h => h.kept hgp) ⟨xp, lp, up, rfl⟩)
         first | rfl | (simp [upd, c2]; done)
       · intro L ff kk ww hkk hJ hcl hLi hwt QQ' hQ
         try dsimp only
         have hkk2 : kk < 9 := hkk
         have n6 : L 6 = false := by
           cases hx : L 6 with
           | false => rfl
           | true =>
             have h6x := hx
             have h5x : L 5 = true := hcl 6 _ rfl h6x 5 (by decide)
             have h4x : L 4 = true := hcl 5 _ rfl h5x 4 (by decide)
             have h2 : L 4 = false := hLi
             rw [h4x] at h2; cases h2
         have n8 : L 8 = false := by
           cases hx : L 8 with
           | false => rfl
           | true =>
             have h8x := hx
             have h6x : L 6 = true := hcl 8 _ rfl h8x 6 (by decide)
             have h5x : L 5 = true := hcl 6 _ rfl h6x 5 (by decide)
             have h4x : L 4 = true := hcl 5 _ rfl h5x 4 (by decide)
             have h2 : L 4 = false := hLi
             rw [h4x] at h2; cases h2
         obtain ⟨x, x0, x1, ca⟩ := hJ.pre 3 (by decide) (hwt 3 (by decide)) n6
         have ca' : ff 3 = _ := ca
         have ew : IntKind.i64.wrap (x - 1) = x - 1 := IntWalk.i64_in _ (by omega)
         go_big_wp2_with fail
         refine hQ _ _ _ ?_ (hJ.pre_op (i := 4) (by decide) n6 n8 ((hJ.inv n6).mono (by omega)) (fun j v h => h) ⟨x - 1, rfl⟩)
         first | rfl | (simp [upd, ca', ew]; done)
       · intro L ff kk ww hkk hJ hcl hLi hwt QQ' hQ
         try dsimp only
         have hkk2 : kk < 9 := hkk
         have n6 : L 6 = false := by
           cases hx : L 6 with
           | false => rfl
           | true =>
             have h6x := hx
             have h5x : L 5 = true := hcl 6 _ rfl h6x 5 (by decide)
             have h2 : L 5 = false := hLi
             rw [h5x] at h2; cases h2
         have n8 : L 8 = false := by
           cases hx : L 8 with
           | false => rfl
           | true =>
             have h8x := hx
             have h6x : L 6 = true := hcl 8 _ rfl h8x 6 (by decide)
             have h5x : L 5 = true := hcl 6 _ rfl h6x 5 (by decide)
             have h2 : L 5 = false := hLi
             rw [h5x] at h2; cases h2
         obtain ⟨x, ca⟩ := hJ.pre 4 (by decide) (hwt 4 (by decide)) n6
         have ca' : ff 4 = _ := ca
         have hbW := (hJ.inv n6).rd.lt
         have hgw := World.grownBy_alloc ww (.cells #[.int .i64 x] 3) (some b)
         have hI' := (hJ.inv n6).below (W' := ww.alloc (.cells #[.int .i64 x] 3)) ((Below.refl _ _).alloc (Nat.le_refl _) _) |>.mono (Q' := p0 + 2 + (kk + 1)) (by omega)
         go_big_wp2_with fail
         refine hQ _ _ _ ?_ (hJ.pre_op (i := 5) (by decide) n6 n8 hI' (fun j v h => h.kept hgw) ⟨ww.heap.size, x, rfl, heap_alloc_new ww _, by omega⟩)
         first | rfl | (simp [upd, ca']; done)
       · intro L ff kk ww hkk hJ hcl hLi hwt QQ' hQ
         try dsimp only
         have hkk2 : kk < 9 := hkk
         have n6 : L 6 = false := hLi
         have n8 : L 8 = false := by
           cases hx : L 8 with
           | false => rfl
           | true =>
             have h8x := hx
             have h6x : L 6 = true := hcl 8 _ rfl h8x 6 (by decide)
             have h2 : L 6 = false := hLi
             rw [h6x] at h2; cases h2
         have c1 : ff 1 = _ := hJ.pre 1 (by decide) (hwt 1 (by decide)) n6
         obtain ⟨gl, x, cl, hz5, hgl⟩ := hJ.pre 5 (by decide) (hwt 5 (by decide)) n6
         have cl' : ff 5 = _ := cl
         have hF := hJ.inv n6
         have hbd := OK.out.2.1.2.2.2.2.1.2
         refine wpList_append_lies ww rfl _ _ 22 rfl W0.heap.size 3 i0 (.int .i64 0) 1 8 Tryz.underlying22 hi hz0 hz1 hz2 rfl (by decide) (.slice pc.aB d.nB pc.cB) d.nB (newsI d.B d.nB) c1 hF.oB ⟨gl, 0, none⟩ 1 1 [.int .i64 x] cl' rfl (World.news_of_block hz5) (by intro u hu; simp at hu; first | (subst hu; rfl) | (rcases hu with rfl | rfl | rfl <;> rfl)) (by decide) (by unfold maxLen; omega) (by omega) hF.gr.size ww.heap.size rfl ?_
         intro g2 cp2 wz ho hg hat hlt
         obtain ⟨a, k, e, y8, f8, SPx⟩ := hF.appB (x := x) ho hg (hat.elim (fun e => .inl e.symm) (fun e => .inr (by subst e; rfl))) (lt_heap hF.box)
         simp only [Act.put, List.setIfInBounds_toArray, List.set_cons_succ, List.set_cons_zero]
         exact hQ _ _ wz rfl (hJ.app_op n8 ⟨a, k, e, y8, f8, _, _, SPx.mono (by omega)⟩)
       · intro L ff kk ww hkk hJ hcl hLi hwt QQ' hQ
         try dsimp only
         have hkk2 : kk < 9 := hkk
         have n8 : L 8 = false := by
           cases hx : L 8 with
           | false => rfl
           | true =>
             have h8x := hx
             have h7x : L 7 = true := hcl 8 _ rfl h8x 7 (by decide)
             have h2 : L 7 = false := hLi
             rw [h7x] at h2; cases h2
         go_big_wp2_with fail
         refine hQ _ _ _ ?_ (hJ.fld_op n8 (fun h => h.mono (by omega)))
         first | rfl | (simp [upd]; done)
       · intro L ff kk ww hkk hJ hcl hLi hwt QQ' hQ
         try dsimp only
         have hkk2 : kk < 9 := hkk
         have n8 : L 8 = false := hLi
         have h6 : L 6 = true := hwt 6 (by decide)
         have c7 : ff 7 = _ := hJ.fld (hwt 7 (by decide))
         obtain ⟨a, k, e6, y8, f8, dd, q, hsp⟩ := hJ.mid h6 n8
         have e6' : ff 6 = _ := e6
         have SPX := Lib.hid hsp
         clear hsp e6
         go_big_wp2_with fail
         refine hQ _ undef _ ?_ (hJ.store_op _ h6 ⟨_, _, SPX.out⟩)
         first | rfl | (simp [upd, e6', c7]; done)
     case hend =>
       intro L ff kk ww hkb hL hJ
       try dsimp only
       obtain ⟨dd, q, hsp⟩ := hJ.done (hL 8 (by decide))
       have SPX := Lib.hid hsp
       clear hJ hL hsp
       go_wp2_with fail
       go_meet
       exact ⟨rfl, _, _, SPX.out⟩
   · go_upto_region 19 with fail
     refine wp_region_invK (by kernel_rfl) (fun k L f W => TA 11 (fun k W => FrInv W0 B (p0 + 2 + k) b wk.heap.size (w.heap.size + 1) d pc W) (SAppH b wk.heap.size d pc) (.pointer (some ⟨wk.heap.size, 9, none⟩)) (fun v W => ∃ a k, v = .slice a (d.nH + 1) k ∧ W.cell? ⟨wk.heap.size, 9, none⟩ = some (.slice pc.aH d.nH pc.cH) ∧ W.frozen? ⟨wk.heap.size, 9, none⟩ = false ∧ ∃ dd q, SpInv W0 B (p0 + 20) b wk.heap.size (w.heap.size + 1) dd q (W.setCell ⟨wk.heap.size, 9, none⟩ (.slice a (d.nH + 1) k))) (fun W => ∃ dd q, SpInv W0 B (p0 + 20) b wk.heap.size (w.heap.size + 1) dd q W) k L f W) (by kernel_rfl) (TA.start (HF.out.drew.mono (by omega))) ?_
     apply Exists.intro
     apply And.intro
     · intro f
       simp only [over, List.set]
       exact rfl
     refine ⟨?hops, ?hend⟩
     case hops =>
       refine EachOp.cons ?_ (EachOp.cons ?_ (EachOp.cons ?_ (EachOp.cons ?_ (EachOp.cons ?_ (EachOp.cons ?_ (EachOp.cons ?_ (EachOp.cons ?_ (EachOp.cons ?_ (EachOp.cons ?_ (EachOp.cons ?_ (EachOp.cons ?_ (EachOp.cons ?_ (EachOp.cons ?_ (EachOp.nil))))))))))))))
       · intro L ff kk ww hkk hJ hcl hLi hwt QQ' hQ
         try dsimp only
         have hkk2 : kk < 14 := hkk
         have n11 : L 11 = false := by
           cases hx : L 11 with
           | false => rfl
           | true =>
             have h11x := hx
             have h1x : L 1 = true := hcl 11 _ rfl h11x 1 (by decide)
             have h0x : L 0 = true := hcl 1 _ rfl h1x 0 (by decide)
             have h2 : L 0 = false := hLi
             rw [h0x] at h2; cases h2
         have n13 : L 13 = false := by
           cases hx : L 13 with
           | false => rfl
           | true =>
             have h13x := hx
             have h11x : L 11 = true := hcl 13 _ rfl h13x 11 (by decide)
             have h1x : L 1 = true := hcl 11 _ rfl h11x 1 (by decide)
             have h0x : L 0 = true := hcl 1 _ rfl h1x 0 (by decide)
             have h2 : L 0 = false := hLi
             rw [h0x] at h2; cases h2
         go_big_wp2_with fail
         refine hQ _ _ _ ?_ (hJ.pre_op (i := 0) (by decide) n11 n13 ((hJ.inv n11).mono (by omega)) (fun j v h => h) rfl)
         first | rfl | (simp [upd]; done)
       · intro L ff kk ww hkk hJ hcl hLi hwt QQ' hQ
         try dsimp only
         have hkk2 : kk < 14 := hkk
         have n11 : L 11 = false := by
           cases hx : L 11 with
           | false => rfl
           | true =>
             have h11x := hx
             have h1x : L 1 = true := hcl 11 _ rfl h11x 1 (by decide)
             have h2 : L 1 = false := hLi
             rw [h1x] at h2; cases h2
         have n13 : L 13 = false := by
           cases hx : L 13 with
           | false => rfl
           | true =>
             have h13x := hx
             have h11x : L 11 = true := hcl 13 _ rfl h13x 11 (by decide)
             have h1x : L 1 = true := hcl 11 _ rfl h11x 1 (by decide)
             have h2 : L 1 = false := hLi
             rw [h1x] at h2; cases h2
         have c0 : ff 0 = _ := hJ.pre 0 (by decide) (hwt 0 (by decide)) n11
         have yL := (hJ.inv n11).box.c9
         go_big_wp2_with fail
         refine hQ _ _ _ ?_ (hJ.pre_op (i := 1) (by decide) n11 n13 ((hJ.inv n11).mono (by omega)) (fun j v h => h) rfl)
         first | rfl | (simp [upd, c0]; done)
       · intro L ff kk ww hkk hJ hcl hLi hwt QQ' hQ
         try dsimp only
         have hkk2 : kk < 14 := hkk
         have n11 : L 11 = false := by
           cases hx : L 11 with
           | false => rfl
           | true =>
             have h11x := hx
             have h10x : L 10 = true := hcl 11 _ rfl h11x 10 (by decide)
             have h9x : L 9 = true := hcl 10 _ rfl h10x 9 (by decide)
             have h3x : L 3 = true := hcl 9 _ rfl h9x 3 (by decide)
             have h2x : L 2 = true := hcl 3 _ rfl h3x 2 (by decide)
             have h2 : L 2 = false := hLi
             rw [h2x] at h2; cases h2
         have n13 : L 13 = false := by
           cases hx : L 13 with
           | false => rfl
           | true =>
             have h13x := hx
             have h11x : L 11 = true := hcl 13 _ rfl h13x 11 (by decide)
             have h10x : L 10 = true := hcl 11 _ rfl h11x 10 (by decide)
             have h9x : L 9 = true := hcl 10 _ rfl h10x 9 (by decide)
             have h3x : L 3 = true := hcl 9 _ rfl h9x 3 (by decide)
             have h2x : L 2 = true := hcl 3 _ rfl h3x 2 (by decide)
             have h2 : L 2 = false := hLi
             rw [h2x] at h2; cases h2
         go_big_wp2_with fail
         refine hQ _ _ _ ?_ (hJ.pre_op (i := 2) (by decide) n11 n13 ((hJ.inv n11).mono (by omega)) (fun j v h => h) rfl)
         first | rfl | (simp [upd]; done)
       · intro L ff kk ww hkk hJ hcl hLi hwt QQ' hQ
         try dsimp only
         have hkk2 : kk < 14 := hkk
         have n11 : L 11 = false := by
           cases hx : L 11 with
           | false => rfl
           | true =>
             have h11x := hx
             have h10x : L 10 = true := hcl 11 _ rfl h11x 10 (by decide)
             have h9x : L 9 = true := hcl 10 _ rfl h10x 9 (by decide)
             have h3x : L 3 = true := hcl 9 _ rfl h9x 3 (by decide)
             have h2 : L 3 = false := hLi
             rw [h3x] at h2; cases h2
         have n13 : L 13 = false := by
           cases hx : L 13 with
           | false => rfl
           | true =>
             have h13x := hx
             have h11x : L 11 = true := hcl 13 _ rfl h13x 11 (by decide)
             have h10x : L 10 = true := hcl 11 _ rfl h11x 10 (by decide)
             have h9x : L 9 = true := hcl 10 _ rfl h10x 9 (by decide)
             have h3x : L 3 = true := hcl 9 _ rfl h9x 3 (by decide)
             have h2 : L 3 = false := hLi
             rw [h3x] at h2; cases h2
         have c2 : ff 2 = _ := hJ.pre 2 (by decide) (hwt 2 (by decide)) n11
         obtain ⟨qq, hqq, hrq⟩ := (hJ.inv n11).rd
         go_big_wp2_with fail
         refine (pick B b qq 9 ww hrq (by omega) (by omega) (by omega)).mono ?_
         rintro e wp ⟨xp, lp, up, rfl, hrp, hgp, -⟩
         have hI' := (hJ.inv n11).far (Q' := p0 + 2 + (kk + 1)) hgp ⟨_, (by omega), hrp⟩
         clear hrp hrq
         go_big_wp2_with fail
         refine hQ _ _ wp ?_ (hJ.pre_op (i := 3) (by decide) n11 n13 hI' (fun j v h => h.kept hgp) ⟨xp, rfl⟩)
         first | rfl | (simp [upd, c2]; done)
       · intro L ff kk ww hkk hJ hcl hLi hwt QQ' hQ
         try dsimp only
         have hkk2 : kk < 14 := hkk
         have n11 : L 11 = false := by
           cases hx : L 11 with
           | false => rfl
           | true =>
             have h11x := hx
             have h10x : L 10 = true := hcl 11 _ rfl h11x 10 (by decide)
             have h9x : L 9 = true := hcl 10 _ rfl h10x 9 (by decide)
             have h5x : L 5 = true := hcl 9 _ rfl h9x 5 (by decide)
             have h4x : L 4 = true := hcl 5 _ rfl h5x 4 (by decide)
             have h2 : L 4 = false := hLi
             rw [h4x] at h2; cases h2
         have n13 : L 13 = false := by
           cases hx : L 13 with
           | false => rfl
           | true =>
             have h13x := hx
             have h11x : L 11 = true := hcl 13 _ rfl h13x 11 (by decide)
             have h10x : L 10 = true := hcl 11 _ rfl h11x 10 (by decide)
             have h9x : L 9 = true := hcl 10 _ rfl h10x 9 (by decide)
             have h5x : L 5 = true := hcl 9 _ rfl h9x 5 (by decide)
             have h4x : L 4 = true := hcl 5 _ rfl h5x 4 (by decide)
             have h2 : L 4 = false := hLi
             rw [h4x] at h2; cases h2
         go_big_wp2_with fail
         refine hQ _ _ _ ?_ (hJ.pre_op (i := 4) (by decide) n11 n13 ((hJ.inv n11).mono (by omega)) (fun j v h => h) rfl)
         first | rfl | (simp [upd]; done)
       · intro L ff kk ww hkk hJ hcl hLi hwt QQ' hQ
         try dsimp only
         have hkk2 : kk < 14 := hkk
         have n11 : L 11 = false := by
           cases hx : L 11 with
           | false => rfl
           | true =>
             have h11x := hx
             have h10x : L 10 = true := hcl 11 _ rfl h11x 10 (by decide)
             have h9x : L 9 = true := hcl 10 _ rfl h10x 9 (by decide)
             have h5x : L 5 = true := hcl 9 _ rfl h9x 5 (by decide)
             have h2 : L 5 = false := hLi
             rw [h5x] at h2; cases h2
         have n13 : L 13 = false := by
           cases hx : L 13 with
           | false => rfl
           | true =>
             have h13x := hx
             have h11x : L 11 = true := hcl 13 _ rfl h13x 11 (by decide)
             have h10x : L 10 = true := hcl 11 _ rfl h11x 10 (by decide)
             have h9x : L 9 = true := hcl 10 _ rfl h10x 9 (by decide)
             have h5x : L 5 = true := hcl 9 _ rfl h9x 5 (by decide)
             have h2 : L 5 = false := hLi
             rw [h5x] at h2; cases h2
         have c4 : ff 4 = _ := hJ.pre 4 (by decide) (hwt 4 (by decide)) n11
         obtain ⟨qq, hqq, hrq⟩ := (hJ.inv n11).rd
         go_big_wp2_with fail
         refine (pick B b qq 4 ww hrq (by omega) (by omega) (by omega)).mono ?_
         rintro e wp ⟨xp, lp, up, rfl, hrp, hgp, -⟩
         have hI' := (hJ.inv n11).far (Q' := p0 + 2 + (kk + 1)) hgp ⟨_, (by omega), hrp⟩
         clear hrp hrq
         go_big_wp2_with fail
         refine hQ _ _ wp ?_ (hJ.pre_op (i := 5) (by decide) n11 n13 hI' (fun j v h => h.kept hgp) ⟨xp, rfl⟩)
         first | rfl | (simp [upd, c4]; done)
       · intro L ff kk ww hkk hJ hcl hLi hwt QQ' hQ
         try dsimp only
         have hkk2 : kk < 14 := hkk
         have n11 : L 11 = false := by
           cases hx : L 11 with
           | false => rfl
           | true =>
             have h11x := hx
             have h10x : L 10 = true := hcl 11 _ rfl h11x 10 (by decide)
             have h9x : L 9 = true := hcl 10 _ rfl h10x 9 (by decide)
             have h8x : L 8 = true := hcl 9 _ rfl h9x 8 (by decide)
             have h7x : L 7 = true := hcl 8 _ rfl h8x 7 (by decide)
             have h6x : L 6 = true := hcl 7 _ rfl h7x 6 (by decide)
             have h2 : L 6 = false := hLi
             rw [h6x] at h2; cases h2
         have n13 : L 13 = false := by
           cases hx : L 13 with
           | false => rfl
           | true =>
             have h13x := hx
             have h11x : L 11 = true := hcl 13 _ rfl h13x 11 (by decide)
             have h10x : L 10 = true := hcl 11 _ rfl h11x 10 (by decide)
             have h9x : L 9 = true := hcl 10 _ rfl h10x 9 (by decide)
             have h8x : L 8 = true := hcl 9 _ rfl h9x 8 (by decide)
             have h7x : L 7 = true := hcl 8 _ rfl h8x 7 (by decide)
             have h6x : L 6 = true := hcl 7 _ rfl h7x 6 (by decide)
             have h2 : L 6 = false := hLi
             rw [h6x] at h2; cases h2
         go_big_wp2_with fail
         refine hQ _ _ _ ?_ (hJ.pre_op (i := 6) (by decide) n11 n13 ((hJ.inv n11).mono (by omega)) (fun j v h => h) rfl)
         first | rfl | (simp [upd]; done)
       · intro L ff kk ww hkk hJ hcl hLi hwt QQ' hQ
         try dsimp only
         have hkk2 : kk < 14 := hkk
         have n11 : L 11 = false := by
           cases hx : L 11 with
           | false => rfl
           | true =>
             have h11x := hx
             have h10x : L 10 = true := hcl 11 _ rfl h11x 10 (by decide)
             have h9x : L 9 = true := hcl 10 _ rfl h10x 9 (by decide)
             have h8x : L 8 = true := hcl 9 _ rfl h9x 8 (by decide)
             have h7x : L 7 = true := hcl 8 _ rfl h8x 7 (by decide)
             have h2 : L 7 = false := hLi
             rw [h7x] at h2; cases h2
         have n13 : L 13 = false := by
           cases hx : L 13 with
           | false => rfl
           | true =>
             have h13x := hx
             have h11x : L 11 = true := hcl 13 _ rfl h13x 11 (by decide)
             have h10x : L 10 = true := hcl 11 _ rfl h11x 10 (by decide)
             have h9x : L 9 = true := hcl 10 _ rfl h10x 9 (by decide)
             have h8x : L 8 = true := hcl 9 _ rfl h9x 8 (by decide)
             have h7x : L 7 = true := hcl 8 _ rfl h8x 7 (by decide)
             have h2 : L 7 = false := hLi
             rw [h7x] at h2; cases h2
         have c6 : ff 6 = _ := hJ.pre 6 (by decide) (hwt 6 (by decide)) n11
         obtain ⟨qq, hqq, hrq⟩ := (hJ.inv n11).rd
         go_big_wp2_with fail
         refine (pick B b qq 5 ww hrq (by omega) (by omega) (by omega)).mono ?_
         rintro e wp ⟨xp, lp, up, rfl, hrp, hgp, -⟩
         have hI' := (hJ.inv n11).far (Q' := p0 + 2 + (kk + 1)) hgp ⟨_, (by omega), hrp⟩
         clear hrp hrq
         go_big_wp2_with fail
         refine hQ _ _ wp ?_ (hJ.pre_op (i := 7) (by decide) n11 n13 hI' (fun j v h => h.kept hgp) ⟨xp, lp, up, rfl⟩)
         first | rfl | (simp [upd, c6]; done)
       · intro L ff kk ww hkk hJ hcl hLi hwt QQ' hQ
         try dsimp only
         have hkk2 : kk < 14 := hkk
         have n11 : L 11 = false := by
           cases hx : L 11 with
           | false => rfl
           | true =>
             have h11x := hx
             have h10x : L 10 = true := hcl 11 _ rfl h11x 10 (by decide)
             have h9x : L 9 = true := hcl 10 _ rfl h10x 9 (by decide)
             have h8x : L 8 = true := hcl 9 _ rfl h9x 8 (by decide)
             have h2 : L 8 = false := hLi
             rw [h8x] at h2; cases h2
         have n13 : L 13 = false := by
           cases hx : L 13 with
           | false => rfl
           | true =>
             have h13x := hx
             have h11x : L 11 = true := hcl 13 _ rfl h13x 11 (by decide)
             have h10x : L 10 = true := hcl 11 _ rfl h11x 10 (by decide)
             have h9x : L 9 = true := hcl 10 _ rfl h10x 9 (by decide)
             have h8x : L 8 = true := hcl 9 _ rfl h9x 8 (by decide)
             have h2 : L 8 = false := hLi
             rw [h8x] at h2; cases h2
         obtain ⟨x, x0, x1, ca⟩ := hJ.pre 7 (by decide) (hwt 7 (by decide)) n11
         have ca' : ff 7 = _ := ca
         have ew : IntKind.i64.wrap (x - 2) = x - 2 := IntWalk.i64_in _ (by omega)
         go_big_wp2_with fail
         refine hQ _ _ _ ?_ (hJ.pre_op (i := 8) (by decide) n11 n13 ((hJ.inv n11).mono (by omega)) (fun j v h => h) ⟨x - 2, rfl⟩)
         first | rfl | (simp [upd, ca', ew]; done)
       · intro L ff kk ww hkk hJ hcl hLi hwt QQ' hQ
         try dsimp only
         have hkk2 : kk < 14 := hkk
         have n11 : L 11 = false := by
           cases hx : L 11 with
           | false => rfl
           | true =>
             have h11x := hx
             have h10x : L 10 = true := hcl 11 _ rfl h11x 10 (by decide)
             have h9x : L 9 = true := hcl 10 _ rfl h10x 9 (by decide)
             have h2 : L 9 = false := hLi
             rw [h9x] at h2; cases h2
         have n13 : L 13 = false := by
           cases hx : L 13 with
           | false => rfl
           | true =>
             have h13x := hx
             have h11x : L 11 = true := hcl 13 _ rfl h13x 11 (by decide)
             have h10x : L 10 = true := hcl 11 _ rfl h11x 10 (by decide)
             have h9x : L 9 = true := hcl 10 _ rfl h10x 9 (by decide)
             have h2 : L 9 = false := hLi
             rw [h9x] at h2; cases h2
         obtain ⟨x3, c3⟩ := hJ.pre 3 (by decide) (hwt 3 (by decide)) n11
         obtain ⟨x5, c5⟩ := hJ.pre 5 (by decide) (hwt 5 (by decide)) n11
         obtain ⟨x8, c8⟩ := hJ.pre 8 (by decide) (hwt 8 (by decide)) n11
         have c3' : ff 3 = _ := c3
         have c5' : ff 5 = _ := c5
         have c8' : ff 8 = _ := c8
         go_big_wp2_with fail
         refine hQ _ _ _ ?_ (hJ.pre_op (i := 9) (by decide) n11 n13 ((hJ.inv n11).mono (by omega)) (fun j v h => h) ⟨x3, x5, x8, rfl⟩)
         first | rfl | (simp [upd, c3', c5', c8']; done)
       · intro L ff kk ww hkk hJ hcl hLi hwt QQ' hQ
         try dsimp only
         have hkk2 : kk < 14 := hkk
         have n11 : L 11 = false := by
           cases hx : L 11 with
           | false => rfl
           | true =>
             have h11x := hx
             have h10x : L 10 = true := hcl 11 _ rfl h11x 10 (by decide)
             have h2 : L 10 = false := hLi
             rw [h10x] at h2; cases h2
         have n13 : L 13 = false := by
           cases hx : L 13 with
           | false => rfl
           | true =>
             have h13x := hx
             have h11x : L 11 = true := hcl 13 _ rfl h13x 11 (by decide)
             have h10x : L 10 = true := hcl 11 _ rfl h11x 10 (by decide)
             have h2 : L 10 = false := hLi
             rw [h10x] at h2; cases h2
         obtain ⟨t, c, s, ca⟩ := hJ.pre 9 (by decide) (hwt 9 (by decide)) n11
         have ca' : ff 9 = _ := ca
         have hbW := (hJ.inv n11).rd.lt
         have hgw := World.grownBy_alloc ww (.cells #[.int .i64 t, .int .i64 c, .int .i64 s] 58) (some b)
         have hI' := (hJ.inv n11).below (W' := ww.alloc (.cells #[.int .i64 t, .int .i64 c, .int .i64 s] 58)) ((Below.refl _ _).alloc (Nat.le_refl _) _) |>.mono (Q' := p0 + 2 + (kk + 1)) (by omega)
         go_big_wp2_with fail
         refine hQ _ _ _ ?_ (hJ.pre_op (i := 10) (by decide) n11 n13 hI' (fun j v h => h.kept hgw) ⟨ww.heap.size, t, c, s, rfl, heap_alloc_new ww _, by omega⟩)
         first | rfl | (simp [upd, ca']; done)
       · intro L ff kk ww hkk hJ hcl hLi hwt QQ' hQ
         try dsimp only
         have hkk2 : kk < 14 := hkk
         have n11 : L 11 = false := hLi
         have n13 : L 13 = false := by
           cases hx : L 13 with
           | false => rfl
           | true =>
             have h13x := hx
             have h11x : L 11 = true := hcl 13 _ rfl h13x 11 (by decide)
             have h2 : L 11 = false := hLi
             rw [h11x] at h2; cases h2
         have c1 : ff 1 = _ := hJ.pre 1 (by decide) (hwt 1 (by decide)) n11
         obtain ⟨gl, t, c, s, cl, hz5, hgl⟩ := hJ.pre 10 (by decide) (hwt 10 (by decide)) n11
         have cl' : ff 10 = _ := cl
         have hF := hJ.inv n11
         have hbd := OK.out.2.2.1.1
         refine wpList_append_lies ww rfl _ _ 23 rfl W0.heap.size 58 j0 (.agg #[.int .i64 0, .int .i64 0, .int .i64 0]) 3 24 Tryz.underlying23 ji jz0 jz1 jz2 rfl (by decide) (.slice pc.aH d.nH pc.cH) d.nH (flatN (ndsOf d.t d.c d.s d.nH)) c1 hF.oH ⟨gl, 0, none⟩ 1 1 [.int .i64 t, .int .i64 c, .int .i64 s] cl' rfl (World.news_of_block hz5) (by intro u hu; simp at hu; first | (subst hu; rfl) | (rcases hu with rfl | rfl | rfl <;> rfl)) (by decide) (by unfold maxLen; omega) (by omega) hF.gr.size ww.heap.size rfl ?_
         intro g2 cp2 wz ho hg hat hlt
         obtain ⟨a, k, e, y8, f8, SPx⟩ := hF.appH (t := t) (c := c) (s := s) ho hg (hat.elim (fun e => .inl e.symm) (fun e => .inr (by subst e; rfl)))
         simp only [Act.put, List.setIfInBounds_toArray, List.set_cons_succ, List.set_cons_zero]
         exact hQ _ _ wz rfl (hJ.app_op n13 ⟨a, k, e, y8, f8, _, _, SPx.mono (by omega)⟩)
       · intro L ff kk ww hkk hJ hcl hLi hwt QQ' hQ
         try dsimp only
         have hkk2 : kk < 14 := hkk
         have n13 : L 13 = false := by
           cases hx : L 13 with
           | false => rfl
           | true =>
             have h13x := hx
             have h12x : L 12 = true := hcl 13 _ rfl h13x 12 (by decide)
             have h2 : L 12 = false := hLi
             rw [h12x] at h2; cases h2
         go_big_wp2_with fail
         refine hQ _ _ _ ?_ (hJ.fld_op n13 (fun h => h.mono (by omega)))
         first | rfl | (simp [upd]; done)
       · intro L ff kk ww hkk hJ hcl hLi hwt QQ' hQ
         try dsimp only
         have hkk2 : kk < 14 := hkk
         have n13 : L 13 = false := hLi
         have h6 : L 11 = true := hwt 11 (by decide)
         have c7 : ff 12 = _ := hJ.fld (hwt 12 (by decide))
         obtain ⟨a, k, e6, y8, f8, dd, q, hsp⟩ := hJ.mid h6 n13
         have e6' : ff 11 = _ := e6
         have SPX := Lib.hid hsp
         clear hsp e6
         go_big_wp2_with fail
         refine hQ _ undef _ ?_ (hJ.store_op _ h6 ⟨_, _, SPX.out⟩)
         first | rfl | (simp [upd, e6', c7]; done)
     case hend =>
       intro L ff kk ww hkb hL hJ
       try dsimp only
       obtain ⟨dd, q, hsp⟩ := hJ.done (hL 13 (by decide))
       have SPX := Lib.hid hsp
       clear hJ hL hsp
       go_wp2_with fail
       go_meet
       exact ⟨rfl, _, _, SPX.out⟩
   · obtain ⟨g, eg, n3, c3, SPx⟩ := HF.out.cutL
     have SPX := Lib.hid SPx
     have N3 := Lib.hid n3
     have y6 := HF.out.box.c6
     rw [eg, n3] at y6
     have f6 := LegBox.fr HF.out.box 6
     have k1 : (1 : Int) ≤ (pc.cL : Int) := by omega
     have k2 : pc.cL ≠ 1 := by omega
     clear SPx n3 eg
     go_wp2_with fail
     go_meet
     exact ⟨rfl, _, _, (SPX.out.mono (Q' := p0 + 20) (by omega))⟩
  case rest =>
  obtain ⟨rfl, dd, q, hsp0⟩ := hcut
  have hsp := hsp0.out
  clear hsp0
  generalize wc = W9 at *
  have hres9 : Hid (W9.heap[w.heap.size + 1]? = some (.cells #[.string ⟨#[]⟩, .string ⟨#[]⟩, .string ⟨#[]⟩, .int .i64 0, .int .i64 0, .int .i64 0, .slice none 0 0, .slice none 0 0, .slice none 0 0, .slice none 0 0] 25 (0, 0))) := HRES.out W9 hsp.gr
  have hpost := Lib.hid (hsp.done GR0.out (by omega) (Nat.le_succ _))
  have z0 := (hsp.box).c0
  have z1 := (hsp.box).c1
  have z2 := (hsp.box).c2
  have z3 := (hsp.box).c3
  have z4 := (hsp.box).c4
  have z5 := (hsp.box).c5
  have z6 := (hsp.box).c6
  have z7 := (hsp.box).c7
  have z8 := (hsp.box).c8
  have z9 := (hsp.box).c9
  clear hsp
  go_wp2_with (first
    | (refine wpList_store_row rfl 25 _ _ rfl (w.heap.size + 1) (LegC dd q) rfl rfl 25 #[.string ⟨#[]⟩, .string ⟨#[]⟩, .string ⟨#[]⟩, .int .i64 0, .int .i64 0, .int .i64 0, .slice none 0 0, .slice none 0 0, .slice none 0 0, .slice none 0 0] hres9.out legSize rfl (leg_one1 _ _) ?_)
    | fail)
  clear z0 z1 z2 z3 z4 z5 z6 z7 z8 z9
  have hfin : LegBox (W9.setRow (w.heap.size + 1) (LegC dd q)) (w.heap.size + 1) dd q := setRow_heap W9 (w.heap.size + 1) _ _ _ _ hres9.out
  generalize W9.setRow (w.heap.size + 1) (LegC dd q) = W10 at *
  have z0 := (hfin).c0
  have z1 := (hfin).c1
  have z2 := (hfin).c2
  have z3 := (hfin).c3
  have z4 := (hfin).c4
  have z5 := (hfin).c5
  have z6 := (hfin).c6
  have z7 := (hfin).c7
  have z8 := (hfin).c8
  have z9 := (hfin).c9
  clear hfin
  refine bodyPost_ret (v := LegV dd q) ?_ rfl hpost.out
  rw [LegV_eq]
  unfold LegC
  rw [results_cell1 rfl]
  go_simp
  all_goals rfl
end Go.Proofs.YtdaccpffdnbkiaaGreatDoor
