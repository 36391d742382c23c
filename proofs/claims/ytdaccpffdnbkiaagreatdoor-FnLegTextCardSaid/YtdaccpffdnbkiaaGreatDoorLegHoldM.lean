/-
  Seats are held: the model's.
-/
import Derived.Test.YtdaccpffdnbkiaaGreatDoorJ29
import Derived.Test.YtdaccpffdnbkiaaGreatDoorJ31
import Derived.BigQuiet
import Derived.Deep.Cut
import Derived.Test.YtdaccpffdnbkiaaGreatDoorAppendS
namespace Go.Proofs.YtdaccpffdnbkiaaGreatDoor
open Go.RowKit Go.BigFrame
set_option linter.unusedVariables false
set_option linter.unusedSimpArgs false


def HoldMPost (d : LegD) (p : LegP) (t c s share : Int) (w : World) (e : Ending) (w' : World) : Prop :=
  (∃ d' p' b, e = .returned (.tuple #[LegV d' p', .bool b]) ∧ Hid (HoldIs d t c s share d' b) ∧ d'.nH ≤ p'.cH ∧ Moved w d'.nH p p' ∧ (b = true → d'.nH = 0 ∨ NewAt w p'.aH) ∧ LegIn w' d' p') ∧ Below w.heap.size w w'
/-- What the operations leave that only look. -/
def cst6 (bx : Nat) (p : LegP) (d : LegD) (k : Nat) (t c s : Int) (i : Nat) : Value := match i with
  | 1 => .pointer (some ⟨bx, 9, none⟩)
  | 2 => .slice p.aH d.nH p.cH
  | 3 => .int .i64 k
  | 4 => sliced p.aH 0 k p.cH 3
  | 6 => .agg #[.int .i64 t, .int .i64 c, .int .i64 s]
  | 9 => .pointer (some ⟨bx, 9, none⟩)
  | 10 => .slice p.aH d.nH p.cH
  | 11 => .int .i64 k
  | 12 => sliced p.aH k d.nH p.cH 3
  | 14 => .pointer (some ⟨bx, 9, none⟩)
  | _ => undef
theorem inQ2 (n a b : Int) (v : Bool) (h : (decide (a ≤ n) && decide (n ≤ b)) = v) (w : World) : Calls Tryz.prog 43 #[.int .i64 n, .int .i64 a, .int .i64 b] w fun e w' => e = .returned (.bool v) ∧ w' = w :=
  (specInB n a b w v h).mono fun _ _ h => ⟨h.1, h.2.symm⟩
set_option maxRecDepth 100000 in
set_option maxHeartbeats 8000000 in
theorem holdM (d : LegD) (p : LegP) (t c s share : Int) (w : World) (hin : LegIn w d p) (ho : OkLeg d) (hcH : d.nH ≤ p.cH) :
    Calls Tryz.prog 55 #[LegV d p, .agg #[.int .i64 t, .int .i64 c, .int .i64 s], .int .i64 share] w (HoldMPost d p t c s share w) := by
  have hbC : Below w.heap.size w (((w.alloc (.cells (LegC d p) 25)).alloc (.cells #[.int .i64 t, .int .i64 c, .int .i64 s] 58)).alloc (.cells #[.string ⟨#[]⟩, .string ⟨#[]⟩, .string ⟨#[]⟩, .int .i64 0, .int .i64 0, .int .i64 0, .slice none 0 0, .slice none 0 0, .slice none 0 0, .slice none 0 0] 25)) := (((Below.refl _ _).alloc (Nat.le_refl _) _).alloc (by simp) _).alloc (by simp only [World.size_alloc]; omega) _
  have hX : LegBox (((w.alloc (.cells (LegC d p) 25)).alloc (.cells #[.int .i64 t, .int .i64 c, .int .i64 s] 58)).alloc (.cells #[.string ⟨#[]⟩, .string ⟨#[]⟩, .string ⟨#[]⟩, .int .i64 0, .int .i64 0, .int .i64 0, .slice none 0 0, .slice none 0 0, .slice none 0 0, .slice none 0 0] 25)) w.heap.size d p := ((LegBox.new w d p).kept ((Below.refl _ _).alloc (Nat.le_refl _) _)).kept ((Below.refl _ _).alloc (Nat.le_refl _) _)
  have hQ : (((w.alloc (.cells (LegC d p) 25)).alloc (.cells #[.int .i64 t, .int .i64 c, .int .i64 s] 58)).alloc (.cells #[.string ⟨#[]⟩, .string ⟨#[]⟩, .string ⟨#[]⟩, .int .i64 0, .int .i64 0, .int .i64 0, .slice none 0 0, .slice none 0 0, .slice none 0 0, .slice none 0 0] 25)).heap[w.heap.size + 1]? = some (.cells #[.int .i64 t, .int .i64 c, .int .i64 s] 58 (0, 0)) := by
    have := heap_alloc_new (w.alloc (.cells (LegC d p) 25)) (.cells #[.int .i64 t, .int .i64 c, .int .i64 s] 58)
    rw [World.size_alloc] at this
    exact (((Below.refl _ _).alloc (Nat.le_refl _) _).block _ (by simp)).trans this
  have hR : (((w.alloc (.cells (LegC d p) 25)).alloc (.cells #[.int .i64 t, .int .i64 c, .int .i64 s] 58)).alloc (.cells #[.string ⟨#[]⟩, .string ⟨#[]⟩, .string ⟨#[]⟩, .int .i64 0, .int .i64 0, .int .i64 0, .slice none 0 0, .slice none 0 0, .slice none 0 0, .slice none 0 0] 25)).heap[w.heap.size + 1 + 1]? = some (.cells #[.string ⟨#[]⟩, .string ⟨#[]⟩, .string ⟨#[]⟩, .int .i64 0, .int .i64 0, .int .i64 0, .slice none 0 0, .slice none 0 0, .slice none 0 0, .slice none 0 0] 25 (0, 0)) := by
    have := heap_alloc_new ((w.alloc (.cells (LegC d p) 25)).alloc (.cells #[.int .i64 t, .int .i64 c, .int .i64 s] 58)) (.cells #[.string ⟨#[]⟩, .string ⟨#[]⟩, .string ⟨#[]⟩, .int .i64 0, .int .i64 0, .int .i64 0, .slice none 0 0, .slice none 0 0, .slice none 0 0, .slice none 0 0] 25)
    simpa only [World.size_alloc] using this
  have Hin := Lib.hid hin
  have D0 := Lib.hid hbC
  have X0 := Lib.hid hX
  have Q0 := Lib.hid hQ
  have R0 := Lib.hid hR
  have HK := Lib.hid ho
  have hn6 := ho.2.2.1.1
  have hcap := ho.2.1.1
  obtain ⟨u0, u1, u2⟩ := row3 hQ
  have b0 := hX.c0
  have b1 := hX.c1
  have b2 := hX.c2
  have b3 := hX.c3
  have b4 := hX.c4
  have b5 := hX.c5
  have b6 := hX.c6
  have b7 := hX.c7
  have b8 := hX.c8
  have b9 := hX.c9
  rw [LegV_eq]
  generalize hLC : LegC d p = LC at *
  clear hbC hX hQ hR hin hLC ho
  go_enter Tryz.func55, Tryz.ntmps55
  go_big_wp2_with fail
  generalize (((w.alloc (.cells LC 25)).alloc (.cells #[.int .i64 t, .int .i64 c, .int .i64 s] 58)).alloc (.cells #[.string ⟨#[]⟩, .string ⟨#[]⟩, .string ⟨#[]⟩, .int .i64 0, .int .i64 0, .int .i64 0, .slice none 0 0, .slice none 0 0, .slice none 0 0, .slice none 0 0] 25)) = W0 at *
  refine (heldM d p t W0 (Hin.out.kept D0.out) (by omega)).mono ?_
  rintro e w1 ⟨⟨k, b, hat, rfl, hb⟩, d1⟩
  have X1 := Lib.hid (X0.out.kept d1)
  have Q1 := Lib.hid ((d1.block _ (lt_heap Q0.out)).trans Q0.out)
  have R1 := Lib.hid ((d1.block _ (lt_heap R0.out)).trans R0.out)
  have D1 := Lib.hid (bt D0.out d1)
  have HAT := Lib.hid hat
  have X1' := X1.out
  clear b0 b1 b2 b3 b4 b5 b6 b7 b8 b9 u0 u1 u2 d1 hat
  have b0 := X1'.c0
  have b1 := X1'.c1
  have b2 := X1'.c2
  have b3 := X1'.c3
  have b4 := X1'.c4
  have b5 := X1'.c5
  have b6 := X1'.c6
  have b7 := X1'.c7
  have b8 := X1'.c8
  have b9 := X1'.c9
  obtain ⟨u0, u1, u2⟩ := row3 Q1.out
  clear X1'
  have hasit : Hid (b = true ↔ ¬ ∀ i, i < d.nH → d.t i ≠ t) := by
    refine hb.out.trans ⟨fun h hall => hall k h.1 h.2, fun hno => ?_⟩
    have : ∃ i, i < d.nH ∧ d.t i = t := by
      rcases Classical.em (∃ i, i < d.nH ∧ d.t i = t) with q | q
      · exact q
      · exact absurd (fun i hi he => q ⟨i, hi, he⟩) hno
    obtain ⟨i, hi, he⟩ := this
    have hki : k ≤ i := by
      rcases Nat.lt_or_ge i k with q | q
      · have := HAT.out.2.1 i q; omega
      · exact q
    refine ⟨by omega, ?_⟩
    have h2 := HAT.out.2.2 (by omega)
    rcases Nat.lt_or_ge k i with q | q
    · have := asc_of HK.out.2.2.1 q hi; omega
    · obtain rfl : k = i := by omega
      exact he
  clear hb
  cases b with
  | true =>
    have hcan : Hid (¬ CanPut d t c s share) := fun h => hasit.out.1 rfl h.2.1
    clear hasit
    go_upto_region 3 with fail
    go_big_wp2_with (first
      | (refine wpList_store_row rfl 25 _ _ rfl (w.heap.size + 1 + 1) (LegC d p) rfl rfl 25 #[.string ⟨#[]⟩, .string ⟨#[]⟩, .string ⟨#[]⟩, .int .i64 0, .int .i64 0, .int .i64 0, .slice none 0 0, .slice none 0 0, .slice none 0 0, .slice none 0 0] R1.out legSize rfl (leg_one1 d p) ?_)
      | fail)
    have hfin : LegBox (w1.setRow (w.heap.size + 1 + 1) (LegC d p)) (w.heap.size + 1 + 1) d p := setRow_heap w1 (w.heap.size + 1 + 1) _ _ _ _ R1.out
    have gr := grown_setRow w1 (w.heap.size + 1 + 1) (LegC d p)
    have hb2 := Lib.hid (D1.out.grown gr D1.out.size (fun q e => by cases e; omega))
    clear b0 b1 b2 b3 b4 b5 b6 b7 b8 b9 u0 u1 u2
    generalize w1.setRow (w.heap.size + 1 + 1) (LegC d p) = W9 at *
    have y0 := hfin.c0
    have y1 := hfin.c1
    have y2 := hfin.c2
    have y3 := hfin.c3
    have y4 := hfin.c4
    have y5 := hfin.c5
    have y6 := hfin.c6
    have y7 := hfin.c7
    have y8 := hfin.c8
    have y9 := hfin.c9
    clear hfin gr
    refine bodyPost_ret (v := .tuple #[LegV d p, .bool false]) ?_ rfl ⟨⟨d, p, false, rfl, ⟨fun h => absurd HK.out h, fun _ => ⟨⟨fun h => (by cases h), fun h => absurd h hcan.out⟩, fun h => (by cases h), fun _ => rfl⟩⟩, hcH, Moved.same _ _ _, fun h => (by cases h), Hin.out.kept hb2.out⟩, hb2.out⟩
    rw [LegV_eq]
    unfold LegC
    simp [results, Tryz.f55, go_sem, y0, y1, y2, y3, y4, y5, y6, y7, y8, y9]
  | false =>
  have hall : Hid (∀ i, i < d.nH → d.t i ≠ t) := Classical.byContradiction fun q => by have := hasit.out.2 q; cases this
  clear hasit
  rcases Nat.lt_or_ge d.nH 6 with h6 | h6
  rotate_left
  · have hcan : Hid (¬ CanPut d t c s share) := fun h => by have := h.1; omega
    have z6 : decide ((6 : Int) ≤ (d.nH : Int)) = true := decide_eq_true (by omega)
    have k6 : (6 : Int) ≤ (d.nH : Int) := by omega
    go_upto_region 3 with fail
    go_big_wp2_with (first
      | (refine wpList_store_row rfl 25 _ _ rfl (w.heap.size + 1 + 1) (LegC d p) rfl rfl 25 #[.string ⟨#[]⟩, .string ⟨#[]⟩, .string ⟨#[]⟩, .int .i64 0, .int .i64 0, .int .i64 0, .slice none 0 0, .slice none 0 0, .slice none 0 0, .slice none 0 0] R1.out legSize rfl (leg_one1 d p) ?_)
      | fail)
    have hfin : LegBox (w1.setRow (w.heap.size + 1 + 1) (LegC d p)) (w.heap.size + 1 + 1) d p := setRow_heap w1 (w.heap.size + 1 + 1) _ _ _ _ R1.out
    have gr := grown_setRow w1 (w.heap.size + 1 + 1) (LegC d p)
    have hb2 := Lib.hid (D1.out.grown gr D1.out.size (fun q e => by cases e; omega))
    clear b0 b1 b2 b3 b4 b5 b6 b7 b8 b9 u0 u1 u2
    generalize w1.setRow (w.heap.size + 1 + 1) (LegC d p) = W9 at *
    have y0 := hfin.c0
    have y1 := hfin.c1
    have y2 := hfin.c2
    have y3 := hfin.c3
    have y4 := hfin.c4
    have y5 := hfin.c5
    have y6 := hfin.c6
    have y7 := hfin.c7
    have y8 := hfin.c8
    have y9 := hfin.c9
    clear hfin gr
    refine bodyPost_ret (v := .tuple #[LegV d p, .bool false]) ?_ rfl ⟨⟨d, p, false, rfl, ⟨fun h => absurd HK.out h, fun _ => ⟨⟨fun h => (by cases h), fun h => absurd h hcan.out⟩, fun h => (by cases h), fun _ => rfl⟩⟩, hcH, Moved.same _ _ _, fun h => (by cases h), Hin.out.kept hb2.out⟩, hb2.out⟩
    rw [LegV_eq]
    unfold LegC
    simp [results, Tryz.f55, go_sem, y0, y1, y2, y3, y4, y5, y6, y7, y8, y9]
  have z6 : decide ((6 : Int) ≤ (d.nH : Int)) = false := decide_eq_false (by omega)
  have k6 : ¬ (6 : Int) ≤ (d.nH : Int) := by omega
  go_big_wp2_with fail
  by_cases l1 : 1 ≤ t ∧ t ≤ 99
  rotate_left
  · have hcan : Hid (¬ CanPut d t c s share) := fun h => l1 h.2.2.1.1
    refine (inQ2 t 1 99 false (in_no l1) _).mono ?_
    rintro e w' ⟨rfl, rfl⟩
    clear l1
    go_upto_region 3 with fail
    go_big_wp2_with (first
      | (refine wpList_store_row rfl 25 _ _ rfl (w.heap.size + 1 + 1) (LegC d p) rfl rfl 25 #[.string ⟨#[]⟩, .string ⟨#[]⟩, .string ⟨#[]⟩, .int .i64 0, .int .i64 0, .int .i64 0, .slice none 0 0, .slice none 0 0, .slice none 0 0, .slice none 0 0] R1.out legSize rfl (leg_one1 d p) ?_)
      | fail)
    have hfin : LegBox (w'.setRow (w.heap.size + 1 + 1) (LegC d p)) (w.heap.size + 1 + 1) d p := setRow_heap w' (w.heap.size + 1 + 1) _ _ _ _ R1.out
    have gr := grown_setRow w' (w.heap.size + 1 + 1) (LegC d p)
    have hb2 := Lib.hid (D1.out.grown gr D1.out.size (fun q e => by cases e; omega))
    clear b0 b1 b2 b3 b4 b5 b6 b7 b8 b9 u0 u1 u2
    generalize w'.setRow (w.heap.size + 1 + 1) (LegC d p) = W9 at *
    have y0 := hfin.c0
    have y1 := hfin.c1
    have y2 := hfin.c2
    have y3 := hfin.c3
    have y4 := hfin.c4
    have y5 := hfin.c5
    have y6 := hfin.c6
    have y7 := hfin.c7
    have y8 := hfin.c8
    have y9 := hfin.c9
    clear hfin gr
    refine bodyPost_ret (v := .tuple #[LegV d p, .bool false]) ?_ rfl ⟨⟨d, p, false, rfl, ⟨fun h => absurd HK.out h, fun _ => ⟨⟨fun h => (by cases h), fun h => absurd h hcan.out⟩, fun h => (by cases h), fun _ => rfl⟩⟩, hcH, Moved.same _ _ _, fun h => (by cases h), Hin.out.kept hb2.out⟩, hb2.out⟩
    rw [LegV_eq]
    unfold LegC
    simp [results, Tryz.f55, go_sem, y0, y1, y2, y3, y4, y5, y6, y7, y8, y9]
  have L1 := Lib.hid l1
  refine (inQ2 t 1 99 true (in_yes l1) _).mono ?_
  rintro e w' ⟨rfl, rfl⟩
  clear l1
  go_big_wp2_with fail
  by_cases l2 : 0 ≤ c ∧ c ≤ 2
  rotate_left
  · have hcan : Hid (¬ CanPut d t c s share) := fun h => l2 h.2.2.1.2.1
    refine (inQ2 c 0 2 false (in_no l2) _).mono ?_
    rintro e w' ⟨rfl, rfl⟩
    clear l2
    go_upto_region 3 with fail
    go_big_wp2_with (first
      | (refine wpList_store_row rfl 25 _ _ rfl (w.heap.size + 1 + 1) (LegC d p) rfl rfl 25 #[.string ⟨#[]⟩, .string ⟨#[]⟩, .string ⟨#[]⟩, .int .i64 0, .int .i64 0, .int .i64 0, .slice none 0 0, .slice none 0 0, .slice none 0 0, .slice none 0 0] R1.out legSize rfl (leg_one1 d p) ?_)
      | fail)
    have hfin : LegBox (w'.setRow (w.heap.size + 1 + 1) (LegC d p)) (w.heap.size + 1 + 1) d p := setRow_heap w' (w.heap.size + 1 + 1) _ _ _ _ R1.out
    have gr := grown_setRow w' (w.heap.size + 1 + 1) (LegC d p)
    have hb2 := Lib.hid (D1.out.grown gr D1.out.size (fun q e => by cases e; omega))
    clear b0 b1 b2 b3 b4 b5 b6 b7 b8 b9 u0 u1 u2
    generalize w'.setRow (w.heap.size + 1 + 1) (LegC d p) = W9 at *
    have y0 := hfin.c0
    have y1 := hfin.c1
    have y2 := hfin.c2
    have y3 := hfin.c3
    have y4 := hfin.c4
    have y5 := hfin.c5
    have y6 := hfin.c6
    have y7 := hfin.c7
    have y8 := hfin.c8
    have y9 := hfin.c9
    clear hfin gr
    refine bodyPost_ret (v := .tuple #[LegV d p, .bool false]) ?_ rfl ⟨⟨d, p, false, rfl, ⟨fun h => absurd HK.out h, fun _ => ⟨⟨fun h => (by cases h), fun h => absurd h hcan.out⟩, fun h => (by cases h), fun _ => rfl⟩⟩, hcH, Moved.same _ _ _, fun h => (by cases h), Hin.out.kept hb2.out⟩, hb2.out⟩
    rw [LegV_eq]
    unfold LegC
    simp [results, Tryz.f55, go_sem, y0, y1, y2, y3, y4, y5, y6, y7, y8, y9]
  have L2 := Lib.hid l2
  refine (inQ2 c 0 2 true (in_yes l2) _).mono ?_
  rintro e w' ⟨rfl, rfl⟩
  clear l2
  by_cases l3 : s = 0
  · have hcan : Hid (¬ CanPut d t c s share) := fun h => h.2.2.1.2.2.2 l3
    have z3 : (s == 0) = true := by simpa using l3
    have z3' : decide (s = 0) = true := decide_eq_true l3
    clear l3
    go_upto_region 3 with fail
    go_big_wp2_with (first
      | (refine wpList_store_row rfl 25 _ _ rfl (w.heap.size + 1 + 1) (LegC d p) rfl rfl 25 #[.string ⟨#[]⟩, .string ⟨#[]⟩, .string ⟨#[]⟩, .int .i64 0, .int .i64 0, .int .i64 0, .slice none 0 0, .slice none 0 0, .slice none 0 0, .slice none 0 0] R1.out legSize rfl (leg_one1 d p) ?_)
      | fail)
    have hfin : LegBox (w'.setRow (w.heap.size + 1 + 1) (LegC d p)) (w.heap.size + 1 + 1) d p := setRow_heap w' (w.heap.size + 1 + 1) _ _ _ _ R1.out
    have gr := grown_setRow w' (w.heap.size + 1 + 1) (LegC d p)
    have hb2 := Lib.hid (D1.out.grown gr D1.out.size (fun q e => by cases e; omega))
    clear b0 b1 b2 b3 b4 b5 b6 b7 b8 b9 u0 u1 u2
    generalize w'.setRow (w.heap.size + 1 + 1) (LegC d p) = W9 at *
    have y0 := hfin.c0
    have y1 := hfin.c1
    have y2 := hfin.c2
    have y3 := hfin.c3
    have y4 := hfin.c4
    have y5 := hfin.c5
    have y6 := hfin.c6
    have y7 := hfin.c7
    have y8 := hfin.c8
    have y9 := hfin.c9
    clear hfin gr
    refine bodyPost_ret (v := .tuple #[LegV d p, .bool false]) ?_ rfl ⟨⟨d, p, false, rfl, ⟨fun h => absurd HK.out h, fun _ => ⟨⟨fun h => (by cases h), fun h => absurd h hcan.out⟩, fun h => (by cases h), fun _ => rfl⟩⟩, hcH, Moved.same _ _ _, fun h => (by cases h), Hin.out.kept hb2.out⟩, hb2.out⟩
    rw [LegV_eq]
    unfold LegC
    simp [results, Tryz.f55, go_sem, y0, y1, y2, y3, y4, y5, y6, y7, y8, y9]
  have z3 : (s == 0) = false := by simpa using l3
  have z3' : decide (s = 0) = false := decide_eq_false l3
  have wcap : IntKind.i64.wrap (-d.cap) = -d.cap := IntWalk.i64_in _ (by omega)
  go_big_wp2_with fail
  by_cases l4 : -d.cap ≤ s ∧ s ≤ d.cap
  rotate_left
  · have hcan : Hid (¬ CanPut d t c s share) := fun h => l4 h.2.2.1.2.2.1
    refine (inQ2 s (-d.cap) d.cap false (in_no l4) _).mono ?_
    rintro e w' ⟨rfl, rfl⟩
    clear l4 l3
    go_upto_region 3 with fail
    go_big_wp2_with (first
      | (refine wpList_store_row rfl 25 _ _ rfl (w.heap.size + 1 + 1) (LegC d p) rfl rfl 25 #[.string ⟨#[]⟩, .string ⟨#[]⟩, .string ⟨#[]⟩, .int .i64 0, .int .i64 0, .int .i64 0, .slice none 0 0, .slice none 0 0, .slice none 0 0, .slice none 0 0] R1.out legSize rfl (leg_one1 d p) ?_)
      | fail)
    have hfin : LegBox (w'.setRow (w.heap.size + 1 + 1) (LegC d p)) (w.heap.size + 1 + 1) d p := setRow_heap w' (w.heap.size + 1 + 1) _ _ _ _ R1.out
    have gr := grown_setRow w' (w.heap.size + 1 + 1) (LegC d p)
    have hb2 := Lib.hid (D1.out.grown gr D1.out.size (fun q e => by cases e; omega))
    clear b0 b1 b2 b3 b4 b5 b6 b7 b8 b9 u0 u1 u2
    generalize w'.setRow (w.heap.size + 1 + 1) (LegC d p) = W9 at *
    have y0 := hfin.c0
    have y1 := hfin.c1
    have y2 := hfin.c2
    have y3 := hfin.c3
    have y4 := hfin.c4
    have y5 := hfin.c5
    have y6 := hfin.c6
    have y7 := hfin.c7
    have y8 := hfin.c8
    have y9 := hfin.c9
    clear hfin gr
    refine bodyPost_ret (v := .tuple #[LegV d p, .bool false]) ?_ rfl ⟨⟨d, p, false, rfl, ⟨fun h => absurd HK.out h, fun _ => ⟨⟨fun h => (by cases h), fun h => absurd h hcan.out⟩, fun h => (by cases h), fun _ => rfl⟩⟩, hcH, Moved.same _ _ _, fun h => (by cases h), Hin.out.kept hb2.out⟩, hb2.out⟩
    rw [LegV_eq]
    unfold LegC
    simp [results, Tryz.f55, go_sem, y0, y1, y2, y3, y4, y5, y6, y7, y8, y9]
  have H1 : Hid (Hold1 t c s d.cap) := ⟨L1.out, L2.out, l4, l3⟩
  refine (inQ2 s (-d.cap) d.cap true (in_yes l4) _).mono ?_
  rintro e w' ⟨rfl, rfl⟩
  have l2 := L2.out
  have hH1 := H1.out
  generalize w' = wA at *
  have hCn : ∃ C : Nat, c = (C : Int) ∧ C < 3 := ⟨c.toNat, by omega, by omega⟩
  obtain ⟨C, hC, hC3⟩ := hCn
  have hCt : c.toNat = C := by omega
  have hsz : Sized d := ⟨HK.out.2.1.lim, HK.out.2.1.sold, ⟨hn6, fun i hi => by have h1 := (HK.out.2.2.1.2 i hi).1.2.2.1; omega⟩, hcap⟩
  obtain ⟨bS, oS, eS, hbS, hcS⟩ := (Hin.out.kept D1.out).2.1.cells (by have := hsz.2.1.1; omega)
  have hV : LegV d p = .agg #[.string d.name, .string d.fr, .string d.to, .int .i64 d.dep, .int .i64 d.arr, .int .i64 d.cap, .slice p.aL d.nL p.cL, .slice (some ⟨bS, oS, none⟩) d.nS p.cS, .slice p.aB d.nB p.cB, .slice p.aH d.nH p.cH] := by unfold LegV; rw [eS]
  have hcell : wA.cell? ⟨bS, oS + c.toNat, none⟩ = some (.int .i64 (d.S C)) := by rw [hCt]; exact hcS C (by have := hsz.2.1.1; omega)
  have hnS : c < (d.nS : Int) := by have := hsz.2.1.1; omega
  have hc0 : 0 ≤ c := by omega
  have bx1 := hsz.2.1.2 C hC3
  have bx2 := backB_box hsz.2.2.1 C
  have bx3 := roomN_box hsz.1 hsz.2.1 hsz.2.2.1 hsz.2.2.2 (C + 1) (by omega)
  have HI1 := Lib.hid (Hin.out.kept D1.out)
  rw [eS] at b7
  have r0 := cell_regrown b0
  have r1 := cell_regrown b1
  have r2 := cell_regrown b2
  have r3 := cell_regrown b3
  have r4 := cell_regrown b4
  have r5 := cell_regrown b5
  have r6 := cell_regrown b6
  have r7 := cell_regrown b7
  have r8 := cell_regrown b8
  have r9 := cell_regrown b9
  have ru0 := cell_regrown u0
  have ru1 := cell_regrown u1
  have ru2 := cell_regrown u2
  have rS := cell_regrown hcell
  have hCan : Hid (CanPut d t c s share ↔ ((s < 0 → -s ≤ d.S C - backB d C) ∧ (0 ≤ s → s ≤ roomN d (C + 1) ∧ bidB d ≤ share))) := by
    show _ ↔ _
    unfold CanPut CanH
    rw [hCt]
    exact ⟨fun h => h.2.2.2, fun h => ⟨h6, hall.out, H1.out, h⟩⟩
  have cR : ∀ dd os, Calls Tryz.prog 77 #[.agg #[.string d.name, .string d.fr, .string d.to, .int .i64 d.dep, .int .i64 d.arr, .int .i64 d.cap, .slice p.aL d.nL p.cL, .slice (some ⟨bS, oS, none⟩) d.nS p.cS, .slice p.aB d.nB p.cB, .slice p.aH d.nH p.cH], .int .i64 c] (Go.Sort.grow (redrawn wA dd) os) fun e w'' => e = .returned (.int .i64 (roomN d (C + 1))) ∧ ∃ p : Regrown, w'' = Go.Sort.grow (redrawn wA p.d) p.os := fun dd os => by
    have hh := roomM d p C hC3 (Go.Sort.grow (redrawn wA dd) os) (HI1.out.kept (below_regrown wA dd os)) hsz
    rw [hV, ← hC] at hh
    exact Calls.regrown_of hh
  have cB : ∀ dd os, Calls Tryz.prog 78 #[.agg #[.string d.name, .string d.fr, .string d.to, .int .i64 d.dep, .int .i64 d.arr, .int .i64 d.cap, .slice p.aL d.nL p.cL, .slice (some ⟨bS, oS, none⟩) d.nS p.cS, .slice p.aB d.nB p.cB, .slice p.aH d.nH p.cH]] (Go.Sort.grow (redrawn wA dd) os) fun e w'' => e = .returned (.int .i64 (bidB d)) ∧ ∃ p : Regrown, w'' = Go.Sort.grow (redrawn wA p.d) p.os := fun dd os => by
    have hh := bidM d p (Go.Sort.grow (redrawn wA dd) os) (HI1.out.kept (below_regrown wA dd os)) HK.out
    rw [hV] at hh
    exact Calls.regrown_of hh
  have cK : ∀ dd os, Calls Tryz.prog 45 #[.agg #[.string d.name, .string d.fr, .string d.to, .int .i64 d.dep, .int .i64 d.arr, .int .i64 d.cap, .slice p.aL d.nL p.cL, .slice (some ⟨bS, oS, none⟩) d.nS p.cS, .slice p.aB d.nB p.cB, .slice p.aH d.nH p.cH], .int .i64 c] (Go.Sort.grow (redrawn wA dd) os) fun e w'' => e = .returned (.int .i64 (backB d C)) ∧ ∃ p : Regrown, w'' = Go.Sort.grow (redrawn wA p.d) p.os := fun dd os => by
    have hh := backM d p C (Go.Sort.grow (redrawn wA dd) os) (HI1.out.kept (below_regrown wA dd os)) hsz.2.2.1
    rw [hV, ← hC] at hh
    exact Calls.regrown_of hh
  have HV := Lib.hid hV
  have HES := Lib.hid eS
  have HC := Lib.hid (And.intro hC (And.intro hC3 hCt))
  have HSZ := Lib.hid hsz
  have bs := H1.out.2.2.1
  clear l2 hH1 hC hC3 hCt hsz hV eS hcS hcell l3 l4 z3 z3' wcap b0 b1 b2 b3 b4 b5 b6 b7 b8 b9 u0 u1 u2 h6
  generalize hxr : roomN d (C + 1) = xr at *
  generalize hxb : bidB d = xb at *
  generalize hxk : backB d C = xk at *
  generalize hxs : d.S C = xs at *
  have HX := Lib.hid (And.intro hxr (And.intro hxb (And.intro hxk hxs)))
  clear hxr hxb hxk hxs
  go_upto_region 4 with fail
  rcases Int.lt_or_le s 0 with hneg | hpos
  · have z55 : decide (0 < s) = false := decide_eq_false (by omega)
    have z74 : decide (s < 0) = true := decide_eq_true hneg
    have zng : IntKind.i64.wrap (-s) = -s := IntWalk.i64_in _ (by omega)
    have zsb : IntKind.i64.wrap (xs - xk) = xs - xk := IntWalk.i64_in _ (by omega)
    rcases Int.lt_or_le (xs - xk) (-s) with m | m
    · have hcan : Hid (¬ CanPut d t c s share) := fun h => by have := (hCan.out.1 h).1 hneg; omega
      have z90 : decide (xs - xk < -s) = true := decide_eq_true m
      refine wp_region_quiet_below (by kernel_rfl) (by kernel_rfl) ?_
      repeat (go_big_quiet_step (first | (go_at_call 45; exact cK _ _)))
      refine wpQuiet_nil ?_
      intro _ hw'
      obtain ⟨⟨dq, osq⟩, hw''⟩ := hw'
      subst hw''
      have DQ := Lib.hid (bt D1.out (below_regrown _ dq osq))
      have RQ := Lib.hid (((below_regrown wA dq osq).block _ (lt_heap R1.out)).trans R1.out)
      have QQ := Lib.hid (((below_regrown wA dq osq).block _ (lt_heap Q1.out)).trans Q1.out)
      have XQ := Lib.hid (X1.out.kept (below_regrown wA dq osq))
      clear r0 r1 r2 r3 r4 r5 r6 r7 r8 r9 ru0 ru1 ru2 rS
      generalize Go.Sort.grow (redrawn wA dq) osq = WQ at *
      have XQ' := XQ.out
      obtain ⟨u0, u1, u2⟩ := row3 QQ.out
      have b0 := XQ'.c0
      have b1 := XQ'.c1
      have b2 := XQ'.c2
      have b3 := XQ'.c3
      have b4 := XQ'.c4
      have b5 := XQ'.c5
      have b6 := XQ'.c6
      have b7 := XQ'.c7
      have b8 := XQ'.c8
      have b9 := XQ'.c9
      clear XQ'
      go_upto_region 5 with fail
      go_big_wp2_with (first
        | (refine wpList_store_row rfl 25 _ _ rfl (w.heap.size + 1 + 1) (LegC d p) rfl rfl 25 #[.string ⟨#[]⟩, .string ⟨#[]⟩, .string ⟨#[]⟩, .int .i64 0, .int .i64 0, .int .i64 0, .slice none 0 0, .slice none 0 0, .slice none 0 0, .slice none 0 0] RQ.out legSize rfl (leg_one1 d p) ?_)
        | fail)
      have hfin : LegBox (WQ.setRow (w.heap.size + 1 + 1) (LegC d p)) (w.heap.size + 1 + 1) d p := setRow_heap WQ (w.heap.size + 1 + 1) _ _ _ _ RQ.out
      have gr := grown_setRow WQ (w.heap.size + 1 + 1) (LegC d p)
      have hb2 := Lib.hid (DQ.out.grown gr DQ.out.size (fun q e => by cases e; omega))
      clear b0 b1 b2 b3 b4 b5 b6 b7 b8 b9 u0 u1 u2
      generalize WQ.setRow (w.heap.size + 1 + 1) (LegC d p) = W9 at *
      have y0 := hfin.c0
      have y1 := hfin.c1
      have y2 := hfin.c2
      have y3 := hfin.c3
      have y4 := hfin.c4
      have y5 := hfin.c5
      have y6 := hfin.c6
      have y7 := hfin.c7
      have y8 := hfin.c8
      have y9 := hfin.c9
      clear hfin gr
      refine bodyPost_ret (v := .tuple #[LegV d p, .bool false]) ?_ rfl ⟨⟨d, p, false, rfl, ⟨fun h => absurd HK.out h, fun _ => ⟨⟨fun h => (by cases h), fun h => absurd h hcan.out⟩, fun h => (by cases h), fun _ => rfl⟩⟩, hcH, Moved.same _ _ _, fun h => (by cases h), Hin.out.kept hb2.out⟩, hb2.out⟩
      rw [LegV_eq]
      unfold LegC
      simp [results, Tryz.f55, go_sem, y0, y1, y2, y3, y4, y5, y6, y7, y8, y9]
    have hcan : Hid (CanPut d t c s share) := hCan.out.2 ⟨fun _ => m, fun h => by omega⟩
    have z90 : decide (xs - xk < -s) = false := decide_eq_false (by omega)
    refine wp_region_quiet_below (by kernel_rfl) (by kernel_rfl) ?_
    repeat (go_big_quiet_step (first | (go_at_call 45; exact cK _ _)))
    refine wpQuiet_nil ?_
    intro _ hw'
    obtain ⟨⟨dq, osq⟩, hw''⟩ := hw'
    subst hw''
    have DQ := Lib.hid (bt D1.out (below_regrown _ dq osq))
    have RQ := Lib.hid (((below_regrown wA dq osq).block _ (lt_heap R1.out)).trans R1.out)
    have QQ := Lib.hid (((below_regrown wA dq osq).block _ (lt_heap Q1.out)).trans Q1.out)
    have XQ := Lib.hid (X1.out.kept (below_regrown wA dq osq))
    clear r0 r1 r2 r3 r4 r5 r6 r7 r8 r9 ru0 ru1 ru2 rS
    generalize Go.Sort.grow (redrawn wA dq) osq = WQ at *
    have XQ' := XQ.out
    obtain ⟨u0, u1, u2⟩ := row3 QQ.out
    have b0 := XQ'.c0
    have b1 := XQ'.c1
    have b2 := XQ'.c2
    have b3 := XQ'.c3
    have b4 := XQ'.c4
    have b5 := XQ'.c5
    have b6 := XQ'.c6
    have b7 := XQ'.c7
    have b8 := XQ'.c8
    have b9 := XQ'.c9
    clear XQ'
    go_upto_region 6 with fail
    clear b0 b1 b2 b3 b4 b5 b6 b7 b8 b9 u0 u1 u2
    have kk0 : (0 : Int) ≤ k := by omega
    have kk1 : (k : Int) ≤ d.nH := by have := HAT.out.1; omega
    have kk2 : (k : Int) ≤ p.cH := by omega
    have SZ : ∀ {W : World}, (sizeOf (Tryz.prog.elem 23)).run Tryz.prog W = .ok 3 W := fun {W} => by
      have : Tryz.prog.elem 23 = 58 := by kernel_rfl
      rw [this]; exact Tryz.sizeOf58 W
    obtain ⟨j0, ji, jz0, jz1, jz2⟩ := info_parts infoHold
    have SR1 : Hid (∀ W, Below w.heap.size w W → Src W (if p.cH = 0 then p.aH else p.aH.map (·.add (0 * 3))) k 3 (flatN (ndsOf d.t d.c d.s k))) := fun W hW => src_head (Hin.out.kept hW).2.2.2 HAT.out.1
    have SR2 : Hid (∀ W, Below w.heap.size w W → Src W (if p.cH = k then p.aH else p.aH.map (·.add (k * 3))) (d.nH - k) 3 (flatN (ndsOf (fun i => d.t (k + i)) (fun i => d.c (k + i)) (fun i => d.s (k + i)) (d.nH - k)))) := fun W hW => src_tail (Hin.out.kept hW).2.2.2 HAT.out.1 hcH
    refine wp_region_inv' (by kernel_rfl) (fun kk L f ww => H6 WQ w.heap.size (flatN (ndsOf d.t d.c d.s k)) (flatN (ndsOf d.t d.c d.s k) ++ [.int .i64 t, .int .i64 c, .int .i64 s]) (flatN (ndsOf d.t d.c d.s k) ++ [.int .i64 t, .int .i64 c, .int .i64 s] ++ flatN (ndsOf (fun i => d.t (k + i)) (fun i => d.c (k + i)) (fun i => d.s (k + i)) (d.nH - k))) k (k + 1) (k + 1 + (d.nH - k)) #[.int .i64 t, .int .i64 c, .int .i64 s] (cst6 w.heap.size p d k t c s) L f ww) (by kernel_rfl) ⟨fun _ => (Below.refl _ _).drew, fun _ _ _ _ _ _ _ h => (by cases h), fun h => (by cases h), fun h => (by cases h), fun h => (by cases h), fun h => (by cases h), fun h => (by cases h), fun h => (by cases h)⟩ ?_
    apply Exists.intro
    apply And.intro
    · intro f
      simp only [over, List.set]
      exact rfl
    refine ⟨?hops, ?hend⟩
    case hops =>
      refine EachOp.cons ?_ (EachOp.cons ?_ (EachOp.cons ?_ (EachOp.cons ?_ (EachOp.cons ?_ (EachOp.cons ?_ (EachOp.cons ?_ (EachOp.cons ?_ (EachOp.cons ?_ (EachOp.cons ?_ (EachOp.cons ?_ (EachOp.cons ?_ (EachOp.cons ?_ (EachOp.cons ?_ (EachOp.cons ?_ (EachOp.cons ?_ EachOp.nil)))))))))))))))
      · intro L f kk ww hkk hJ hcl hLi hwt QQ' hQ
        dsimp only
        have h15 : L 15 = false := by
          cases hx : L 15 with
          | false => rfl
          | true => have h1 : L 0 = true := hcl 15 _ rfl hx 0 (by decide); have h2 : L 0 = false := hLi; rw [h1] at h2; cases h2
        go_big_wp2_with fail
        exact hQ _ _ _ rfl (hJ.op0 hLi h15 (fun h => hcl 5 _ rfl h 0 (by decide)))
      · intro L f kk ww hkk hJ hcl hLi hwt QQ' hQ
        dsimp only
        have h15 : L 15 = false := by
          cases hx : L 15 with
          | false => rfl
          | true => have h1 : L 1 = true := hcl 15 _ rfl hx 1 (by decide); have h2 : L 1 = false := hLi; rw [h1] at h2; cases h2
        go_big_wp2_with fail
        refine hQ _ _ _ ?_ (hJ.const (v := cst6 w.heap.size p d k t c s 1) (by decide) (by decide) (by decide) (by decide) (by decide) (by decide) rfl)
        first | rfl | (simp [upd, cst6, sliced]; done)
      · intro L f kk ww hkk hJ hcl hLi hwt QQ' hQ
        dsimp only
        have h15 : L 15 = false := by
          cases hx : L 15 with
          | false => rfl
          | true => have h1 : L 2 = true := hcl 15 _ rfl hx 2 (by decide); have h2 : L 2 = false := hLi; rw [h1] at h2; cases h2
        have c1 : f 1 = _ := hJ.cst 1 (by decide) (by decide) (by decide) (by decide) (by decide) (by decide) (hwt 1 (by decide))
        simp only [cst6] at c1
        have hB := hJ.below h15
        have x9 := (XQ.out.kept hB).c9
        clear hB
        go_big_wp2_with fail
        refine hQ _ _ _ ?_ (hJ.const (v := cst6 w.heap.size p d k t c s 2) (by decide) (by decide) (by decide) (by decide) (by decide) (by decide) rfl)
        first | rfl | (simp [upd, cst6, sliced, c1]; done)
      · intro L f kk ww hkk hJ hcl hLi hwt QQ' hQ
        dsimp only
        have h15 : L 15 = false := by
          cases hx : L 15 with
          | false => rfl
          | true => have h1 : L 3 = true := hcl 15 _ rfl hx 3 (by decide); have h2 : L 3 = false := hLi; rw [h1] at h2; cases h2
        go_big_wp2_with fail
        refine hQ _ _ _ ?_ (hJ.const (v := cst6 w.heap.size p d k t c s 3) (by decide) (by decide) (by decide) (by decide) (by decide) (by decide) rfl)
        first | rfl | (simp [upd, cst6, sliced]; done)
      · intro L f kk ww hkk hJ hcl hLi hwt QQ' hQ
        dsimp only
        have h15 : L 15 = false := by
          cases hx : L 15 with
          | false => rfl
          | true => have h1 : L 4 = true := hcl 15 _ rfl hx 4 (by decide); have h2 : L 4 = false := hLi; rw [h1] at h2; cases h2
        have c2 : f 2 = _ := hJ.cst 2 (by decide) (by decide) (by decide) (by decide) (by decide) (by decide) (hwt 2 (by decide))
        simp only [cst6] at c2
        have c3 : f 3 = _ := hJ.cst 3 (by decide) (by decide) (by decide) (by decide) (by decide) (by decide) (hwt 3 (by decide))
        simp only [cst6] at c3
        refine wpList_slice_h rfl 23 _ _ rfl (by kernel_rfl) _ _ _ k 3 c2 c3 (by omega) SZ _ rfl ?_
        have hN := hJ.const (i := 4) (v := cst6 w.heap.size p d k t c s 4) (by decide) (by decide) (by decide) (by decide) (by decide) (by decide) rfl
        simp only [Act.put, List.setIfInBounds_toArray, List.set_cons_succ, List.set_cons_zero]
        exact hQ _ _ _ rfl hN
      · intro L f kk ww hkk hJ hcl hLi hwt QQ' hQ
        dsimp only
        have h15 : L 15 = false := by
          cases hx : L 15 with
          | false => rfl
          | true => have h1 : L 5 = true := hcl 15 _ rfl hx 5 (by decide); have h2 : L 5 = false := hLi; rw [h1] at h2; cases h2
        have h0 := hwt 0 (by decide)
        have c4 : f 4 = _ := hJ.cst 4 (by decide) (by decide) (by decide) (by decide) (by decide) (by decide) (hwt 4 (by decide))
        simp only [cst6] at c4
        have hB := hJ.below h15
        refine wpList_append_src rfl _ _ 23 rfl WQ.heap.size 58 j0 (.agg #[.int .i64 0, .int .i64 0, .int .i64 0]) 3 24 Tryz.underlying23 ji jz0 jz1 jz2 rfl (by decide) (f 0) 0 [] rfl (hJ.e0 h0 hLi) _ k _ (flatN (ndsOf d.t d.c d.s k)) c4 (SR1.out _ (bt DQ.out hB)) (flatN_one _) (by unfold maxLen; omega) (by omega) hB.size ?_
        intro v' w' ho hg _
        simp only [Act.put, List.setIfInBounds_toArray, List.set_cons_succ, List.set_cons_zero]
        rw [Nat.zero_add] at ho
        exact hQ _ v' w' rfl (hJ.op5 h0 hLi h15 (fun h => hcl 8 _ rfl h 5 (by decide)) (fun h => hcl 13 _ rfl h 8 (by decide)) ho hg)
      · intro L f kk ww hkk hJ hcl hLi hwt QQ' hQ
        dsimp only
        have h15 : L 15 = false := by
          cases hx : L 15 with
          | false => rfl
          | true => have h1 : L 6 = true := hcl 15 _ rfl hx 6 (by decide); have h2 : L 6 = false := hLi; rw [h1] at h2; cases h2
        have hB := hJ.below h15
        have hq := (hB.block _ (lt_heap QQ.out)).trans QQ.out
        obtain ⟨v0, v1, v2⟩ := row3 hq
        clear hB hq
        go_big_wp2_with fail
        refine hQ _ _ _ ?_ (hJ.const (v := cst6 w.heap.size p d k t c s 6) (by decide) (by decide) (by decide) (by decide) (by decide) (by decide) rfl)
        first | rfl | (simp [upd, cst6, sliced]; done)
      · intro L f kk ww hkk hJ hcl hLi hwt QQ' hQ
        dsimp only
        have h15 : L 15 = false := by
          cases hx : L 15 with
          | false => rfl
          | true => have h1 : L 7 = true := hcl 15 _ rfl hx 7 (by decide); have h2 : L 7 = false := hLi; rw [h1] at h2; cases h2
        have c6 : f 6 = _ := hJ.cst 6 (by decide) (by decide) (by decide) (by decide) (by decide) (by decide) (hwt 6 (by decide))
        simp only [cst6] at c6
        go_big_wp2_with fail
        refine hQ _ _ _ ?_ (hJ.op7 hLi h15)
        first | rfl | (simp [upd, c6]; done)
      · intro L f kk ww hkk hJ hcl hLi hwt QQ' hQ
        dsimp only
        have h15 : L 15 = false := by
          cases hx : L 15 with
          | false => rfl
          | true => have h1 : L 8 = true := hcl 15 _ rfl hx 8 (by decide); have h2 : L 8 = false := hLi; rw [h1] at h2; cases h2
        have h5 := hwt 5 (by decide)
        obtain ⟨g, q1, q2, q3, q4⟩ := hJ.e7 (hwt 7 (by decide)) hLi
        have hB := hJ.below h15
        refine wpList_append_src rfl _ _ 23 rfl WQ.heap.size 58 j0 (.agg #[.int .i64 0, .int .i64 0, .int .i64 0]) 3 24 Tryz.underlying23 ji jz0 jz1 jz2 rfl (by decide) (f 5) k _ rfl (hJ.e5 h5 hLi) _ 1 _ [.int .i64 t, .int .i64 c, .int .i64 s] q1 (src_row q3) (by intro u hu; simp at hu; rcases hu with rfl | rfl | rfl <;> rfl) (by unfold maxLen; omega) (by omega) hB.size ?_
        intro v' w' ho hg _
        simp only [Act.put, List.setIfInBounds_toArray, List.set_cons_succ, List.set_cons_zero]
        exact hQ _ v' w' rfl (hJ.op8 h5 hLi h15 (fun h => hcl 13 _ rfl h 8 (by decide)) ho hg)
      · intro L f kk ww hkk hJ hcl hLi hwt QQ' hQ
        dsimp only
        have h15 : L 15 = false := by
          cases hx : L 15 with
          | false => rfl
          | true => have h1 : L 9 = true := hcl 15 _ rfl hx 9 (by decide); have h2 : L 9 = false := hLi; rw [h1] at h2; cases h2
        go_big_wp2_with fail
        refine hQ _ _ _ ?_ (hJ.const (v := cst6 w.heap.size p d k t c s 9) (by decide) (by decide) (by decide) (by decide) (by decide) (by decide) rfl)
        first | rfl | (simp [upd, cst6, sliced]; done)
      · intro L f kk ww hkk hJ hcl hLi hwt QQ' hQ
        dsimp only
        have h15 : L 15 = false := by
          cases hx : L 15 with
          | false => rfl
          | true => have h1 : L 10 = true := hcl 15 _ rfl hx 10 (by decide); have h2 : L 10 = false := hLi; rw [h1] at h2; cases h2
        have c9 : f 9 = _ := hJ.cst 9 (by decide) (by decide) (by decide) (by decide) (by decide) (by decide) (hwt 9 (by decide))
        simp only [cst6] at c9
        have hB := hJ.below h15
        have x9 := (XQ.out.kept hB).c9
        clear hB
        go_big_wp2_with fail
        refine hQ _ _ _ ?_ (hJ.const (v := cst6 w.heap.size p d k t c s 10) (by decide) (by decide) (by decide) (by decide) (by decide) (by decide) rfl)
        first | rfl | (simp [upd, cst6, sliced, c9]; done)
      · intro L f kk ww hkk hJ hcl hLi hwt QQ' hQ
        dsimp only
        have h15 : L 15 = false := by
          cases hx : L 15 with
          | false => rfl
          | true => have h1 : L 11 = true := hcl 15 _ rfl hx 11 (by decide); have h2 : L 11 = false := hLi; rw [h1] at h2; cases h2
        go_big_wp2_with fail
        refine hQ _ _ _ ?_ (hJ.const (v := cst6 w.heap.size p d k t c s 11) (by decide) (by decide) (by decide) (by decide) (by decide) (by decide) rfl)
        first | rfl | (simp [upd, cst6, sliced]; done)
      · intro L f kk ww hkk hJ hcl hLi hwt QQ' hQ
        dsimp only
        have h15 : L 15 = false := by
          cases hx : L 15 with
          | false => rfl
          | true => have h1 : L 12 = true := hcl 15 _ rfl hx 12 (by decide); have h2 : L 12 = false := hLi; rw [h1] at h2; cases h2
        have c10 : f 10 = _ := hJ.cst 10 (by decide) (by decide) (by decide) (by decide) (by decide) (by decide) (hwt 10 (by decide))
        simp only [cst6] at c10
        have c11 : f 11 = _ := hJ.cst 11 (by decide) (by decide) (by decide) (by decide) (by decide) (by decide) (hwt 11 (by decide))
        simp only [cst6] at c11
        refine wpList_slice_l rfl 23 _ _ rfl (by kernel_rfl) _ _ _ k 3 c10 c11 HAT.out.1 SZ _ rfl ?_
        have hN := hJ.const (i := 12) (v := cst6 w.heap.size p d k t c s 12) (by decide) (by decide) (by decide) (by decide) (by decide) (by decide) rfl
        simp only [Act.put, List.setIfInBounds_toArray, List.set_cons_succ, List.set_cons_zero]
        exact hQ _ _ _ rfl hN
      · intro L f kk ww hkk hJ hcl hLi hwt QQ' hQ
        dsimp only
        have h15 : L 15 = false := by
          cases hx : L 15 with
          | false => rfl
          | true => have h1 : L 13 = true := hcl 15 _ rfl hx 13 (by decide); have h2 : L 13 = false := hLi; rw [h1] at h2; cases h2
        have h8 := hwt 8 (by decide)
        have h5 : L 5 = true := hcl 8 _ rfl h8 5 (by decide)
        have c12 : f 12 = _ := hJ.cst 12 (by decide) (by decide) (by decide) (by decide) (by decide) (by decide) (hwt 12 (by decide))
        simp only [cst6] at c12
        have hB := hJ.below h15
        refine wpList_append_src rfl _ _ 23 rfl WQ.heap.size 58 j0 (.agg #[.int .i64 0, .int .i64 0, .int .i64 0]) 3 24 Tryz.underlying23 ji jz0 jz1 jz2 rfl (by decide) (f 8) (k + 1) _ rfl (hJ.e8 h8 hLi) _ (d.nH - k) _ (flatN (ndsOf (fun i => d.t (k + i)) (fun i => d.c (k + i)) (fun i => d.s (k + i)) (d.nH - k))) c12 (SR2.out _ (bt DQ.out hB)) (flatN_one _) (by unfold maxLen; omega) (by omega) hB.size ?_
        intro v' w' ho hg _
        simp only [Act.put, List.setIfInBounds_toArray, List.set_cons_succ, List.set_cons_zero]
        exact hQ _ v' w' rfl (hJ.op13 h8 hLi h15 h5 ho hg)
      · intro L f kk ww hkk hJ hcl hLi hwt QQ' hQ
        dsimp only
        have h15 : L 15 = false := by
          cases hx : L 15 with
          | false => rfl
          | true => have h1 : L 14 = true := hcl 15 _ rfl hx 14 (by decide); have h2 : L 14 = false := hLi; rw [h1] at h2; cases h2
        go_big_wp2_with fail
        refine hQ _ _ _ ?_ (hJ.const (v := cst6 w.heap.size p d k t c s 14) (by decide) (by decide) (by decide) (by decide) (by decide) (by decide) rfl)
        first | rfl | (simp [upd, cst6, sliced]; done)
      · intro L f kk ww hkk hJ hcl hLi hwt QQ' hQ
        dsimp only
        have h13 := hwt 13 (by decide)
        have hB := hJ.below hLi
        have x9 := (XQ.out.kept hB).c9
        have x9f := (XQ.out.kept hB).fr 9
        obtain ⟨g13, cap13, e13, -, -⟩ := (hJ.e13 h13 hLi).form (by omega)
        have hN := hJ.op15 (v := undef) (hwt 0 (by decide)) (hwt 5 (by decide)) (hwt 7 (by decide)) (hwt 8 (by decide)) h13 hLi
        rw [e13] at hN
        have c14 : f 14 = _ := hJ.cst 14 (by decide) (by decide) (by decide) (by decide) (by decide) (by decide) (hwt 14 (by decide))
        simp only [cst6] at c14
        clear hB
        go_big_wp2_with fail
        refine hQ _ undef _ ?_ hN
        first | rfl | (simp [upd, c14, e13]; done)
    case hend =>
      intro L f kk ww hL hJ
      obtain ⟨w3, D3, ho3, rfl⟩ := hJ.e15 (hL 15 (by decide))
      clear hJ
      obtain ⟨a3, c3, e13, hc3, n3⟩ := own_holdsR (putN_own HAT.out.1 ho3)
      have X3 := XQ.out.kept D3
      rw [e13]
      have X4 : LegBox (w3.setCell ⟨w.heap.size, 9, none⟩ (.slice a3 (putN d k t c s).length c3)) w.heap.size (withH d (putN d k t c s)) { p with aH := a3, cH := c3 } := X3.set9 (putN d k t c s) a3 c3
      have R4 : (w3.setCell ⟨w.heap.size, 9, none⟩ (.slice a3 (putN d k t c s).length c3)).heap[w.heap.size + 1 + 1]? = some (.cells #[.string ⟨#[]⟩, .string ⟨#[]⟩, .string ⟨#[]⟩, .int .i64 0, .int .i64 0, .int .i64 0, .slice none 0 0, .slice none 0 0, .slice none 0 0, .slice none 0 0] 25 (0, 0)) := (set_other _ (by omega)).trans ((D3.block _ (lt_heap RQ.out)).trans RQ.out)
      have gs4 := grown_set w3 ⟨w.heap.size, 9, none⟩ (.slice a3 (putN d k t c s).length c3)
      have hlq := lt_heap XQ.out
      have hlr := lt_heap RQ.out
      have hD3 := D3.size
      have n4 := n3.far gs4 (fun q e => by cases e; left; show w.heap.size < _; omega)
      have D4 := (bt DQ.out D3).setCell (p := ⟨w.heap.size, 9, none⟩) (Nat.le_refl _) (.slice a3 (putN d k t c s).length c3)
      have N4h := Lib.hid n4
      have D4h := Lib.hid D4
      have R4h := Lib.hid R4
      have HC3 := Lib.hid hc3
      have HNA := Lib.hid (n3.newAt (w := w) DQ.out.size)
      rw [putN_len HAT.out.1] at HNA
      clear n3 n4 D4 R4 gs4 X3 D3 ho3 e13 hc3 hL
      generalize w3.setCell ⟨w.heap.size, 9, none⟩ (.slice a3 (putN d k t c s).length c3) = W4 at *
      have g0 := X4.c0
      have g1 := X4.c1
      have g2 := X4.c2
      have g3 := X4.c3
      have g4 := X4.c4
      have g5 := X4.c5
      have g6 := X4.c6
      have g7 := X4.c7
      have g8 := X4.c8
      have g9 := X4.c9
      clear X4
      go_big_wp2_with (first
        | (refine wpList_store_row rfl 25 _ _ rfl (w.heap.size + 1 + 1) (LegC (withH d (putN d k t c s)) { p with aH := a3, cH := c3 }) rfl rfl 25 #[.string ⟨#[]⟩, .string ⟨#[]⟩, .string ⟨#[]⟩, .int .i64 0, .int .i64 0, .int .i64 0, .slice none 0 0, .slice none 0 0, .slice none 0 0, .slice none 0 0] R4h.out legSize rfl (leg_one1 _ _) ?_)
        | fail)
      clear g0 g1 g2 g3 g4 g5 g6 g7 g8 g9
      have hfin : LegBox (W4.setRow (w.heap.size + 1 + 1) (LegC (withH d (putN d k t c s)) { p with aH := a3, cH := c3 })) (w.heap.size + 1 + 1) (withH d (putN d k t c s)) { p with aH := a3, cH := c3 } := setRow_heap W4 (w.heap.size + 1 + 1) _ _ _ _ R4h.out
      have gr := grown_setRow W4 (w.heap.size + 1 + 1) (LegC (withH d (putN d k t c s)) { p with aH := a3, cH := c3 })
      have hb6 := D4h.out.grown gr D4h.out.size (fun q e => by cases e; omega)
      have n6 := N4h.out.far gr (fun q e => by cases e; left; omega)
      have HN6 := Lib.hid n6.holds
      generalize W4.setRow (w.heap.size + 1 + 1) (LegC (withH d (putN d k t c s)) { p with aH := a3, cH := c3 }) = W6 at *
      have y0 := hfin.c0
      have y1 := hfin.c1
      have y2 := hfin.c2
      have y3 := hfin.c3
      have y4 := hfin.c4
      have y5 := hfin.c5
      have y6 := hfin.c6
      have y7 := hfin.c7
      have y8 := hfin.c8
      have y9 := hfin.c9
      clear hfin gr n6
      have hs := putN_same (t := t) (c := c) (s := s) HAT.out.1
      have hV6 : LegV (withH d (putN d k t c s)) { p with aH := a3, cH := c3 } = LegV (putD d k t c s) { p with aH := a3, cH := c3 } := LegV.same hs _
      have hI6 : LegIn W6 (putD d k t c s) { p with aH := a3, cH := c3 } := by
        have hin6 := Hin.out.kept hb6
        exact LegIn.same (a := (withH d (putN d k t c s))) ⟨hin6.1, hin6.2.1, hin6.2.2.1, HN6.out⟩ hs
      refine bodyPost_ret (v := .tuple #[LegV (withH d (putN d k t c s)) { p with aH := a3, cH := c3 }, .bool true]) ?_ rfl ⟨⟨putD d k t c s, { p with aH := a3, cH := c3 }, true, by rw [hV6], ⟨fun h => absurd HK.out h, fun _ => ⟨⟨fun _ => hcan.out, fun _ => rfl⟩, fun _ => ⟨k, HAT.out, rfl⟩, fun h => (by cases h)⟩⟩, ?_, ⟨rfl, rfl, .inl rfl, .inr HNA.out⟩, fun _ => HNA.out, hI6⟩, hb6⟩
      · rw [LegV_eq]
        unfold LegC
        simp [results, Tryz.f55, go_sem, y0, y1, y2, y3, y4, y5, y6, y7, y8, y9]
      · have := HC3.out
        rw [putN_len HAT.out.1] at this
        exact this
  have hs0 : 0 < s := by have := H1.out.2.2.2; omega
  have z55 : decide (0 < s) = true := decide_eq_true hs0
  have z74 : decide (s < 0) = false := decide_eq_false (by omega)
  rcases Int.lt_or_le xr s with m | m
  · have hcan : Hid (¬ CanPut d t c s share) := fun h => by have := ((hCan.out.1 h).2 hpos).1; omega
    have z63 : decide (xr < s) = true := decide_eq_true m
    refine wp_region_quiet_below (by kernel_rfl) (by kernel_rfl) ?_
    repeat (go_big_quiet_step (first | (go_at_call 77; exact cR _ _) | (go_at_call 78; exact cB _ _)))
    refine wpQuiet_nil ?_
    intro _ hw'
    obtain ⟨⟨dq, osq⟩, hw''⟩ := hw'
    subst hw''
    have DQ := Lib.hid (bt D1.out (below_regrown _ dq osq))
    have RQ := Lib.hid (((below_regrown wA dq osq).block _ (lt_heap R1.out)).trans R1.out)
    have QQ := Lib.hid (((below_regrown wA dq osq).block _ (lt_heap Q1.out)).trans Q1.out)
    have XQ := Lib.hid (X1.out.kept (below_regrown wA dq osq))
    clear r0 r1 r2 r3 r4 r5 r6 r7 r8 r9 ru0 ru1 ru2 rS
    generalize Go.Sort.grow (redrawn wA dq) osq = WQ at *
    have XQ' := XQ.out
    obtain ⟨u0, u1, u2⟩ := row3 QQ.out
    have b0 := XQ'.c0
    have b1 := XQ'.c1
    have b2 := XQ'.c2
    have b3 := XQ'.c3
    have b4 := XQ'.c4
    have b5 := XQ'.c5
    have b6 := XQ'.c6
    have b7 := XQ'.c7
    have b8 := XQ'.c8
    have b9 := XQ'.c9
    clear XQ'
    go_upto_region 5 with fail
    go_big_wp2_with (first
      | (refine wpList_store_row rfl 25 _ _ rfl (w.heap.size + 1 + 1) (LegC d p) rfl rfl 25 #[.string ⟨#[]⟩, .string ⟨#[]⟩, .string ⟨#[]⟩, .int .i64 0, .int .i64 0, .int .i64 0, .slice none 0 0, .slice none 0 0, .slice none 0 0, .slice none 0 0] RQ.out legSize rfl (leg_one1 d p) ?_)
      | fail)
    have hfin : LegBox (WQ.setRow (w.heap.size + 1 + 1) (LegC d p)) (w.heap.size + 1 + 1) d p := setRow_heap WQ (w.heap.size + 1 + 1) _ _ _ _ RQ.out
    have gr := grown_setRow WQ (w.heap.size + 1 + 1) (LegC d p)
    have hb2 := Lib.hid (DQ.out.grown gr DQ.out.size (fun q e => by cases e; omega))
    clear b0 b1 b2 b3 b4 b5 b6 b7 b8 b9 u0 u1 u2
    generalize WQ.setRow (w.heap.size + 1 + 1) (LegC d p) = W9 at *
    have y0 := hfin.c0
    have y1 := hfin.c1
    have y2 := hfin.c2
    have y3 := hfin.c3
    have y4 := hfin.c4
    have y5 := hfin.c5
    have y6 := hfin.c6
    have y7 := hfin.c7
    have y8 := hfin.c8
    have y9 := hfin.c9
    clear hfin gr
    refine bodyPost_ret (v := .tuple #[LegV d p, .bool false]) ?_ rfl ⟨⟨d, p, false, rfl, ⟨fun h => absurd HK.out h, fun _ => ⟨⟨fun h => (by cases h), fun h => absurd h hcan.out⟩, fun h => (by cases h), fun _ => rfl⟩⟩, hcH, Moved.same _ _ _, fun h => (by cases h), Hin.out.kept hb2.out⟩, hb2.out⟩
    rw [LegV_eq]
    unfold LegC
    simp [results, Tryz.f55, go_sem, y0, y1, y2, y3, y4, y5, y6, y7, y8, y9]
  have z63 : decide (xr < s) = false := decide_eq_false (by omega)
  rcases Int.lt_or_le share xb with m2 | m2
  · have hcan : Hid (¬ CanPut d t c s share) := fun h => by have := ((hCan.out.1 h).2 hpos).2; omega
    have z68 : decide (share < xb) = true := decide_eq_true m2
    refine wp_region_quiet_below (by kernel_rfl) (by kernel_rfl) ?_
    repeat (go_big_quiet_step (first | (go_at_call 77; exact cR _ _) | (go_at_call 78; exact cB _ _)))
    refine wpQuiet_nil ?_
    intro _ hw'
    obtain ⟨⟨dq, osq⟩, hw''⟩ := hw'
    subst hw''
    have DQ := Lib.hid (bt D1.out (below_regrown _ dq osq))
    have RQ := Lib.hid (((below_regrown wA dq osq).block _ (lt_heap R1.out)).trans R1.out)
    have QQ := Lib.hid (((below_regrown wA dq osq).block _ (lt_heap Q1.out)).trans Q1.out)
    have XQ := Lib.hid (X1.out.kept (below_regrown wA dq osq))
    clear r0 r1 r2 r3 r4 r5 r6 r7 r8 r9 ru0 ru1 ru2 rS
    generalize Go.Sort.grow (redrawn wA dq) osq = WQ at *
    have XQ' := XQ.out
    obtain ⟨u0, u1, u2⟩ := row3 QQ.out
    have b0 := XQ'.c0
    have b1 := XQ'.c1
    have b2 := XQ'.c2
    have b3 := XQ'.c3
    have b4 := XQ'.c4
    have b5 := XQ'.c5
    have b6 := XQ'.c6
    have b7 := XQ'.c7
    have b8 := XQ'.c8
    have b9 := XQ'.c9
    clear XQ'
    go_upto_region 5 with fail
    go_big_wp2_with (first
      | (refine wpList_store_row rfl 25 _ _ rfl (w.heap.size + 1 + 1) (LegC d p) rfl rfl 25 #[.string ⟨#[]⟩, .string ⟨#[]⟩, .string ⟨#[]⟩, .int .i64 0, .int .i64 0, .int .i64 0, .slice none 0 0, .slice none 0 0, .slice none 0 0, .slice none 0 0] RQ.out legSize rfl (leg_one1 d p) ?_)
      | fail)
    have hfin : LegBox (WQ.setRow (w.heap.size + 1 + 1) (LegC d p)) (w.heap.size + 1 + 1) d p := setRow_heap WQ (w.heap.size + 1 + 1) _ _ _ _ RQ.out
    have gr := grown_setRow WQ (w.heap.size + 1 + 1) (LegC d p)
    have hb2 := Lib.hid (DQ.out.grown gr DQ.out.size (fun q e => by cases e; omega))
    clear b0 b1 b2 b3 b4 b5 b6 b7 b8 b9 u0 u1 u2
    generalize WQ.setRow (w.heap.size + 1 + 1) (LegC d p) = W9 at *
    have y0 := hfin.c0
    have y1 := hfin.c1
    have y2 := hfin.c2
    have y3 := hfin.c3
    have y4 := hfin.c4
    have y5 := hfin.c5
    have y6 := hfin.c6
    have y7 := hfin.c7
    have y8 := hfin.c8
    have y9 := hfin.c9
    clear hfin gr
    refine bodyPost_ret (v := .tuple #[LegV d p, .bool false]) ?_ rfl ⟨⟨d, p, false, rfl, ⟨fun h => absurd HK.out h, fun _ => ⟨⟨fun h => (by cases h), fun h => absurd h hcan.out⟩, fun h => (by cases h), fun _ => rfl⟩⟩, hcH, Moved.same _ _ _, fun h => (by cases h), Hin.out.kept hb2.out⟩, hb2.out⟩
    rw [LegV_eq]
    unfold LegC
    simp [results, Tryz.f55, go_sem, y0, y1, y2, y3, y4, y5, y6, y7, y8, y9]
  have hcan : Hid (CanPut d t c s share) := hCan.out.2 ⟨fun h => by omega, fun _ => ⟨m, m2⟩⟩
  have z68 : decide (share < xb) = false := decide_eq_false (by omega)
  refine wp_region_quiet_below (by kernel_rfl) (by kernel_rfl) ?_
  repeat (go_big_quiet_step (first | (go_at_call 77; exact cR _ _) | (go_at_call 78; exact cB _ _)))
  refine wpQuiet_nil ?_
  intro _ hw'
  obtain ⟨⟨dq, osq⟩, hw''⟩ := hw'
  subst hw''
  have DQ := Lib.hid (bt D1.out (below_regrown _ dq osq))
  have RQ := Lib.hid (((below_regrown wA dq osq).block _ (lt_heap R1.out)).trans R1.out)
  have QQ := Lib.hid (((below_regrown wA dq osq).block _ (lt_heap Q1.out)).trans Q1.out)
  have XQ := Lib.hid (X1.out.kept (below_regrown wA dq osq))
  clear r0 r1 r2 r3 r4 r5 r6 r7 r8 r9 ru0 ru1 ru2 rS
  generalize Go.Sort.grow (redrawn wA dq) osq = WQ at *
  have XQ' := XQ.out
  obtain ⟨u0, u1, u2⟩ := row3 QQ.out
  have b0 := XQ'.c0
  have b1 := XQ'.c1
  have b2 := XQ'.c2
  have b3 := XQ'.c3
  have b4 := XQ'.c4
  have b5 := XQ'.c5
  have b6 := XQ'.c6
  have b7 := XQ'.c7
  have b8 := XQ'.c8
  have b9 := XQ'.c9
  clear XQ'
  go_upto_region 6 with fail
  clear b0 b1 b2 b3 b4 b5 b6 b7 b8 b9 u0 u1 u2
  have kk0 : (0 : Int) ≤ k := by omega
  have kk1 : (k : Int) ≤ d.nH := by have := HAT.out.1; omega
  have kk2 : (k : Int) ≤ p.cH := by omega
  have SZ : ∀ {W : World}, (sizeOf (Tryz.prog.elem 23)).run Tryz.prog W = .ok 3 W := fun {W} => by
    have : Tryz.prog.elem 23 = 58 := by kernel_rfl
    rw [this]; exact Tryz.sizeOf58 W
  obtain ⟨j0, ji, jz0, jz1, jz2⟩ := info_parts infoHold
  have SR1 : Hid (∀ W, Below w.heap.size w W → Src W (if p.cH = 0 then p.aH else p.aH.map (·.add (0 * 3))) k 3 (flatN (ndsOf d.t d.c d.s k))) := fun W hW => src_head (Hin.out.kept hW).2.2.2 HAT.out.1
  have SR2 : Hid (∀ W, Below w.heap.size w W → Src W (if p.cH = k then p.aH else p.aH.map (·.add (k * 3))) (d.nH - k) 3 (flatN (ndsOf (fun i => d.t (k + i)) (fun i => d.c (k + i)) (fun i => d.s (k + i)) (d.nH - k)))) := fun W hW => src_tail (Hin.out.kept hW).2.2.2 HAT.out.1 hcH
  refine wp_region_inv' (by kernel_rfl) (fun kk L f ww => H6 WQ w.heap.size (flatN (ndsOf d.t d.c d.s k)) (flatN (ndsOf d.t d.c d.s k) ++ [.int .i64 t, .int .i64 c, .int .i64 s]) (flatN (ndsOf d.t d.c d.s k) ++ [.int .i64 t, .int .i64 c, .int .i64 s] ++ flatN (ndsOf (fun i => d.t (k + i)) (fun i => d.c (k + i)) (fun i => d.s (k + i)) (d.nH - k))) k (k + 1) (k + 1 + (d.nH - k)) #[.int .i64 t, .int .i64 c, .int .i64 s] (cst6 w.heap.size p d k t c s) L f ww) (by kernel_rfl) ⟨fun _ => (Below.refl _ _).drew, fun _ _ _ _ _ _ _ h => (by cases h), fun h => (by cases h), fun h => (by cases h), fun h => (by cases h), fun h => (by cases h), fun h => (by cases h), fun h => (by cases h)⟩ ?_
  apply Exists.intro
  apply And.intro
  · intro f
    simp only [over, List.set]
    exact rfl
  refine ⟨?hops, ?hend⟩
  case hops =>
    refine EachOp.cons ?_ (EachOp.cons ?_ (EachOp.cons ?_ (EachOp.cons ?_ (EachOp.cons ?_ (EachOp.cons ?_ (EachOp.cons ?_ (EachOp.cons ?_ (EachOp.cons ?_ (EachOp.cons ?_ (EachOp.cons ?_ (EachOp.cons ?_ (EachOp.cons ?_ (EachOp.cons ?_ (EachOp.cons ?_ (EachOp.cons ?_ EachOp.nil)))))))))))))))
    · intro L f kk ww hkk hJ hcl hLi hwt QQ' hQ
      dsimp only
      have h15 : L 15 = false := by
        cases hx : L 15 with
        | false => rfl
        | true => have h1 : L 0 = true := hcl 15 _ rfl hx 0 (by decide); have h2 : L 0 = false := hLi; rw [h1] at h2; cases h2
      go_big_wp2_with fail
      exact hQ _ _ _ rfl (hJ.op0 hLi h15 (fun h => hcl 5 _ rfl h 0 (by decide)))
    · intro L f kk ww hkk hJ hcl hLi hwt QQ' hQ
      dsimp only
      have h15 : L 15 = false := by
        cases hx : L 15 with
        | false => rfl
        | true => have h1 : L 1 = true := hcl 15 _ rfl hx 1 (by decide); have h2 : L 1 = false := hLi; rw [h1] at h2; cases h2
      go_big_wp2_with fail
      refine hQ _ _ _ ?_ (hJ.const (v := cst6 w.heap.size p d k t c s 1) (by decide) (by decide) (by decide) (by decide) (by decide) (by decide) rfl)
      first | rfl | (simp [upd, cst6, sliced]; done)
    · intro L f kk ww hkk hJ hcl hLi hwt QQ' hQ
      dsimp only
      have h15 : L 15 = false := by
        cases hx : L 15 with
        | false => rfl
        | true => have h1 : L 2 = true := hcl 15 _ rfl hx 2 (by decide); have h2 : L 2 = false := hLi; rw [h1] at h2; cases h2
      have c1 : f 1 = _ := hJ.cst 1 (by decide) (by decide) (by decide) (by decide) (by decide) (by decide) (hwt 1 (by decide))
      simp only [cst6] at c1
      have hB := hJ.below h15
      have x9 := (XQ.out.kept hB).c9
      clear hB
      go_big_wp2_with fail
      refine hQ _ _ _ ?_ (hJ.const (v := cst6 w.heap.size p d k t c s 2) (by decide) (by decide) (by decide) (by decide) (by decide) (by decide) rfl)
      first | rfl | (simp [upd, cst6, sliced, c1]; done)
    · intro L f kk ww hkk hJ hcl hLi hwt QQ' hQ
      dsimp only
      have h15 : L 15 = false := by
        cases hx : L 15 with
        | false => rfl
        | true => have h1 : L 3 = true := hcl 15 _ rfl hx 3 (by decide); have h2 : L 3 = false := hLi; rw [h1] at h2; cases h2
      go_big_wp2_with fail
      refine hQ _ _ _ ?_ (hJ.const (v := cst6 w.heap.size p d k t c s 3) (by decide) (by decide) (by decide) (by decide) (by decide) (by decide) rfl)
      first | rfl | (simp [upd, cst6, sliced]; done)
    · intro L f kk ww hkk hJ hcl hLi hwt QQ' hQ
      dsimp only
      have h15 : L 15 = false := by
        cases hx : L 15 with
        | false => rfl
        | true => have h1 : L 4 = true := hcl 15 _ rfl hx 4 (by decide); have h2 : L 4 = false := hLi; rw [h1] at h2; cases h2
      have c2 : f 2 = _ := hJ.cst 2 (by decide) (by decide) (by decide) (by decide) (by decide) (by decide) (hwt 2 (by decide))
      simp only [cst6] at c2
      have c3 : f 3 = _ := hJ.cst 3 (by decide) (by decide) (by decide) (by decide) (by decide) (by decide) (hwt 3 (by decide))
      simp only [cst6] at c3
      refine wpList_slice_h rfl 23 _ _ rfl (by kernel_rfl) _ _ _ k 3 c2 c3 (by omega) SZ _ rfl ?_
      have hN := hJ.const (i := 4) (v := cst6 w.heap.size p d k t c s 4) (by decide) (by decide) (by decide) (by decide) (by decide) (by decide) rfl
      simp only [Act.put, List.setIfInBounds_toArray, List.set_cons_succ, List.set_cons_zero]
      exact hQ _ _ _ rfl hN
    · intro L f kk ww hkk hJ hcl hLi hwt QQ' hQ
      dsimp only
      have h15 : L 15 = false := by
        cases hx : L 15 with
        | false => rfl
        | true => have h1 : L 5 = true := hcl 15 _ rfl hx 5 (by decide); have h2 : L 5 = false := hLi; rw [h1] at h2; cases h2
      have h0 := hwt 0 (by decide)
      have c4 : f 4 = _ := hJ.cst 4 (by decide) (by decide) (by decide) (by decide) (by decide) (by decide) (hwt 4 (by decide))
      simp only [cst6] at c4
      have hB := hJ.below h15
      refine wpList_append_src rfl _ _ 23 rfl WQ.heap.size 58 j0 (.agg #[.int .i64 0, .int .i64 0, .int .i64 0]) 3 24 Tryz.underlying23 ji jz0 jz1 jz2 rfl (by decide) (f 0) 0 [] rfl (hJ.e0 h0 hLi) _ k _ (flatN (ndsOf d.t d.c d.s k)) c4 (SR1.out _ (bt DQ.out hB)) (flatN_one _) (by unfold maxLen; omega) (by omega) hB.size ?_
      intro v' w' ho hg _
      simp only [Act.put, List.setIfInBounds_toArray, List.set_cons_succ, List.set_cons_zero]
      rw [Nat.zero_add] at ho
      exact hQ _ v' w' rfl (hJ.op5 h0 hLi h15 (fun h => hcl 8 _ rfl h 5 (by decide)) (fun h => hcl 13 _ rfl h 8 (by decide)) ho hg)
    · intro L f kk ww hkk hJ hcl hLi hwt QQ' hQ
      dsimp only
      have h15 : L 15 = false := by
        cases hx : L 15 with
        | false => rfl
        | true => have h1 : L 6 = true := hcl 15 _ rfl hx 6 (by decide); have h2 : L 6 = false := hLi; rw [h1] at h2; cases h2
      have hB := hJ.below h15
      have hq := (hB.block _ (lt_heap QQ.out)).trans QQ.out
      obtain ⟨v0, v1, v2⟩ := row3 hq
      clear hB hq
      go_big_wp2_with fail
      refine hQ _ _ _ ?_ (hJ.const (v := cst6 w.heap.size p d k t c s 6) (by decide) (by decide) (by decide) (by decide) (by decide) (by decide) rfl)
      first | rfl | (simp [upd, cst6, sliced]; done)
    · intro L f kk ww hkk hJ hcl hLi hwt QQ' hQ
      dsimp only
      have h15 : L 15 = false := by
        cases hx : L 15 with
        | false => rfl
        | true => have h1 : L 7 = true := hcl 15 _ rfl hx 7 (by decide); have h2 : L 7 = false := hLi; rw [h1] at h2; cases h2
      have c6 : f 6 = _ := hJ.cst 6 (by decide) (by decide) (by decide) (by decide) (by decide) (by decide) (hwt 6 (by decide))
      simp only [cst6] at c6
      go_big_wp2_with fail
      refine hQ _ _ _ ?_ (hJ.op7 hLi h15)
      first | rfl | (simp [upd, c6]; done)
    · intro L f kk ww hkk hJ hcl hLi hwt QQ' hQ
      dsimp only
      have h15 : L 15 = false := by
        cases hx : L 15 with
        | false => rfl
        | true => have h1 : L 8 = true := hcl 15 _ rfl hx 8 (by decide); have h2 : L 8 = false := hLi; rw [h1] at h2; cases h2
      have h5 := hwt 5 (by decide)
      obtain ⟨g, q1, q2, q3, q4⟩ := hJ.e7 (hwt 7 (by decide)) hLi
      have hB := hJ.below h15
      refine wpList_append_src rfl _ _ 23 rfl WQ.heap.size 58 j0 (.agg #[.int .i64 0, .int .i64 0, .int .i64 0]) 3 24 Tryz.underlying23 ji jz0 jz1 jz2 rfl (by decide) (f 5) k _ rfl (hJ.e5 h5 hLi) _ 1 _ [.int .i64 t, .int .i64 c, .int .i64 s] q1 (src_row q3) (by intro u hu; simp at hu; rcases hu with rfl | rfl | rfl <;> rfl) (by unfold maxLen; omega) (by omega) hB.size ?_
      intro v' w' ho hg _
      simp only [Act.put, List.setIfInBounds_toArray, List.set_cons_succ, List.set_cons_zero]
      exact hQ _ v' w' rfl (hJ.op8 h5 hLi h15 (fun h => hcl 13 _ rfl h 8 (by decide)) ho hg)
    · intro L f kk ww hkk hJ hcl hLi hwt QQ' hQ
      dsimp only
      have h15 : L 15 = false := by
        cases hx : L 15 with
        | false => rfl
        | true => have h1 : L 9 = true := hcl 15 _ rfl hx 9 (by decide); have h2 : L 9 = false := hLi; rw [h1] at h2; cases h2
      go_big_wp2_with fail
      refine hQ _ _ _ ?_ (hJ.const (v := cst6 w.heap.size p d k t c s 9) (by decide) (by decide) (by decide) (by decide) (by decide) (by decide) rfl)
      first | rfl | (simp [upd, cst6, sliced]; done)
    · intro L f kk ww hkk hJ hcl hLi hwt QQ' hQ
      dsimp only
      have h15 : L 15 = false := by
        cases hx : L 15 with
        | false => rfl
        | true => have h1 : L 10 = true := hcl 15 _ rfl hx 10 (by decide); have h2 : L 10 = false := hLi; rw [h1] at h2; cases h2
      have c9 : f 9 = _ := hJ.cst 9 (by decide) (by decide) (by decide) (by decide) (by decide) (by decide) (hwt 9 (by decide))
      simp only [cst6] at c9
      have hB := hJ.below h15
      have x9 := (XQ.out.kept hB).c9
      clear hB
      go_big_wp2_with fail
      refine hQ _ _ _ ?_ (hJ.const (v := cst6 w.heap.size p d k t c s 10) (by decide) (by decide) (by decide) (by decide) (by decide) (by decide) rfl)
      first | rfl | (simp [upd, cst6, sliced, c9]; done)
    · intro L f kk ww hkk hJ hcl hLi hwt QQ' hQ
      dsimp only
      have h15 : L 15 = false := by
        cases hx : L 15 with
        | false => rfl
        | true => have h1 : L 11 = true := hcl 15 _ rfl hx 11 (by decide); have h2 : L 11 = false := hLi; rw [h1] at h2; cases h2
      go_big_wp2_with fail
      refine hQ _ _ _ ?_ (hJ.const (v := cst6 w.heap.size p d k t c s 11) (by decide) (by decide) (by decide) (by decide) (by decide) (by decide) rfl)
      first | rfl | (simp [upd, cst6, sliced]; done)
    · intro L f kk ww hkk hJ hcl hLi hwt QQ' hQ
      dsimp only
      have h15 : L 15 = false := by
        cases hx : L 15 with
        | false => rfl
        | true => have h1 : L 12 = true := hcl 15 _ rfl hx 12 (by decide); have h2 : L 12 = false := hLi; rw [h1] at h2; cases h2
      have c10 : f 10 = _ := hJ.cst 10 (by decide) (by decide) (by decide) (by decide) (by decide) (by decide) (hwt 10 (by decide))
      simp only [cst6] at c10
      have c11 : f 11 = _ := hJ.cst 11 (by decide) (by decide) (by decide) (by decide) (by decide) (by decide) (hwt 11 (by decide))
      simp only [cst6] at c11
      refine wpList_slice_l rfl 23 _ _ rfl (by kernel_rfl) _ _ _ k 3 c10 c11 HAT.out.1 SZ _ rfl ?_
      have hN := hJ.const (i := 12) (v := cst6 w.heap.size p d k t c s 12) (by decide) (by decide) (by decide) (by decide) (by decide) (by decide) rfl
      simp only [Act.put, List.setIfInBounds_toArray, List.set_cons_succ, List.set_cons_zero]
      exact hQ _ _ _ rfl hN
    · intro L f kk ww hkk hJ hcl hLi hwt QQ' hQ
      dsimp only
      have h15 : L 15 = false := by
        cases hx : L 15 with
        | false => rfl
        | true => have h1 : L 13 = true := hcl 15 _ rfl hx 13 (by decide); have h2 : L 13 = false := hLi; rw [h1] at h2; cases h2
      have h8 := hwt 8 (by decide)
      have h5 : L 5 = true := hcl 8 _ rfl h8 5 (by decide)
      have c12 : f 12 = _ := hJ.cst 12 (by decide) (by decide) (by decide) (by decide) (by decide) (by decide) (hwt 12 (by decide))
      simp only [cst6] at c12
      have hB := hJ.below h15
      refine wpList_append_src rfl _ _ 23 rfl WQ.heap.size 58 j0 (.agg #[.int .i64 0, .int .i64 0, .int .i64 0]) 3 24 Tryz.underlying23 ji jz0 jz1 jz2 rfl (by decide) (f 8) (k + 1) _ rfl (hJ.e8 h8 hLi) _ (d.nH - k) _ (flatN (ndsOf (fun i => d.t (k + i)) (fun i => d.c (k + i)) (fun i => d.s (k + i)) (d.nH - k))) c12 (SR2.out _ (bt DQ.out hB)) (flatN_one _) (by unfold maxLen; omega) (by omega) hB.size ?_
      intro v' w' ho hg _
      simp only [Act.put, List.setIfInBounds_toArray, List.set_cons_succ, List.set_cons_zero]
      exact hQ _ v' w' rfl (hJ.op13 h8 hLi h15 h5 ho hg)
    · intro L f kk ww hkk hJ hcl hLi hwt QQ' hQ
      dsimp only
      have h15 : L 15 = false := by
        cases hx : L 15 with
        | false => rfl
        | true => have h1 : L 14 = true := hcl 15 _ rfl hx 14 (by decide); have h2 : L 14 = false := hLi; rw [h1] at h2; cases h2
      go_big_wp2_with fail
      refine hQ _ _ _ ?_ (hJ.const (v := cst6 w.heap.size p d k t c s 14) (by decide) (by decide) (by decide) (by decide) (by decide) (by decide) rfl)
      first | rfl | (simp [upd, cst6, sliced]; done)
    · intro L f kk ww hkk hJ hcl hLi hwt QQ' hQ
      dsimp only
      have h13 := hwt 13 (by decide)
      have hB := hJ.below hLi
      have x9 := (XQ.out.kept hB).c9
      have x9f := (XQ.out.kept hB).fr 9
      obtain ⟨g13, cap13, e13, -, -⟩ := (hJ.e13 h13 hLi).form (by omega)
      have hN := hJ.op15 (v := undef) (hwt 0 (by decide)) (hwt 5 (by decide)) (hwt 7 (by decide)) (hwt 8 (by decide)) h13 hLi
      rw [e13] at hN
      have c14 : f 14 = _ := hJ.cst 14 (by decide) (by decide) (by decide) (by decide) (by decide) (by decide) (hwt 14 (by decide))
      simp only [cst6] at c14
      clear hB
      go_big_wp2_with fail
      refine hQ _ undef _ ?_ hN
      first | rfl | (simp [upd, c14, e13]; done)
  case hend =>
    intro L f kk ww hL hJ
    obtain ⟨w3, D3, ho3, rfl⟩ := hJ.e15 (hL 15 (by decide))
    clear hJ
    obtain ⟨a3, c3, e13, hc3, n3⟩ := own_holdsR (putN_own HAT.out.1 ho3)
    have X3 := XQ.out.kept D3
    rw [e13]
    have X4 : LegBox (w3.setCell ⟨w.heap.size, 9, none⟩ (.slice a3 (putN d k t c s).length c3)) w.heap.size (withH d (putN d k t c s)) { p with aH := a3, cH := c3 } := X3.set9 (putN d k t c s) a3 c3
    have R4 : (w3.setCell ⟨w.heap.size, 9, none⟩ (.slice a3 (putN d k t c s).length c3)).heap[w.heap.size + 1 + 1]? = some (.cells #[.string ⟨#[]⟩, .string ⟨#[]⟩, .string ⟨#[]⟩, .int .i64 0, .int .i64 0, .int .i64 0, .slice none 0 0, .slice none 0 0, .slice none 0 0, .slice none 0 0] 25 (0, 0)) := (set_other _ (by omega)).trans ((D3.block _ (lt_heap RQ.out)).trans RQ.out)
    have gs4 := grown_set w3 ⟨w.heap.size, 9, none⟩ (.slice a3 (putN d k t c s).length c3)
    have hlq := lt_heap XQ.out
    have hlr := lt_heap RQ.out
    have hD3 := D3.size
    have n4 := n3.far gs4 (fun q e => by cases e; left; show w.heap.size < _; omega)
    have D4 := (bt DQ.out D3).setCell (p := ⟨w.heap.size, 9, none⟩) (Nat.le_refl _) (.slice a3 (putN d k t c s).length c3)
    have N4h := Lib.hid n4
    have D4h := Lib.hid D4
    have R4h := Lib.hid R4
    have HC3 := Lib.hid hc3
    have HNA := Lib.hid (n3.newAt (w := w) DQ.out.size)
    rw [putN_len HAT.out.1] at HNA
    clear n3 n4 D4 R4 gs4 X3 D3 ho3 e13 hc3 hL
    generalize w3.setCell ⟨w.heap.size, 9, none⟩ (.slice a3 (putN d k t c s).length c3) = W4 at *
    have g0 := X4.c0
    have g1 := X4.c1
    have g2 := X4.c2
    have g3 := X4.c3
    have g4 := X4.c4
    have g5 := X4.c5
    have g6 := X4.c6
    have g7 := X4.c7
    have g8 := X4.c8
    have g9 := X4.c9
    clear X4
    go_big_wp2_with (first
      | (refine wpList_store_row rfl 25 _ _ rfl (w.heap.size + 1 + 1) (LegC (withH d (putN d k t c s)) { p with aH := a3, cH := c3 }) rfl rfl 25 #[.string ⟨#[]⟩, .string ⟨#[]⟩, .string ⟨#[]⟩, .int .i64 0, .int .i64 0, .int .i64 0, .slice none 0 0, .slice none 0 0, .slice none 0 0, .slice none 0 0] R4h.out legSize rfl (leg_one1 _ _) ?_)
      | fail)
    clear g0 g1 g2 g3 g4 g5 g6 g7 g8 g9
    have hfin : LegBox (W4.setRow (w.heap.size + 1 + 1) (LegC (withH d (putN d k t c s)) { p with aH := a3, cH := c3 })) (w.heap.size + 1 + 1) (withH d (putN d k t c s)) { p with aH := a3, cH := c3 } := setRow_heap W4 (w.heap.size + 1 + 1) _ _ _ _ R4h.out
    have gr := grown_setRow W4 (w.heap.size + 1 + 1) (LegC (withH d (putN d k t c s)) { p with aH := a3, cH := c3 })
    have hb6 := D4h.out.grown gr D4h.out.size (fun q e => by cases e; omega)
    have n6 := N4h.out.far gr (fun q e => by cases e; left; omega)
    have HN6 := Lib.hid n6.holds
    generalize W4.setRow (w.heap.size + 1 + 1) (LegC (withH d (putN d k t c s)) { p with aH := a3, cH := c3 }) = W6 at *
    have y0 := hfin.c0
    have y1 := hfin.c1
    have y2 := hfin.c2
    have y3 := hfin.c3
    have y4 := hfin.c4
    have y5 := hfin.c5
    have y6 := hfin.c6
    have y7 := hfin.c7
    have y8 := hfin.c8
    have y9 := hfin.c9
    clear hfin gr n6
    have hs := putN_same (t := t) (c := c) (s := s) HAT.out.1
    have hV6 : LegV (withH d (putN d k t c s)) { p with aH := a3, cH := c3 } = LegV (putD d k t c s) { p with aH := a3, cH := c3 } := LegV.same hs _
    have hI6 : LegIn W6 (putD d k t c s) { p with aH := a3, cH := c3 } := by
      have hin6 := Hin.out.kept hb6
      exact LegIn.same (a := (withH d (putN d k t c s))) ⟨hin6.1, hin6.2.1, hin6.2.2.1, HN6.out⟩ hs
    refine bodyPost_ret (v := .tuple #[LegV (withH d (putN d k t c s)) { p with aH := a3, cH := c3 }, .bool true]) ?_ rfl ⟨⟨putD d k t c s, { p with aH := a3, cH := c3 }, true, by rw [hV6], ⟨fun h => absurd HK.out h, fun _ => ⟨⟨fun _ => hcan.out, fun _ => rfl⟩, fun _ => ⟨k, HAT.out, rfl⟩, fun h => (by cases h)⟩⟩, ?_, ⟨rfl, rfl, .inl rfl, .inr HNA.out⟩, fun _ => HNA.out, hI6⟩, hb6⟩
    · rw [LegV_eq]
      unfold LegC
      simp [results, Tryz.f55, go_sem, y0, y1, y2, y3, y4, y5, y6, y7, y8, y9]
    · have := HC3.out
      rw [putN_len HAT.out.1] at this
      exact this
end Go.Proofs.YtdaccpffdnbkiaaGreatDoor
