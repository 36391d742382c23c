/-
  Seats are held: the model's answer.
-/
import Derived.Test.YtbnjmdeabhikkaaLegHoldMath
import Derived.Test.YtbnjmdeabhikkaaLegDropS
import Derived.Test.YtbnjmdeabhikkaaLegHoldM
import Derived.Test.YtbnjmdeabhikkaaLegRowT
namespace Go.Proofs.Ytbnjmdeabhikkaa
open Go.RowKit
set_option linter.unusedVariables false
set_option linter.unusedSimpArgs false

theorem hold_lens {d d' : LegD} {t c s share : Int} {b : Bool} (h : OkLeg d) (k : HoldIs d t c s share d' b) : d'.nL = 3 ∧ d'.nS = 3 ∧ 1 ≤ d'.nB ∧ d'.nB ≤ 8 ∧ d'.nH ≤ 10 := by
  have h1 := h.2.1.2.1
  have h2 := h.2.1.2.2.1
  have h3 := h.2.1.2.2.2.2.1
  have h4 := h.2.2.1.1
  obtain ⟨k1, k2, k3⟩ := k.2 h
  cases b with
  | false => rw [k3 rfl]; exact ⟨h1, h2, by omega, by omega, by omega⟩
  | true =>
    obtain ⟨q, -, rfl⟩ := k2 rfl
    exact ⟨h1, h2, by show 1 ≤ d.nB; omega, by show d.nB ≤ 8; omega, by show d.nH + 1 ≤ 10; omega⟩
set_option maxRecDepth 100000 in
set_option maxHeartbeats 8000000 in
theorem LegHoldS (d : LegD) (p : LegP) (t c s share : Int) (w : World) (hin : LegIn w d p) (hf : Fits d) (hcH : d.nH ≤ p.cH) :
    Calls Try.prog 12 #[LegV d p, .agg #[.int .i64 t, .int .i64 c, .int .i64 s], .int .i64 share] w (HoldPost d t c s share w) := by
  have hbC : Below w.heap.size w (((w.alloc (.cells (LegC d p) 31)).alloc (.cells #[.int .i64 t, .int .i64 c, .int .i64 s] 35)).alloc (.cells #[.string ⟨#[]⟩, .string ⟨#[]⟩, .string ⟨#[]⟩, .int .i64 0, .int .i64 0, .int .i64 0, .slice none 0 0, .slice none 0 0, .slice none 0 0, .slice none 0 0] 31)) := (((Below.refl _ _).alloc (Nat.le_refl _) _).alloc (by simp) _).alloc (by simp only [World.size_alloc]; omega) _
  have hX : LegBox (((w.alloc (.cells (LegC d p) 31)).alloc (.cells #[.int .i64 t, .int .i64 c, .int .i64 s] 35)).alloc (.cells #[.string ⟨#[]⟩, .string ⟨#[]⟩, .string ⟨#[]⟩, .int .i64 0, .int .i64 0, .int .i64 0, .slice none 0 0, .slice none 0 0, .slice none 0 0, .slice none 0 0] 31)) w.heap.size d p := ((LegBox.new w d p).kept ((Below.refl _ _).alloc (Nat.le_refl _) _)).kept ((Below.refl _ _).alloc (Nat.le_refl _) _)
  have hQ : (((w.alloc (.cells (LegC d p) 31)).alloc (.cells #[.int .i64 t, .int .i64 c, .int .i64 s] 35)).alloc (.cells #[.string ⟨#[]⟩, .string ⟨#[]⟩, .string ⟨#[]⟩, .int .i64 0, .int .i64 0, .int .i64 0, .slice none 0 0, .slice none 0 0, .slice none 0 0, .slice none 0 0] 31)).heap[w.heap.size + 1]? = some (.cells #[.int .i64 t, .int .i64 c, .int .i64 s] 35 (0, 0)) := by
    have := heap_alloc_new (w.alloc (.cells (LegC d p) 31)) (.cells #[.int .i64 t, .int .i64 c, .int .i64 s] 35)
    rw [World.size_alloc] at this
    exact (((Below.refl _ _).alloc (Nat.le_refl _) _).block _ (by simp)).trans this
  have hR : (((w.alloc (.cells (LegC d p) 31)).alloc (.cells #[.int .i64 t, .int .i64 c, .int .i64 s] 35)).alloc (.cells #[.string ⟨#[]⟩, .string ⟨#[]⟩, .string ⟨#[]⟩, .int .i64 0, .int .i64 0, .int .i64 0, .slice none 0 0, .slice none 0 0, .slice none 0 0, .slice none 0 0] 31)).heap[w.heap.size + 1 + 1]? = some (.cells #[.string ⟨#[]⟩, .string ⟨#[]⟩, .string ⟨#[]⟩, .int .i64 0, .int .i64 0, .int .i64 0, .slice none 0 0, .slice none 0 0, .slice none 0 0, .slice none 0 0] 31 (0, 0)) := by
    have := heap_alloc_new ((w.alloc (.cells (LegC d p) 31)).alloc (.cells #[.int .i64 t, .int .i64 c, .int .i64 s] 35)) (.cells #[.string ⟨#[]⟩, .string ⟨#[]⟩, .string ⟨#[]⟩, .int .i64 0, .int .i64 0, .int .i64 0, .slice none 0 0, .slice none 0 0, .slice none 0 0, .slice none 0 0] 31)
    simpa only [World.size_alloc] using this
  have Hin := Lib.hid hin
  have HF := Lib.hid hf
  have D0 := Lib.hid hbC
  have X0 := Lib.hid hX
  have Q0 := Lib.hid hQ
  have R0 := Lib.hid hR
  have b0 := hX.c0
  have b1 := hX.c1
  have b2 := hX.c2
  have b3 := hX.c3
  have b4 := hX.c4
  have b5 := hX.c5
  have b6 := hX.c6
  have b7 := hX.c7
  have b8 := hX.c8
  have b9 := hX.c9
  rw [LegV_eq]
  generalize hLC : LegC d p = LC at *
  clear hbC hX hQ hR hin hf hLC
  go_enter Try.func12, Try.ntmps12
  go_wp2_with fail
  generalize (((w.alloc (.cells LC 31)).alloc (.cells #[.int .i64 t, .int .i64 c, .int .i64 s] 35)).alloc (.cells #[.string ⟨#[]⟩, .string ⟨#[]⟩, .string ⟨#[]⟩, .int .i64 0, .int .i64 0, .int .i64 0, .slice none 0 0, .slice none 0 0, .slice none 0 0, .slice none 0 0] 31)) = W0 at *
  refine (okM d p W0 (Hin.out.kept D0.out) HF.out).mono ?_
  rintro e w1 ⟨v, rfl, hv, d1⟩
  have X1 := Lib.hid (X0.out.kept d1)
  have Q1 := Lib.hid ((d1.block _ (lt_heap Q0.out)).trans Q0.out)
  have R1 := Lib.hid ((d1.block _ (lt_heap R0.out)).trans R0.out)
  have D1 := Lib.hid (bt D0.out d1)
  have hl1 : w.heap.size + 1 + 1 < w1.heap.size := lt_heap R1.out
  have X1' := X1.out
  clear b0 b1 b2 b3 b4 b5 b6 b7 b8 b9 d1
  have b0 := X1'.c0
  have b1 := X1'.c1
  have b2 := X1'.c2
  have b3 := X1'.c3
  have b4 := X1'.c4
  have b5 := X1'.c5
  have b6 := X1'.c6
  have b7 := X1'.c7
  have b8 := X1'.c8
  have b9 := X1'.c9
  clear X1'
  cases v with
  | false =>
    have hno : Hid (¬ OkLeg d) := fun h => by have := hv.out.2 h; cases this
    clear hv
    go_wp2_with (first
      | (refine wpList_store_row rfl 31 _ _ rfl (w.heap.size + 1 + 1) #[.string ⟨#[]⟩, .string ⟨#[]⟩, .string ⟨#[]⟩, .int .i64 0, .int .i64 0, .int .i64 0, .slice none 0 0, .slice none 0 0, .slice none 0 0, .slice none 0 0] rfl rfl 31 #[.string ⟨#[]⟩, .string ⟨#[]⟩, .string ⟨#[]⟩, .int .i64 0, .int .i64 0, .int .i64 0, .slice none 0 0, .slice none 0 0, .slice none 0 0, .slice none 0 0] R1.out legSize rfl (leg_one1 zeroD zeroP) ?_)
      | fail)
    have hfin : LegBox (w1.setRow (w.heap.size + 1 + 1) #[.string ⟨#[]⟩, .string ⟨#[]⟩, .string ⟨#[]⟩, .int .i64 0, .int .i64 0, .int .i64 0, .slice none 0 0, .slice none 0 0, .slice none 0 0, .slice none 0 0]) (w.heap.size + 1 + 1) zeroD zeroP := setRow_heap w1 (w.heap.size + 1 + 1) _ _ _ _ R1.out
    have gr := grown_setRow w1 (w.heap.size + 1 + 1) #[.string ⟨#[]⟩, .string ⟨#[]⟩, .string ⟨#[]⟩, .int .i64 0, .int .i64 0, .int .i64 0, .slice none 0 0, .slice none 0 0, .slice none 0 0, .slice none 0 0]
    have hb2 := Lib.hid (D1.out.grown gr D1.out.size (fun q e => by cases e; omega))
    clear b0 b1 b2 b3 b4 b5 b6 b7 b8 b9
    generalize w1.setRow (w.heap.size + 1 + 1) #[.string ⟨#[]⟩, .string ⟨#[]⟩, .string ⟨#[]⟩, .int .i64 0, .int .i64 0, .int .i64 0, .slice none 0 0, .slice none 0 0, .slice none 0 0, .slice none 0 0] = W2 at *
    have y0 := hfin.c0
    have y1 := hfin.c1
    have y2 := hfin.c2
    have y3 := hfin.c3
    have y4 := hfin.c4
    have y5 := hfin.c5
    have y6 := hfin.c6
    have y7 := hfin.c7
    have y8 := hfin.c8
    have y9 := hfin.c9
    clear hfin gr
    refine bodyPost_ret (v := .tuple #[LegV zeroD zeroP, .bool false]) ?_ rfl ⟨zeroD, zeroP, false, rfl, ⟨fun _ => ⟨rfl, rfl⟩, fun h => absurd h hno.out⟩, (zero_new W2).mono hb2.out.size, hb2.out⟩
    rw [LegV_eq]
    unfold LegC
    simp [results, Try.f12, go_sem, y0, y1, y2, y3, y4, y5, y6, y7, y8, y9]
  | true =>
  have hyes : Hid (OkLeg d) := hv.out.1 rfl
  clear hv
  obtain ⟨u0, u1, u2⟩ := row3 Q1.out
  go_wp2_with fail
  refine (holdM d p t c s share w1 (Hin.out.kept D1.out) hyes.out hcH).mono ?_
  rintro e w2 ⟨⟨d', p', b, rfl, hI, hcap, -, hin2⟩, d2⟩
  have hw2 := legRowBelow w2 (LegC d' p')
  have hx2 := Lib.hid (legRowBox w2 d' p')
  have D2 := Lib.hid (bt D1.out (bt d2 hw2))
  have I2 := Lib.hid (hin2.kept hw2)
  have R2 := Lib.hid (((bt d2 hw2).block _ (lt_heap R1.out)).trans R1.out)
  have HL := Lib.hid (hold_lens hyes.out hI.out)
  have HIS := Lib.hid hI.out
  have hs2 := d2.size
  have hs3 := hw2.size
  clear b0 b1 b2 b3 b4 b5 b6 b7 b8 b9 u0 u1 u2 d2 hw2 hin2 hI
  have b0 := hx2.out.c0
  have b1 := hx2.out.c1
  have b2 := hx2.out.c2
  have b3 := hx2.out.c3
  have b4 := hx2.out.c4
  have b5 := hx2.out.c5
  have b6 := hx2.out.c6
  have b7 := hx2.out.c7
  have b8 := hx2.out.c8
  have b9 := hx2.out.c9
  unfold LegV
  go_wp2_with (first
    | (refine wpList_store_row rfl 31 _ _ rfl w2.heap.size (LegC d' p') rfl rfl 31 #[.string ⟨#[]⟩, .string ⟨#[]⟩, .string ⟨#[]⟩, .int .i64 0, .int .i64 0, .int .i64 0, .slice none 0 0, .slice none 0 0, .slice none 0 0, .slice none 0 0] (heap_alloc_new w2 _) legSize rfl (leg_one d' p') ?_)
    | fail)
  generalize ((w2.alloc (.cells #[.string ⟨#[]⟩, .string ⟨#[]⟩, .string ⟨#[]⟩, .int .i64 0, .int .i64 0, .int .i64 0, .slice none 0 0, .slice none 0 0, .slice none 0 0, .slice none 0 0] 31)).setRow w2.heap.size (LegC d' p')) = W3 at *
  refine (copyM d' p' W3 I2.out HL.out.1 HL.out.2.1 HL.out.2.2.1 HL.out.2.2.2.1 HL.out.2.2.2.2).mono ?_
  rintro e w4 ⟨p4, rfl, hnew, d4⟩
  have D4 := bt D2.out d4
  have R4h := Lib.hid ((d4.block _ (lt_heap R2.out)).trans R2.out)
  clear b0 b1 b2 b3 b4 b5 b6 b7 b8 b9
  go_wp2_with (first
    | (refine wpList_store_row rfl 31 _ _ rfl (w.heap.size + 1 + 1) (LegC d' p4) rfl rfl 31 #[.string ⟨#[]⟩, .string ⟨#[]⟩, .string ⟨#[]⟩, .int .i64 0, .int .i64 0, .int .i64 0, .slice none 0 0, .slice none 0 0, .slice none 0 0, .slice none 0 0] R4h.out legSize rfl (leg_one1 _ _) ?_)
    | fail)
  have hfin : LegBox (w4.setRow (w.heap.size + 1 + 1) (LegC d' p4)) (w.heap.size + 1 + 1) d' p4 := setRow_heap w4 (w.heap.size + 1 + 1) _ _ _ _ R4h.out
  have gr := grown_setRow w4 (w.heap.size + 1 + 1) (LegC d' p4)
  have hb6 := Lib.hid (D4.grown gr D4.size (fun q e => by cases e; omega))
  have N6 := Lib.hid ((hnew.far gr (fun q e => by cases e; omega)).mono (B' := w.heap.size) (by omega))
  generalize w4.setRow (w.heap.size + 1 + 1) (LegC d' p4) = W6 at *
  have y0 := hfin.c0
  have y1 := hfin.c1
  have y2 := hfin.c2
  have y3 := hfin.c3
  have y4 := hfin.c4
  have y5 := hfin.c5
  have y6 := hfin.c6
  have y7 := hfin.c7
  have y8 := hfin.c8
  have y9 := hfin.c9
  clear hfin gr hnew D4
  refine bodyPost_ret (v := .tuple #[LegV d' p4, .bool b]) ?_ rfl ⟨d', p4, b, rfl, HIS, N6.out, hb6.out⟩
  rw [LegV_eq]
  unfold LegC
  simp [results, Try.f12, go_sem, y0, y1, y2, y3, y4, y5, y6, y7, y8, y9]
end Go.Proofs.Ytbnjmdeabhikkaa
