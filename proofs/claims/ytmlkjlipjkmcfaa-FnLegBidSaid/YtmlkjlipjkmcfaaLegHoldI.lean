/-
  Seats are held: the program's answer.
-/
import Derived.Test.YtmlkjlipjkmcfaaLegHoldMath
import Derived.Test.YtmlkjlipjkmcfaaLegDropI
namespace Go.Proofs.Ytmlkjlipjkmcfaa
open Go.RowKit
set_option linter.unusedVariables false
set_option linter.unusedSimpArgs false

set_option maxRecDepth 100000 in
set_option maxHeartbeats 8000000 in
theorem LegHoldI (d : LegD) (p : LegP) (t c s share : Int) (w : World) (hin : LegIn w d p) (hf : Fits d) (hc : d.nS ≤ p.cS) :
    Calls Try.prog 15 #[LegV d p, .agg #[.int .i64 t, .int .i64 c, .int .i64 s], .int .i64 share] w (HoldPost d t c s share w) := by
  have hbC : Below w.heap.size w (((w.alloc (.cells (LegC d p) 31)).alloc (.cells #[.int .i64 t, .int .i64 c, .int .i64 s] 35)).alloc (.cells #[.string ⟨#[]⟩, .string ⟨#[]⟩, .string ⟨#[]⟩, .int .i64 0, .int .i64 0, .int .i64 0, .slice none 0 0, .slice none 0 0, .slice none 0 0, .slice none 0 0] 31)) := (((Below.refl _ _).alloc (Nat.le_refl _) _).alloc (by simp) _).alloc (by simp only [World.size_alloc]; omega) _
  have hX : LegBox (((w.alloc (.cells (LegC d p) 31)).alloc (.cells #[.int .i64 t, .int .i64 c, .int .i64 s] 35)).alloc (.cells #[.string ⟨#[]⟩, .string ⟨#[]⟩, .string ⟨#[]⟩, .int .i64 0, .int .i64 0, .int .i64 0, .slice none 0 0, .slice none 0 0, .slice none 0 0, .slice none 0 0] 31)) w.heap.size d p := ((LegBox.new w d p).kept ((Below.refl _ _).alloc (Nat.le_refl _) _)).kept ((Below.refl _ _).alloc (Nat.le_refl _) _)
  have hQ : (((w.alloc (.cells (LegC d p) 31)).alloc (.cells #[.int .i64 t, .int .i64 c, .int .i64 s] 35)).alloc (.cells #[.string ⟨#[]⟩, .string ⟨#[]⟩, .string ⟨#[]⟩, .int .i64 0, .int .i64 0, .int .i64 0, .slice none 0 0, .slice none 0 0, .slice none 0 0, .slice none 0 0] 31)).heap[w.heap.size + 1]? = some (.cells #[.int .i64 t, .int .i64 c, .int .i64 s] 35 (0, 0)) := by
    have := heap_alloc_new (w.alloc (.cells (LegC d p) 31)) (.cells #[.int .i64 t, .int .i64 c, .int .i64 s] 35)
    rw [World.size_alloc] at this
    exact (((Below.refl _ _).alloc (Nat.le_refl _) _).block _ (by simp)).trans this
  have hR : (((w.alloc (.cells (LegC d p) 31)).alloc (.cells #[.int .i64 t, .int .i64 c, .int .i64 s] 35)).alloc (.cells #[.string ⟨#[]⟩, .string ⟨#[]⟩, .string ⟨#[]⟩, .int .i64 0, .int .i64 0, .int .i64 0, .slice none 0 0, .slice none 0 0, .slice none 0 0, .slice none 0 0] 31)).heap[w.heap.size + 1 + 1]? = some (.cells #[.string ⟨#[]⟩, .string ⟨#[]⟩, .string ⟨#[]⟩, .int .i64 0, .int .i64 0, .int .i64 0, .slice none 0 0, .slice none 0 0, .slice none 0 0, .slice none 0 0] 31 (0, 0)) := by
    have := heap_alloc_new ((w.alloc (.cells (LegC d p) 31)).alloc (.cells #[.int .i64 t, .int .i64 c, .int .i64 s] 35)) (.cells #[.string ⟨#[]⟩, .string ⟨#[]⟩, .string ⟨#[]⟩, .int .i64 0, .int .i64 0, .int .i64 0, .slice none 0 0, .slice none 0 0, .slice none 0 0, .slice none 0 0] 31)
    simpa only [World.size_alloc] using this
  have Hin := Lib.hid hin
  have HF := Lib.hid hf
  have D0 := Lib.hid hbC
  have X0 := Lib.hid hX
  have Q0 := Lib.hid hQ
  have R0 := Lib.hid hR
  have b0 := hX.c0
  have b1 := hX.c1
  have b2 := hX.c2
  have b3 := hX.c3
  have b4 := hX.c4
  have b5 := hX.c5
  have b6 := hX.c6
  have b7 := hX.c7
  have b8 := hX.c8
  have b9 := hX.c9
  rw [LegV_eq]
  generalize hLC : LegC d p = LC at *
  clear hbC hX hQ hR hin hf hLC
  go_enter Try.func15, Try.ntmps15
  go_wp2_with fail
  generalize (((w.alloc (.cells LC 31)).alloc (.cells #[.int .i64 t, .int .i64 c, .int .i64 s] 35)).alloc (.cells #[.string ⟨#[]⟩, .string ⟨#[]⟩, .string ⟨#[]⟩, .int .i64 0, .int .i64 0, .int .i64 0, .slice none 0 0, .slice none 0 0, .slice none 0 0, .slice none 0 0] 31)) = W0 at *
  refine (okI d p W0 (Hin.out.kept D0.out) HF.out hc).mono ?_
  rintro e w1 ⟨v, rfl, hv, d1⟩
  have X1 := Lib.hid (X0.out.kept d1)
  have Q1 := Lib.hid ((d1.block _ (lt_heap Q0.out)).trans Q0.out)
  have R1 := Lib.hid ((d1.block _ (lt_heap R0.out)).trans R0.out)
  have D1 := Lib.hid (bt D0.out d1)
  have hl1 : w.heap.size + 1 + 1 < w1.heap.size := lt_heap R1.out
  have X1' := X1.out
  clear b0 b1 b2 b3 b4 b5 b6 b7 b8 b9 d1
  have b0 := X1'.c0
  have b1 := X1'.c1
  have b2 := X1'.c2
  have b3 := X1'.c3
  have b4 := X1'.c4
  have b5 := X1'.c5
  have b6 := X1'.c6
  have b7 := X1'.c7
  have b8 := X1'.c8
  have b9 := X1'.c9
  clear X1'
  cases v with
  | false =>
    have hno : Hid (¬ OkLeg d) := fun h => by have := hv.out.2 h; cases this
    clear hv
    go_wp2_with (first
      | (refine wpList_store_row rfl 31 _ _ rfl (w.heap.size + 1 + 1) #[.string ⟨#[]⟩, .string ⟨#[]⟩, .string ⟨#[]⟩, .int .i64 0, .int .i64 0, .int .i64 0, .slice none 0 0, .slice none 0 0, .slice none 0 0, .slice none 0 0] rfl rfl 31 #[.string ⟨#[]⟩, .string ⟨#[]⟩, .string ⟨#[]⟩, .int .i64 0, .int .i64 0, .int .i64 0, .slice none 0 0, .slice none 0 0, .slice none 0 0, .slice none 0 0] R1.out legSize rfl (leg_one1 zeroD zeroP) ?_)
      | fail)
    have hfin : LegBox (w1.setRow (w.heap.size + 1 + 1) #[.string ⟨#[]⟩, .string ⟨#[]⟩, .string ⟨#[]⟩, .int .i64 0, .int .i64 0, .int .i64 0, .slice none 0 0, .slice none 0 0, .slice none 0 0, .slice none 0 0]) (w.heap.size + 1 + 1) zeroD zeroP := setRow_heap w1 (w.heap.size + 1 + 1) _ _ _ _ R1.out
    have gr := grown_setRow w1 (w.heap.size + 1 + 1) #[.string ⟨#[]⟩, .string ⟨#[]⟩, .string ⟨#[]⟩, .int .i64 0, .int .i64 0, .int .i64 0, .slice none 0 0, .slice none 0 0, .slice none 0 0, .slice none 0 0]
    have hb2 := Lib.hid (D1.out.grown gr D1.out.size (fun q e => by cases e; omega))
    clear b0 b1 b2 b3 b4 b5 b6 b7 b8 b9
    generalize w1.setRow (w.heap.size + 1 + 1) #[.string ⟨#[]⟩, .string ⟨#[]⟩, .string ⟨#[]⟩, .int .i64 0, .int .i64 0, .int .i64 0, .slice none 0 0, .slice none 0 0, .slice none 0 0, .slice none 0 0] = W2 at *
    have y0 := hfin.c0
    have y1 := hfin.c1
    have y2 := hfin.c2
    have y3 := hfin.c3
    have y4 := hfin.c4
    have y5 := hfin.c5
    have y6 := hfin.c6
    have y7 := hfin.c7
    have y8 := hfin.c8
    have y9 := hfin.c9
    clear hfin gr
    refine bodyPost_ret (v := .tuple #[LegV zeroD zeroP, .bool false]) ?_ rfl ⟨zeroD, zeroP, false, rfl, ⟨fun _ => ⟨rfl, rfl⟩, fun h => absurd h hno.out⟩, (zero_new W2).mono hb2.out.size, hb2.out⟩
    rw [LegV_eq]
    unfold LegC
    simp [results, Try.f15, go_sem, y0, y1, y2, y3, y4, y5, y6, y7, y8, y9]
  | true =>
  have hyes : Hid (OkLeg d) := hv.out.1 rfl
  clear hv
  go_wp2_with fail
  refine (heldOfI d p w1 (Hin.out.kept D1.out) hyes.out.2.2.1).mono ?_
  rintro e w2 ⟨⟨hb, L, rfl, H2', hrd⟩, d2⟩
  have H2 := Lib.hid H2'
  have HRd := Lib.hid hrd
  have X2 := Lib.hid (X1.out.kept d2)
  have Q2 := Lib.hid ((d2.block _ (lt_heap Q1.out)).trans Q1.out)
  have RJ := Lib.hid ((d2.block _ (lt_heap R1.out)).trans R1.out)
  have D2 := Lib.hid (bt D1.out d2)
  have hl2 := d2.size
  have hn6 := hyes.out.2.2.1.1
  have hlen : Hid (L.length ≤ 1048576) := Lib.hid (by rw [hrd.1]; omega)
  have X2' := X2.out
  obtain ⟨u0, u1, u2⟩ := row3 Q2.out
  clear b0 b1 b2 b3 b4 b5 b6 b7 b8 b9 d2 H2' hrd
  have b0 := X2'.c0
  have b1 := X2'.c1
  have b2 := X2'.c2
  have b3 := X2'.c3
  have b4 := X2'.c4
  have b5 := X2'.c5
  have b6 := X2'.c6
  have b7 := X2'.c7
  have b8 := X2'.c8
  have b9 := X2'.c9
  clear X2'
  rcases Nat.lt_or_ge d.nH 6 with h6 | h6
  · have z6 : decide ((d.nH : Int) < 6) = true := decide_eq_true (by omega)
    have k6 : (d.nH : Int) < 6 := by omega
    go_wp2_with fail
    refine (hasI w1.heap.size hb L t w2 H2.out).mono ?_
    rintro e w' ⟨k, bb, hk, rfl, hbt, rfl⟩
    have hbt2 := Lib.hid (hbt.out.trans (has_iff hyes.out.2.2.1 HRd.out hk))
    clear hbt
    cases bb with
    | true =>
      have hcan : Hid (¬ CanPut d t c s share) := fun h => hbt2.out.1 rfl h.2.1
      clear hbt2 hk
      go_wp2_with fail
      refine (legHoldingI w1.heap.size hb L d p w2 (Hin.out.kept D2.out) HF.out H2.out hlen.out).mono ?_
      rintro e w9 ⟨p9, rfl, hn9, d9⟩
      have R9 := Lib.hid ((d9.block (w.heap.size + 1 + 1) (by omega)).trans RJ.out)
      have D9 := Lib.hid (bt D2.out d9)
      have hs9 : w.heap.size + 1 + 1 < w2.heap.size := lt_heap RJ.out
      have HN9 := Lib.hid hn9
      clear hn9 d9
      go_wp2_with (first
        | (refine wpList_store_row rfl 31 _ _ rfl (w.heap.size + 1 + 1) (LegC (withH d L) p9) rfl rfl 31 #[.string ⟨#[]⟩, .string ⟨#[]⟩, .string ⟨#[]⟩, .int .i64 0, .int .i64 0, .int .i64 0, .slice none 0 0, .slice none 0 0, .slice none 0 0, .slice none 0 0] R9.out legSize rfl (leg_one1 _ _) ?_)
        | fail)
      have hfin : LegBox (w9.setRow (w.heap.size + 1 + 1) (LegC (withH d L) p9)) (w.heap.size + 1 + 1) (withH d L) p9 := setRow_heap w9 (w.heap.size + 1 + 1) _ _ _ _ R9.out
      have gr := grown_setRow w9 (w.heap.size + 1 + 1) (LegC (withH d L) p9)
      have hb9 := Lib.hid (D9.out.grown gr D9.out.size (fun q e => by cases e; omega))
      have hsame : LegSame (withH d L) d := with_same HRd.out
      have N9 := Lib.hid (((HN9.out.far gr (fun q e => by cases e; omega)).mono (B' := w.heap.size) (by omega)).same hsame)
      have hV : LegV (withH d L) p9 = LegV d p9 := LegV.same hsame p9
      generalize w9.setRow (w.heap.size + 1 + 1) (LegC (withH d L) p9) = W9 at *
      have y0 := hfin.c0
      have y1 := hfin.c1
      have y2 := hfin.c2
      have y3 := hfin.c3
      have y4 := hfin.c4
      have y5 := hfin.c5
      have y6 := hfin.c6
      have y7 := hfin.c7
      have y8 := hfin.c8
      have y9 := hfin.c9
      clear hfin gr
      refine bodyPost_ret (v := .tuple #[LegV (withH d L) p9, .bool false]) ?_ rfl ⟨d, p9, false, by rw [hV], ⟨fun h => absurd hyes.out h, fun _ => ⟨⟨fun h => (by cases h), fun h => absurd h hcan.out⟩, fun h => (by cases h), fun _ => rfl⟩⟩, N9.out, hb9.out⟩
      rw [LegV_eq]
      unfold LegC
      simp [results, Try.f15, go_sem, y0, y1, y2, y3, y4, y5, y6, y7, y8, y9]
    | false =>
      have hall : Hid (∀ i, i < d.nH → d.t i ≠ t) := Classical.byContradiction fun q => by have := hbt2.out.2 q; cases this
      clear hbt2 hk
      go_wp2_with fail
      refine (canHoldI d p t c s share w2 (Hin.out.kept D2.out) hyes.out hc).mono ?_
      rintro e w3 ⟨v, rfl, hv, d3⟩
      have H3 := Lib.hid (H2.out.kept d3)
      have X3 := Lib.hid (X2.out.kept d3)
      have Q3 := Lib.hid ((d3.block _ (lt_heap Q2.out)).trans Q2.out)
      have RJ := Lib.hid ((d3.block _ (lt_heap RJ.out)).trans RJ.out)
      have D3 := Lib.hid (bt D2.out d3)
      have hl3 := d3.size
      have X3' := X3.out
      clear b0 b1 b2 b3 b4 b5 b6 b7 b8 b9 u0 u1 u2 d3
      obtain ⟨u0, u1, u2⟩ := row3 Q3.out
      have b0 := X3'.c0
      have b1 := X3'.c1
      have b2 := X3'.c2
      have b3 := X3'.c3
      have b4 := X3'.c4
      have b5 := X3'.c5
      have b6 := X3'.c6
      have b7 := X3'.c7
      have b8 := X3'.c8
      have b9 := X3'.c9
      clear X3'
      cases v with
      | false =>
        have hcan : Hid (¬ CanPut d t c s share) := fun h => by have := hv.out.2 h.2.2; cases this
        clear hv
        go_wp2_with fail
        refine (legHoldingI w1.heap.size hb L d p w3 (Hin.out.kept D3.out) HF.out H3.out hlen.out).mono ?_
        rintro e w9 ⟨p9, rfl, hn9, d9⟩
        have R9 := Lib.hid ((d9.block (w.heap.size + 1 + 1) (by omega)).trans RJ.out)
        have D9 := Lib.hid (bt D3.out d9)
        have hs9 : w.heap.size + 1 + 1 < w3.heap.size := lt_heap RJ.out
        have HN9 := Lib.hid hn9
        clear hn9 d9
        go_wp2_with (first
          | (refine wpList_store_row rfl 31 _ _ rfl (w.heap.size + 1 + 1) (LegC (withH d L) p9) rfl rfl 31 #[.string ⟨#[]⟩, .string ⟨#[]⟩, .string ⟨#[]⟩, .int .i64 0, .int .i64 0, .int .i64 0, .slice none 0 0, .slice none 0 0, .slice none 0 0, .slice none 0 0] R9.out legSize rfl (leg_one1 _ _) ?_)
          | fail)
        have hfin : LegBox (w9.setRow (w.heap.size + 1 + 1) (LegC (withH d L) p9)) (w.heap.size + 1 + 1) (withH d L) p9 := setRow_heap w9 (w.heap.size + 1 + 1) _ _ _ _ R9.out
        have gr := grown_setRow w9 (w.heap.size + 1 + 1) (LegC (withH d L) p9)
        have hb9 := Lib.hid (D9.out.grown gr D9.out.size (fun q e => by cases e; omega))
        have hsame : LegSame (withH d L) d := with_same HRd.out
        have N9 := Lib.hid (((HN9.out.far gr (fun q e => by cases e; omega)).mono (B' := w.heap.size) (by omega)).same hsame)
        have hV : LegV (withH d L) p9 = LegV d p9 := LegV.same hsame p9
        generalize w9.setRow (w.heap.size + 1 + 1) (LegC (withH d L) p9) = W9 at *
        have y0 := hfin.c0
        have y1 := hfin.c1
        have y2 := hfin.c2
        have y3 := hfin.c3
        have y4 := hfin.c4
        have y5 := hfin.c5
        have y6 := hfin.c6
        have y7 := hfin.c7
        have y8 := hfin.c8
        have y9 := hfin.c9
        clear hfin gr
        refine bodyPost_ret (v := .tuple #[LegV (withH d L) p9, .bool false]) ?_ rfl ⟨d, p9, false, by rw [hV], ⟨fun h => absurd hyes.out h, fun _ => ⟨⟨fun h => (by cases h), fun h => absurd h hcan.out⟩, fun h => (by cases h), fun _ => rfl⟩⟩, N9.out, hb9.out⟩
        rw [LegV_eq]
        unfold LegC
        simp [results, Try.f15, go_sem, y0, y1, y2, y3, y4, y5, y6, y7, y8, y9]
      | true =>
        have hcan : Hid (CanPut d t c s share) := ⟨h6, hall.out, hv.out.1 rfl⟩
        clear hv
        go_wp2_with fail
        refine (putI w1.heap.size hb L t c s w3 H3.out (by omega)).mono ?_
        rintro e w4 ⟨⟨v4, rfl⟩, ⟨kP, bP, hk4, H4'⟩, d4⟩
        have H4 := Lib.hid H4'
        have HK4 := Lib.hid hk4
        have X4' : LegBox w4 w.heap.size d p := (d4.block _ (by omega)).trans X3.out
        have RJ := Lib.hid ((d4.block (w.heap.size + 1 + 1) (by omega)).trans RJ.out)
        have D4 := Lib.hid (D3.out.trans (d4.mono (by omega)))
        have hl4 := d4.size
        have hlen4 : Hid ((L.insertIdx kP ⟨bP, t, c, s⟩).length ≤ 1048576) := Lib.hid (by rw [List.length_insertIdx_of_le_length HK4.out.1, HRd.out.1]; omega)
        clear b0 b1 b2 b3 b4 b5 b6 b7 b8 b9 u0 u1 u2 d4 H4' hk4
        have b0 := X4'.c0
        have b1 := X4'.c1
        have b2 := X4'.c2
        have b3 := X4'.c3
        have b4 := X4'.c4
        have b5 := X4'.c5
        have b6 := X4'.c6
        have b7 := X4'.c7
        have b8 := X4'.c8
        have b9 := X4'.c9
        clear X4'
        go_wp2_with fail
        refine (legHoldingI w1.heap.size hb (L.insertIdx kP ⟨bP, t, c, s⟩) d p w4 (Hin.out.kept D4.out) HF.out H4.out hlen4.out).mono ?_
        rintro e w9 ⟨p9, rfl, hn9, d9⟩
        have R9 := Lib.hid ((d9.block (w.heap.size + 1 + 1) (by omega)).trans RJ.out)
        have D9 := Lib.hid (bt D4.out d9)
        have hs9 : w.heap.size + 1 + 1 < w4.heap.size := lt_heap RJ.out
        have HN9 := Lib.hid hn9
        clear hn9 d9
        go_wp2_with (first
          | (refine wpList_store_row rfl 31 _ _ rfl (w.heap.size + 1 + 1) (LegC (withH d (L.insertIdx kP ⟨bP, t, c, s⟩)) p9) rfl rfl 31 #[.string ⟨#[]⟩, .string ⟨#[]⟩, .string ⟨#[]⟩, .int .i64 0, .int .i64 0, .int .i64 0, .slice none 0 0, .slice none 0 0, .slice none 0 0, .slice none 0 0] R9.out legSize rfl (leg_one1 _ _) ?_)
          | fail)
        have hfin : LegBox (w9.setRow (w.heap.size + 1 + 1) (LegC (withH d (L.insertIdx kP ⟨bP, t, c, s⟩)) p9)) (w.heap.size + 1 + 1) (withH d (L.insertIdx kP ⟨bP, t, c, s⟩)) p9 := setRow_heap w9 (w.heap.size + 1 + 1) _ _ _ _ R9.out
        have gr := grown_setRow w9 (w.heap.size + 1 + 1) (LegC (withH d (L.insertIdx kP ⟨bP, t, c, s⟩)) p9)
        have hb9 := Lib.hid (D9.out.grown gr D9.out.size (fun q e => by cases e; omega))
        have hsame : LegSame (withH d (L.insertIdx kP ⟨bP, t, c, s⟩)) (putD d kP t c s) := put_same HRd.out HK4.out
        have N9 := Lib.hid (((HN9.out.far gr (fun q e => by cases e; omega)).mono (B' := w.heap.size) (by omega)).same hsame)
        have hV : LegV (withH d (L.insertIdx kP ⟨bP, t, c, s⟩)) p9 = LegV (putD d kP t c s) p9 := LegV.same hsame p9
        generalize w9.setRow (w.heap.size + 1 + 1) (LegC (withH d (L.insertIdx kP ⟨bP, t, c, s⟩)) p9) = W9 at *
        have y0 := hfin.c0
        have y1 := hfin.c1
        have y2 := hfin.c2
        have y3 := hfin.c3
        have y4 := hfin.c4
        have y5 := hfin.c5
        have y6 := hfin.c6
        have y7 := hfin.c7
        have y8 := hfin.c8
        have y9 := hfin.c9
        clear hfin gr
        refine bodyPost_ret (v := .tuple #[LegV (withH d (L.insertIdx kP ⟨bP, t, c, s⟩)) p9, .bool true]) ?_ rfl ⟨(putD d kP t c s), p9, true, by rw [hV], ⟨fun h => absurd hyes.out h, fun _ => ⟨⟨fun _ => hcan.out, fun _ => rfl⟩, fun _ => ⟨kP, rd_at HRd.out HK4.out, rfl⟩, fun h => (by cases h)⟩⟩, N9.out, hb9.out⟩
        rw [LegV_eq]
        unfold LegC
        simp [results, Try.f15, go_sem, y0, y1, y2, y3, y4, y5, y6, y7, y8, y9]
  · have z6 : decide ((d.nH : Int) < 6) = false := decide_eq_false (by omega)
    have hcan : Hid (¬ CanPut d t c s share) := fun h => by have := h.1; omega
    go_wp2_with fail
    refine (legHoldingI w1.heap.size hb L d p w2 (Hin.out.kept D2.out) HF.out H2.out hlen.out).mono ?_
    rintro e w9 ⟨p9, rfl, hn9, d9⟩
    have R9 := Lib.hid ((d9.block (w.heap.size + 1 + 1) (by omega)).trans RJ.out)
    have D9 := Lib.hid (bt D2.out d9)
    have hs9 : w.heap.size + 1 + 1 < w2.heap.size := lt_heap RJ.out
    have HN9 := Lib.hid hn9
    clear hn9 d9
    go_wp2_with (first
      | (refine wpList_store_row rfl 31 _ _ rfl (w.heap.size + 1 + 1) (LegC (withH d L) p9) rfl rfl 31 #[.string ⟨#[]⟩, .string ⟨#[]⟩, .string ⟨#[]⟩, .int .i64 0, .int .i64 0, .int .i64 0, .slice none 0 0, .slice none 0 0, .slice none 0 0, .slice none 0 0] R9.out legSize rfl (leg_one1 _ _) ?_)
      | fail)
    have hfin : LegBox (w9.setRow (w.heap.size + 1 + 1) (LegC (withH d L) p9)) (w.heap.size + 1 + 1) (withH d L) p9 := setRow_heap w9 (w.heap.size + 1 + 1) _ _ _ _ R9.out
    have gr := grown_setRow w9 (w.heap.size + 1 + 1) (LegC (withH d L) p9)
    have hb9 := Lib.hid (D9.out.grown gr D9.out.size (fun q e => by cases e; omega))
    have hsame : LegSame (withH d L) d := with_same HRd.out
    have N9 := Lib.hid (((HN9.out.far gr (fun q e => by cases e; omega)).mono (B' := w.heap.size) (by omega)).same hsame)
    have hV : LegV (withH d L) p9 = LegV d p9 := LegV.same hsame p9
    generalize w9.setRow (w.heap.size + 1 + 1) (LegC (withH d L) p9) = W9 at *
    have y0 := hfin.c0
    have y1 := hfin.c1
    have y2 := hfin.c2
    have y3 := hfin.c3
    have y4 := hfin.c4
    have y5 := hfin.c5
    have y6 := hfin.c6
    have y7 := hfin.c7
    have y8 := hfin.c8
    have y9 := hfin.c9
    clear hfin gr
    refine bodyPost_ret (v := .tuple #[LegV (withH d L) p9, .bool false]) ?_ rfl ⟨d, p9, false, by rw [hV], ⟨fun h => absurd hyes.out h, fun _ => ⟨⟨fun h => (by cases h), fun h => absurd h hcan.out⟩, fun h => (by cases h), fun _ => rfl⟩⟩, N9.out, hb9.out⟩
    rw [LegV_eq]
    unfold LegC
    simp [results, Try.f15, go_sem, y0, y1, y2, y3, y4, y5, y6, y7, y8, y9]
end Go.Proofs.Ytmlkjlipjkmcfaa
