/-
  What is held for a transaction is made sold: the model's.
-/
import Derived.Test.YtmlkjlipjkmcfaaLegDropN
import Derived.Test.YtmlkjlipjkmcfaaLegDropI
import Derived.Deep.RegionLaw
import Derived.Test.YtmlkjlipjkmcfaaMoved
namespace Go.Proofs.Ytmlkjlipjkmcfaa
open Go.RowKit
set_option linter.unusedVariables false
set_option linter.unusedSimpArgs false

/-- A store into numbers in memory of their own. -/
theorem NumsR.setAt {lo hi : Nat} {w : World} {a : Option Addr} {len : Nat} {z : Nat → Int} (h : NumsR lo hi w a len z) {m : Nat} (hm : m < len) (v : Int) :
    ∃ g, a = some ⟨g, 0, none⟩ ∧ lo ≤ g ∧ g < hi ∧ w.cell? ⟨g, m, none⟩ = some (.int .i64 (z m)) ∧ w.frozen? ⟨g, m, none⟩ = false ∧ NumsR lo hi (w.setCell ⟨g, m, none⟩ (.int .i64 v)) a len (fun i => if i = m then v else z i) := by
  rcases h with h | ⟨g, ha, r1, r2, r3, r4⟩
  · omega
  · have gs := grown_set w ⟨g, m, none⟩ (.int .i64 v)
    refine ⟨g, ha, r1, r2, (r4 m hm).1, (r4 m hm).2, .inr ⟨g, ha, r1, r2, Nat.lt_of_lt_of_le r3 gs.size, fun i hi => ?_⟩⟩
    have r4i := r4 i hi
    refine ⟨?_, by simpa [go_sem] using r4i.2⟩
    by_cases e : i = m
    · subst e; simp [go_sem, r4i.1]
    · simp [go_sem, r4i.1, e]
set_option maxRecDepth 100000 in
set_option maxHeartbeats 8000000 in
theorem keepM (d : LegD) (p : LegP) (txn : Int) (w : World) (hin : LegIn w d p) (ho : OkLeg d) (hcH : d.nH ≤ p.cH) :
    Calls Try.prog 57 #[LegV d p, .int .i64 txn] w fun e w' => (∃ p', e = .returned (LegV (keepD d txn) p') ∧ LegIn w' (keepD d txn) p' ∧ (keepD d txn).nH ≤ p'.cH ∧ Moved w (keepD d txn).nH p p') ∧ Below w.heap.size w w' := by
  obtain ⟨i0, hi, hz0, hz1, hz2⟩ := info_parts infoInt
  have hbC : Below w.heap.size w ((w.alloc (.cells (LegC d p) 31)).alloc (.cells #[.string ⟨#[]⟩, .string ⟨#[]⟩, .string ⟨#[]⟩, .int .i64 0, .int .i64 0, .int .i64 0, .slice none 0 0, .slice none 0 0, .slice none 0 0, .slice none 0 0] 31)) := ((Below.refl _ _).alloc (Nat.le_refl _) _).alloc (by simp) _
  have hX : LegBox ((w.alloc (.cells (LegC d p) 31)).alloc (.cells #[.string ⟨#[]⟩, .string ⟨#[]⟩, .string ⟨#[]⟩, .int .i64 0, .int .i64 0, .int .i64 0, .slice none 0 0, .slice none 0 0, .slice none 0 0, .slice none 0 0] 31)) w.heap.size d p := (LegBox.new w d p).kept ((Below.refl _ _).alloc (Nat.le_refl _) _)
  have hR : ((w.alloc (.cells (LegC d p) 31)).alloc (.cells #[.string ⟨#[]⟩, .string ⟨#[]⟩, .string ⟨#[]⟩, .int .i64 0, .int .i64 0, .int .i64 0, .slice none 0 0, .slice none 0 0, .slice none 0 0, .slice none 0 0] 31)).heap[w.heap.size + 1]? = some (.cells #[.string ⟨#[]⟩, .string ⟨#[]⟩, .string ⟨#[]⟩, .int .i64 0, .int .i64 0, .int .i64 0, .slice none 0 0, .slice none 0 0, .slice none 0 0, .slice none 0 0] 31 (0, 0)) := by
    have := heap_alloc_new (w.alloc (.cells (LegC d p) 31)) (.cells #[.string ⟨#[]⟩, .string ⟨#[]⟩, .string ⟨#[]⟩, .int .i64 0, .int .i64 0, .int .i64 0, .slice none 0 0, .slice none 0 0, .slice none 0 0, .slice none 0 0] 31)
    rwa [World.size_alloc] at this
  have Hin := Lib.hid hin
  have D0 := Lib.hid hbC
  have X0 := Lib.hid hX
  have R0 := Lib.hid hR
  have HK := Lib.hid ho
  have HO := Lib.hid ho.2.2.1
  have hn6 := ho.2.2.1.1
  have b0 := hX.c0
  have b1 := hX.c1
  have b2 := hX.c2
  have b3 := hX.c3
  have b4 := hX.c4
  have b5 := hX.c5
  have b6 := hX.c6
  have b7 := hX.c7
  have b8 := hX.c8
  have b9 := hX.c9
  rw [LegV_eq]
  generalize hLC : LegC d p = LC at *
  clear hbC hX hR hin hLC ho
  go_enter Try.func57, Try.ntmps57
  go_wp2_with fail
  generalize ((w.alloc (.cells LC 31)).alloc (.cells #[.string ⟨#[]⟩, .string ⟨#[]⟩, .string ⟨#[]⟩, .int .i64 0, .int .i64 0, .int .i64 0, .slice none 0 0, .slice none 0 0, .slice none 0 0, .slice none 0 0] 31)) = W0 at *
  refine (heldM d p txn W0 (Hin.out.kept D0.out) (by omega)).mono ?_
  rintro e w1 ⟨⟨k, b, hat, rfl, hb⟩, d1⟩
  have X1 := X0.out.kept d1
  have R1 := Lib.hid ((d1.block _ (lt_heap R0.out)).trans R0.out)
  have D1 := Lib.hid (bt D0.out d1)
  have hl0 := lt_heap R0.out
  have hl1 := d1.size
  have X1h := Lib.hid X1
  have HP := Lib.hid (held_pos HO.out hat)
  have HKle := hat.1
  clear b0 b1 b2 b3 b4 b5 b6 b7 b8 b9 d1 hat
  have b0 := X1.c0
  have b1 := X1.c1
  have b2 := X1.c2
  have b3 := X1.c3
  have b4 := X1.c4
  have b5 := X1.c5
  have b6 := X1.c6
  have b7 := X1.c7
  have b8 := X1.c8
  have b9 := X1.c9
  clear X1
  cases b with
  | false =>
    have hkeep : Hid (keepD d txn = d) := by
      have hno : ¬ (k < d.nH ∧ d.t k = txn) := fun h => by have := hb.out.2 h; cases this
      show _ = _
      unfold keepD
      rw [HP.out.2 hno, if_neg (by omega)]
    clear hb
    go_wp2_with (first
      | (refine wpList_store_row rfl 31 _ _ rfl (w.heap.size + 1) (LegC d p) rfl rfl 31 #[.string ⟨#[]⟩, .string ⟨#[]⟩, .string ⟨#[]⟩, .int .i64 0, .int .i64 0, .int .i64 0, .slice none 0 0, .slice none 0 0, .slice none 0 0, .slice none 0 0] R1.out legSize rfl (leg_one1 d p) ?_)
      | fail)
    have hfin : LegBox (w1.setRow (w.heap.size + 1) (LegC d p)) (w.heap.size + 1) d p := setRow_heap w1 (w.heap.size + 1) _ _ _ _ R1.out
    have gr := grown_setRow w1 (w.heap.size + 1) (LegC d p)
    have hb2 := Lib.hid (D1.out.grown gr D1.out.size (fun q e => by cases e; omega))
    clear b0 b1 b2 b3 b4 b5 b6 b7 b8 b9
    generalize w1.setRow (w.heap.size + 1) (LegC d p) = W2 at *
    have y0 := hfin.c0
    have y1 := hfin.c1
    have y2 := hfin.c2
    have y3 := hfin.c3
    have y4 := hfin.c4
    have y5 := hfin.c5
    have y6 := hfin.c6
    have y7 := hfin.c7
    have y8 := hfin.c8
    have y9 := hfin.c9
    clear hfin gr
    refine bodyPost_ret (v := LegV d p) ?_ rfl ⟨⟨p, by rw [hkeep.out], by rw [hkeep.out]; exact Hin.out.kept hb2.out, by rw [hkeep.out]; exact hcH, Moved.same _ _ _⟩, hb2.out⟩
    rw [LegV_eq]
    unfold LegC
    rw [results_cell1 rfl]
    go_simp
  | true =>
    have hyes := hb.out.1 rfl
    have hlt := hyes.1
    have hpos := Lib.hid (HP.out.1 hyes)
    have hdrop : Hid (dropD d txn = delH d k) := by
      show _ = _
      unfold dropD
      rw [hpos.out, if_pos hlt]
    clear hb hyes
    obtain ⟨m, hm3, hym, hz0', hz9⟩ : ∃ m : Nat, m < 3 ∧ d.c k = m ∧ -9 ≤ d.s k ∧ d.s k ≤ 9 := by
      have q := (HK.out.2.2.1.2 _ hlt).1
      have q2 := q.2.1
      have q3 := q.2.2.1
      have q4 := HK.out.2.1.1
      exact ⟨(d.c k).toNat, by omega, by omega, by omega, by omega⟩
    obtain ⟨bH, oH, eH, hbH, hcell⟩ := Hin.out.2.2.2.cells (by omega)
    obtain ⟨bS, oS, eS, hbS, hcS⟩ := Hin.out.2.1.cells (by have := HK.out.2.1.2.2.1; omega)
    rw [eH] at b9
    have ck0 := cell_kept D1.out hbH (hcell k hlt).1
    have ck1 := cell_kept D1.out hbH (hcell k hlt).2.1
    have ck2 := cell_kept D1.out hbH (hcell k hlt).2.2
    rw [hym] at ck1
    have KS : Hid (∀ W, Below w.heap.size w W → ∀ i, i < 3 → W.cell? ⟨bS, oS + i, none⟩ = some (.int .i64 (d.S i))) := fun W hb i hi => cell_kept hb hbS (hcS i (by have := HK.out.2.1.2.2.1; omega))
    have HE := Lib.hid eH
    have HES := Lib.hid eS
    have HY := Lib.hid hym
    have hSm := HK.out.2.1.sold.2 m hm3
    have hwz : IntKind.i64.wrap (d.S m + d.s k) = d.S m + d.s k := IntWalk.i64_in _ (by omega)
    have k1 : (k : Int) < d.nH := by omega
    have k0 : (0 : Int) ≤ k := by omega
    have m1 : (m : Int) < 3 := by omega
    have m0 : (0 : Int) ≤ m := by omega
    have hb2 := holdBelow w1 (d.t k) (m : Int) (d.s k)
    have X2 := X1h.out.kept hb2
    have R2 := Lib.hid ((hb2.block _ (lt_heap R1.out)).trans R1.out)
    have Q2 := holdBox w1 (d.t k) (m : Int) (d.s k)
    have D2 := Lib.hid (bt D1.out hb2)
    have s2 := Lib.hid (lt_heap Q2)
    have Q2h := Lib.hid Q2
    have X2h := Lib.hid X2
    have c0 := X2.c0
    have c1 := X2.c1
    have c2 := X2.c2
    have c3 := X2.c3
    have c4 := X2.c4
    have c5 := X2.c5
    have c6 := X2.c6
    have c7 := X2.c7
    have c8 := X2.c8
    have c9 := X2.c9
    clear hym eH eS hcell hcS hb2 Q2 X2
    go_wp2_with (first
      | (refine wpList_store_row rfl 35 _ _ rfl w1.heap.size #[.int .i64 (d.t k), .int .i64 (m : Int), .int .i64 (d.s k)] rfl rfl 35 #[.int .i64 0, .int .i64 0, .int .i64 0] (heap_alloc_new w1 _) holdSize rfl (hold_one _ _ _) ?_)
      | fail)
    clear c0 c1 c2 c3 c4 c5 c6 c7 c8 c9 b0 b1 b2 b3 b4 b5 b6 b7 b8 b9 ck0 ck1 ck2
    generalize ((w1.alloc (.cells #[.int .i64 0, .int .i64 0, .int .i64 0] 35)).setRow w1.heap.size #[.int .i64 (d.t k), .int .i64 (m : Int), .int .i64 (d.s k)]) = W2 at *
    have hcall := dropN d p txn W2 (Hin.out.kept D2.out) HO.out hcH
    rw [hdrop.out] at hcall
    refine hcall.mono ?_
    clear hcall
    rintro e w3 ⟨⟨a, c, rfl, hac, hin3, hown⟩, d3⟩
    have H3 := Lib.hid (hown (by rw [hpos.out]; exact hlt))
    have HAC := Lib.hid hac
    have HNA := Lib.hid (H3.out.newAt (w := w) D2.out.size)
    have X3h := Lib.hid (X2h.out.kept d3)
    have R3 := (d3.block _ (lt_heap R2.out)).trans R2.out
    have Q3 := (d3.block _ (lt_heap Q2h.out)).trans Q2h.out
    have D3 := bt D2.out d3
    have s3 := d3.size
    have s2' := s2.out
    have gr4 := grown_setRow w3 w.heap.size (LegC (delH d k) { p with aH := a, cH := c })
    have X4 : LegBox (w3.setRow w.heap.size (LegC (delH d k) { p with aH := a, cH := c })) w.heap.size (delH d k) { p with aH := a, cH := c } := setRow_heap w3 w.heap.size _ _ _ _ X3h.out
    have R4 := Lib.hid ((setRow_other w3 w.heap.size (w.heap.size + 1) (LegC (delH d k) { p with aH := a, cH := c }) (by omega)).trans R3)
    have Q4 := Lib.hid ((setRow_other w3 w.heap.size w1.heap.size (LegC (delH d k) { p with aH := a, cH := c }) (by omega)).trans Q3)
    have D4 := Lib.hid (D3.grown gr4 D3.size (fun q e => by cases e; omega))
    have H4 := Lib.hid (H3.out.far gr4 (fun q e => by cases e; left; omega))
    have s4 := gr4.size
    have e7 := (X4.kept ((Below.refl _ _).alloc (Nat.le_refl _) (.cells #[] 3))).c7
    have e7s : (Value.slice ({ p with aH := a, cH := c } : LegP).aS (delH d k).nS ({ p with aH := a, cH := c } : LegP).cS) = .slice (some ⟨bS, oS, none⟩) 3 p.cS := by
      show Value.slice p.aS d.nS p.cS = _
      rw [HES.out, HK.out.2.1.2.2.1]
    have e7' := e7.trans (congrArg some e7s)
    have X4h := Lib.hid X4
    clear X4 R3 Q3 D3 gr4 H3 hown hin3 d3 e7 e7s
    have hN4 : (w3.setRow w.heap.size (LegC (delH d k) { p with aH := a, cH := c })).heap.size = w3.heap.size := by simp
    have HN4 := Lib.hid hN4
    have s4' : w1.heap.size < w3.heap.size := by omega
    clear hN4
    go_wp2_with (first
      | (refine wpList_store_row rfl 31 _ _ rfl w.heap.size (LegC (delH d k) { p with aH := a, cH := c }) rfl rfl 31 (LegC d p) X3h.out legSize rfl (leg_one1 _ _) ?_)
      | (at_builtin; refine wpList_append_own _ rfl _ _ 22 rfl w3.heap.size 3 i0 (.int .i64 0) 1 8 Try.underlying22 hi hz0 hz1 hz2 rfl (by decide) (.slice (some ⟨w3.heap.size, 0, none⟩) 0 0) 0 [] rfl (own0 (w3.setRow w.heap.size (LegC (delH d k) { p with aH := a, cH := c })) _ HN4.out _ _) ⟨bS, oS, none⟩ 3 p.cS (newsI d.S 3) rfl (newsI_len _ _) ?_ (newsI_one _ _) ?_ ?_ ?_ ?_; exact newsI_cells (KS.out _ (D4.out.alloc D4.out.size _)); (unfold maxLen; omega); omega; (have q := HN4.out; simp only [World.size_alloc] at q ⊢; omega); intro v5 w5 ho5 hg5 _; obtain ⟨a5, c5, rfl, hc5, n5, d5⟩ := app_nums HN4.out ho5 hg5; obtain ⟨g5, hag, hBg, hgT, -, -, -⟩ := n5.setAt hm3 0; have HAG := Lib.hid hag; subst hag; have X5 := X4h.out.kept d5; have x5c := X5.c7; have x5f := X5.fr 7; have R5 := (d5.block _ (lt_heap R4.out)).trans R4.out; have Q5 := (d5.block _ (lt_heap Q4.out)).trans Q4.out; have D5 := bt D4.out d5; have H5 := H4.out.kept d5; have N5 := Lib.hid n5; have X5h := Lib.hid X5; have R5h := Lib.hid R5; have Q5h := Lib.hid Q5; have D5h := Lib.hid D5; have H5h := Lib.hid H5; have s5 := Lib.hid d5.size; clear X5 R5 Q5 D5 H5 n5 d5 ho5 hg5)
      | fail)
    clear HAG x5c x5f
    have hnS : (delH d k).nS = 3 := HK.out.2.1.2.2.1
    have X6 : LegBox (w5.setCell ⟨w.heap.size, 7, none⟩ (.slice (some ⟨g5, 0, none⟩) 3 c5)) w.heap.size (delH d k) { p with aH := a, cH := c, aS := some ⟨g5, 0, none⟩, cS := c5 } := by
      have := X5h.out.set7 (some ⟨g5, 0, none⟩) c5
      rwa [hnS] at this
    have gs6 := grown_set w5 ⟨w.heap.size, 7, none⟩ (.slice (some ⟨g5, 0, none⟩) 3 c5)
    have R6 := (set_other (Value.slice (some ⟨g5, 0, none⟩) 3 c5) (show w.heap.size + 1 ≠ w.heap.size by omega) (i := 7)).trans R5h.out
    have Q6 := (set_other (Value.slice (some ⟨g5, 0, none⟩) 3 c5) (show w1.heap.size ≠ w.heap.size by omega) (i := 7)).trans Q5h.out
    have D6 := D5h.out.setCell (p := ⟨w.heap.size, 7, none⟩) (Nat.le_refl _) (.slice (some ⟨g5, 0, none⟩) 3 c5)
    have H6 := H5h.out.far gs6 (fun q e => by cases e; left; show w.heap.size < _; omega)
    have N6 := N5.out.far gs6 (fun q e => by cases e; left; show w.heap.size < _; omega)
    clear gs6 X5h R5h Q5h D5h H5h N5 X4h R4 Q4 D4 H4 e7' X3h X2h R2 Q2h X1h
    have e6 := X6.c7.trans (congrArg some (show Value.slice (some ⟨g5, 0, none⟩) (delH d k).nS c5 = .slice (some ⟨g5, 0, none⟩) 3 c5 by rw [hnS]))
    obtain ⟨u0, u1, u2⟩ := row3 Q6
    have hlo : w3.heap.size ≤ g5 := by omega
    clear hnS hBg HN4 s5
    generalize (w5.setCell ⟨w.heap.size, 7, none⟩ (.slice (some ⟨g5, 0, none⟩) 3 c5)) = W6 at *
    obtain ⟨g', hag', hB', hT', cS, fS, N7⟩ := N6.setAt hm3 (d.S m + d.s k)
    have hgg := (Addr.mk.inj (Option.some.inj hag')).1
    subst hgg
    have X7h : Hid (LegBox ((W6.setCell ⟨g5, m, none⟩ (.int .i64 (d.S m + d.s k))).drew) w.heap.size (delH d k) { p with aH := a, cH := c, aS := some ⟨g5, 0, none⟩, cS := c5 }) := ((set_other _ (by omega)).trans X6 : (W6.setCell ⟨g5, m, none⟩ (.int .i64 (d.S m + d.s k))).heap[w.heap.size]? = _)
    have R7h : Hid (((W6.setCell ⟨g5, m, none⟩ (.int .i64 (d.S m + d.s k))).drew).heap[w.heap.size + 1]? = some (.cells #[.string ⟨#[]⟩, .string ⟨#[]⟩, .string ⟨#[]⟩, .int .i64 0, .int .i64 0, .int .i64 0, .slice none 0 0, .slice none 0 0, .slice none 0 0, .slice none 0 0] 31 (0, 0))) := ((set_other _ (by omega)).trans R6 : (W6.setCell ⟨g5, m, none⟩ (.int .i64 (d.S m + d.s k))).heap[w.heap.size + 1]? = _)
    have D7 := Lib.hid ((D6.setCell (p := ⟨g5, m, none⟩) (by show w.heap.size ≤ g5; omega) (.int .i64 (d.S m + d.s k))).drew)
    have H7 := Lib.hid ((H6.far (grown_set W6 ⟨g5, m, none⟩ (.int .i64 (d.S m + d.s k))) (fun q e => by cases e; right; show _ ≤ g5; omega)).kept (Below.refl _ _).drew)
    have N7h := Lib.hid (N7.kept (Below.refl _ _).drew)
    clear X6 R6 Q6 D6 H6 N6 N7 hag' hB' hT'
    try go_frame
    go_region
    all_goals
      have X7 := X7h.out
      clear cS fS e6 u0 u1 u2
      have r0 := X7.c0
      have r1 := X7.c1
      have r2 := X7.c2
      have r3 := X7.c3
      have r4 := X7.c4
      have r5 := X7.c5
      have r6 := X7.c6
      have r7 := X7.c7
      have r8 := X7.c8
      have r9 := X7.c9
      clear X7
      generalize ((W6.setCell ⟨g5, m, none⟩ (.int .i64 (d.S m + d.s k))).drew) = W7 at *
      go_wp2_with (first
        | (refine wpList_store_row rfl 31 _ _ rfl (w.heap.size + 1) (LegC (delH d k) { p with aH := a, cH := c, aS := some ⟨g5, 0, none⟩, cS := c5 }) rfl rfl 31 #[.string ⟨#[]⟩, .string ⟨#[]⟩, .string ⟨#[]⟩, .int .i64 0, .int .i64 0, .int .i64 0, .slice none 0 0, .slice none 0 0, .slice none 0 0, .slice none 0 0] R7h.out legSize rfl (leg_one1 _ _) ?_)
        | fail)
      clear r0 r1 r2 r3 r4 r5 r6 r7 r8 r9
      have hfin : LegBox (W7.setRow (w.heap.size + 1) (LegC (delH d k) { p with aH := a, cH := c, aS := some ⟨g5, 0, none⟩, cS := c5 })) (w.heap.size + 1) (delH d k) { p with aH := a, cH := c, aS := some ⟨g5, 0, none⟩, cS := c5 } := setRow_heap W7 (w.heap.size + 1) _ _ _ _ R7h.out
      have gr := grown_setRow W7 (w.heap.size + 1) (LegC (delH d k) { p with aH := a, cH := c, aS := some ⟨g5, 0, none⟩, cS := c5 })
      have hb8 := Lib.hid (D7.out.grown gr D7.out.size (fun q e => by cases e; omega))
      have H8 := Lib.hid (H7.out.far gr (fun q e => by cases e; left; omega)).holds
      have N8 := Lib.hid (N7h.out.far gr (fun q e => by cases e; left; omega)).nums
      generalize W7.setRow (w.heap.size + 1) (LegC (delH d k) { p with aH := a, cH := c, aS := some ⟨g5, 0, none⟩, cS := c5 }) = W8 at *
      have y0 := hfin.c0
      have y1 := hfin.c1
      have y2 := hfin.c2
      have y3 := hfin.c3
      have y4 := hfin.c4
      have y5 := hfin.c5
      have y6 := hfin.c6
      have y7 := hfin.c7
      have y8 := hfin.c8
      have y9 := hfin.c9
      clear hfin gr
      have hks : LegSame { (delH d k) with S := fun i => if i = m then (delH d k).S m + d.s k else (delH d k).S i } (keepD d txn) := keep_same (m := m) (y := d.c k) (z := d.s k) (D := (delH d k)) (by rw [hdrop.out]; exact LegSame.refl _) HY.out (.inl ⟨by rw [hpos.out]; exact hlt, by rw [hpos.out], by rw [hpos.out]⟩)
      have hV : LegV (delH d k) { p with aH := a, cH := c, aS := some ⟨g5, 0, none⟩, cS := c5 } = LegV (keepD d txn) { p with aH := a, cH := c, aS := some ⟨g5, 0, none⟩, cS := c5 } := LegV.same hks { p with aH := a, cH := c, aS := some ⟨g5, 0, none⟩, cS := c5 }
      have HMV : Hid (Moved w (keepD d txn).nH p { p with aH := a, cH := c, aS := some ⟨g5, 0, none⟩, cS := c5 }) := ⟨rfl, rfl, .inr (fun x hx => by cases hx; show w.heap.size ≤ g5; omega), by rw [← hks.nH]; exact .inr HNA.out⟩
      have hI : LegIn W8 (keepD d txn) { p with aH := a, cH := c, aS := some ⟨g5, 0, none⟩, cS := c5 } := LegIn.same (a := { (delH d k) with S := fun i => if i = m then (delH d k).S m + d.s k else (delH d k).S i }) ⟨(Hin.out.kept hb8.out).1, N8.out.same HK.out.2.1.2.2.1.symm (fun _ _ => rfl), (Hin.out.kept hb8.out).2.2.1, H8.out⟩ hks
      refine bodyPost_ret (v := LegV (delH d k) { p with aH := a, cH := c, aS := some ⟨g5, 0, none⟩, cS := c5 }) ?_ rfl ⟨⟨{ p with aH := a, cH := c, aS := some ⟨g5, 0, none⟩, cS := c5 }, by rw [hV], hI, by rw [← hks.nH]; exact HAC.out, HMV.out⟩, hb8.out⟩
      rw [LegV_eq]
      unfold LegC
      rw [results_cell1 rfl]
      go_simp
      all_goals exact hV
end Go.Proofs.Ytmlkjlipjkmcfaa
