/-
  The law that holds the program's LegRead against the model's.
-/
import Derived.Test.YtlfmhhdlandcjaaGreatDoorLegReadM
namespace Go.Proofs.YtlfmhhdlandcjaaGreatDoor
open Go.RowKit
set_option linter.unusedVariables false
set_option linter.unusedSimpArgs false

def GotL (s : ByteArray) (b : Bool) (d : LegD) : Prop := (b = false ∧ ¬ IsLegT s ∧ d = zeroD) ∨ (b = true ∧ ∃ x, d = leg8D x ∧ OkLeg (leg8D x) ∧ legB (leg8D x) = s)
theorem got_one {s : ByteArray} {b b' : Bool} {d d' : LegD} (h : GotL s b d) (h' : GotL s b' d') : b = b' ∧ d = d' := by
  rcases h with ⟨rfl, a, rfl⟩ | ⟨rfl, x, rfl, a1, a2⟩ <;> rcases h' with ⟨rfl, c, rfl⟩ | ⟨rfl, y, rfl, c1, c2⟩
  · exact ⟨rfl, rfl⟩
  · exact absurd ⟨_, c1, c2⟩ a
  · exact absurd ⟨_, a1, a2⟩ c
  · rw [leg_uniq a1 c1 (a2.trans c2.symm)]; exact ⟨rfl, rfl⟩
theorem got_fits {s : ByteArray} {b : Bool} {d : LegD} (h : GotL s b d) : Fits d := by
  rcases h with ⟨-, -, rfl⟩ | ⟨-, x, rfl, h, -⟩
  · exact ⟨Nat.zero_le _, Nat.zero_le _, Nat.zero_le _, Nat.zero_le _, Nat.zero_le _, Nat.zero_le _, Nat.zero_le _⟩
  · have z := h.sizes
    have q := parts_of h
    have l1 := q.nL
    have l2 := q.nS
    have l3 := q.mB
    exact ⟨Nat.le_trans z.n1 (by omega), Nat.le_trans z.n2 (by omega), Nat.le_trans z.n3 (by omega), show x.ll.length ≤ _ by omega, show x.ls.length ≤ _ by omega, show x.lb.length ≤ _ by omega, Nat.zero_le _⟩
theorem leg_oneL (d : LegD) (p : LegP) : (LegC d p).all (·.oneCell') = true := by simp [LegC, Value.oneCell']
def GotI (s : ByteArray) (w : World) (e : Ending) (w' : World) : Prop := ∃ (b : Bool) (d : LegD) (p : LegP), e = .returned (.tuple #[LegV d p, .bool b]) ∧ Hid (GotL s b d) ∧ LegNew w.heap.size w' d p ∧ Below w.heap.size w w'
def GotM (s : ByteArray) (w : World) (e : Ending) (w' : World) : Prop := ∃ (b : Bool) (d : LegD) (p : LegP), e = .returned (.tuple #[LegV d p, .bool b]) ∧ Hid (GotL s b d) ∧ LegIn w' d p ∧ Below w.heap.size w w'
theorem gotI_of {s : ByteArray} {w : World} {e : Ending} {w' : World} (h : ReadPostL s w e w') : GotI s w e w' := by
  obtain ⟨hb, ⟨hn, rfl⟩ | ⟨x, q, hg, rfl, ho⟩⟩ := h
  · exact ⟨false, zeroD, zeroP, rfl, Or.inl ⟨rfl, hn.out, rfl⟩, ⟨⟨Nat.le_refl _, Nat.le_refl _, Nat.le_refl _, Nat.le_refl _⟩, w.heap.size, w.heap.size, w.heap.size, w.heap.size, Nat.le_refl _, Nat.le_refl _, Nat.le_refl _, Nat.le_refl _, hb.size, .inl rfl, .inl rfl, .inl rfl, .inl rfl⟩, hb⟩
  · exact ⟨true, leg8D x, plP q, rfl, Or.inr ⟨rfl, x, rfl, hg.out.1, hg.out.2⟩, ho.new, hb⟩
theorem gotM_of {s : ByteArray} {w : World} {e : Ending} {w' : World} (h : SPostL s w e w') : GotM s w e w' := by
  obtain ⟨hb, ⟨hn, rfl⟩ | ⟨x, q, hg, rfl, ho⟩⟩ := h
  · exact ⟨false, zeroD, zeroP, rfl, Or.inl ⟨rfl, hn.out, rfl⟩, ⟨.inl rfl, .inl rfl, .inl rfl, .inl rfl⟩, hb⟩
  · exact ⟨true, leg8D x, plP q, rfl, Or.inr ⟨rfl, x, rfl, hg.out.1, hg.out.2⟩, ho, hb⟩
theorem legCells {W : World} {k : Nat} {d : LegD} {p : LegP} (h : W.heap[k]? = some (.cells (LegC d p) 25 (0, 0))) :
    W.cell? ⟨k, 0, none⟩ = some (.string d.name) ∧ W.cell? ⟨k, 1, none⟩ = some (.string d.fr) ∧ W.cell? ⟨k, 2, none⟩ = some (.string d.to) ∧ W.cell? ⟨k, 3, none⟩ = some (.int .i64 d.dep) ∧ W.cell? ⟨k, 4, none⟩ = some (.int .i64 d.arr) ∧ W.cell? ⟨k, 5, none⟩ = some (.int .i64 d.cap) ∧ W.cell? ⟨k, 6, none⟩ = some (.slice p.aL d.nL p.cL) ∧ W.cell? ⟨k, 7, none⟩ = some (.slice p.aS d.nS p.cS) ∧ W.cell? ⟨k, 8, none⟩ = some (.slice p.aB d.nB p.cB) ∧ W.cell? ⟨k, 9, none⟩ = some (.slice p.aH d.nH p.cH) := by
  refine ⟨?_, ?_, ?_, ?_, ?_, ?_, ?_, ?_, ?_, ?_⟩ <;> (rw [Lib.cell_of_heap h]; rfl)
/-- Storing a leg into a new box. -/
theorem leg_box (w : World) (d : LegD) (p : LegP) : Below w.heap.size w ((w.alloc (.cells (rowG ⟨#[]⟩ ⟨#[]⟩ ⟨#[]⟩ 0 0 0 (.slice none 0 0) (.slice none 0 0) (.slice none 0 0)) 25)).setRow w.heap.size (LegC d p)) ∧ ((w.alloc (.cells (rowG ⟨#[]⟩ ⟨#[]⟩ ⟨#[]⟩ 0 0 0 (.slice none 0 0) (.slice none 0 0) (.slice none 0 0)) 25)).setRow w.heap.size (LegC d p)).heap[w.heap.size]? = some (.cells (LegC d p) 25 (0, 0)) :=
  ⟨below_row ((Below.refl _ _).alloc (Nat.le_refl _) _) (by simp) (Nat.le_refl _) (grown_setRow _ _ _), setRow_heap _ _ _ _ _ _ (heap_alloc_new w _)⟩
set_option maxRecDepth 100000 in
set_option maxHeartbeats 8000000 in
theorem exactLegRead (s : ByteArray) (w : World) (hm : s.size ≤ maxLen) (hL : LaidE w) :
    Calls Tryz.prog 3 #[.string s] w fun e w' => e = .returned (.bool true) ∧ Below w.heap.size w w' := by
  unfold maxLen at hm
  rcases Nat.lt_or_ge 1048576 s.size with c | c
  · go_enter Tryz.func3, Tryz.ntmps3
    go_wp2
    go_ret
    exact ⟨rfl, Below.refl _ _⟩
  have HL := Lib.hid hL
  clear hL
  go_enter Tryz.func3, Tryz.ntmps3
  go_wp2_with fail
  refine ((readML s w c).mono fun e w' h => gotM_of h).mono ?_
  rintro e w1 ⟨b, d, p1, rfl, hg1, hs1, hb1⟩
  have HFt := Lib.hid (got_fits hg1.out)
  have HG := Lib.hid hg1.out
  obtain ⟨mk, hmv⟩ : ∃ mk, markN d 1 = mk := ⟨_, rfl⟩
  have HMV := Lib.hid hmv
  have hmk : 0 ≤ mk := by rw [← hmv]; unfold markN; omega
  clear hmv
  obtain ⟨t1, t2⟩ := leg_box w1 d p1
  have HS1 := Lib.hid (hs1.kept t1)
  have HB1 := Lib.hid (bt hb1 t1)
  have HX1 := Lib.hid t2
  have HZ1 := Lib.hid (heap_alloc_new w1 (.cells (rowG ⟨#[]⟩ ⟨#[]⟩ ⟨#[]⟩ 0 0 0 (.slice none 0 0) (.slice none 0 0) (.slice none 0 0)) 25))
  have HLw := Lib.hid (laidE_stays HL.out HB1.out)
  have R1 := Lib.hid (readIL s _ c HLw.out)
  clear hg1 hs1 hb1 t1 t2
  unfold LegV
  go_wp2_with (first
    | (refine wpList_store_row rfl 25 _ _ rfl w1.heap.size (LegC d p1) rfl rfl 25 (rowG ⟨#[]⟩ ⟨#[]⟩ ⟨#[]⟩ 0 0 0 (.slice none 0 0) (.slice none 0 0) (.slice none 0 0)) HZ1.out legSize rfl (leg_oneL d p1) ?_)
    | fail)
  generalize (w1.alloc (.cells (rowG ⟨#[]⟩ ⟨#[]⟩ ⟨#[]⟩ 0 0 0 (.slice none 0 0) (.slice none 0 0) (.slice none 0 0)) 25)).setRow w1.heap.size (LegC d p1) = w2 at *
  have hk1 : w1.heap.size < w2.heap.size := lt_heap HX1.out
  have hz02 : w.heap.size ≤ w2.heap.size := HB1.out.size
  generalize w1.heap.size = k1 at *
  refine (R1.out.mono fun e w' h => gotI_of h).mono ?_
  rintro e w3 ⟨b', d', p2, rfl, hg2, hn2, hb2⟩
  obtain ⟨rfl, rfl⟩ := got_one HG.out hg2.out
  obtain ⟨t1, t2⟩ := leg_box w3 d p2
  have X1 := ((bt hb2 t1).block _ hk1).trans HX1.out
  have HX1b := Lib.hid X1
  have HS1b := Lib.hid (HS1.out.kept (bt hb2 t1))
  have HN2 := Lib.hid (hn2.toT.kept t1)
  have HS2 := Lib.hid (hn2.leg.kept t1)
  have HB2 := Lib.hid (bt HB1.out (bt hb2 t1))
  have HX2 := Lib.hid t2
  have HZ2 := Lib.hid (heap_alloc_new w3 (.cells (rowG ⟨#[]⟩ ⟨#[]⟩ ⟨#[]⟩ 0 0 0 (.slice none 0 0) (.slice none 0 0) (.slice none 0 0)) 25))
  have HD2 := Lib.hid (bt hb2 t1)
  have hz23 : w2.heap.size ≤ w3.heap.size := hb2.size
  obtain ⟨u0, u1, u2, u3, u4, u5, u6, u7, u8, u9⟩ := legCells (X1)
  obtain ⟨v0, v1, v2, v3, v4, v5, v6, v7, v8, v9⟩ := legCells (t2)
  clear hg2 hn2 hb2 t1 t2 X1 R1 HX1 HZ1 HB1 HLw
  unfold LegV
  go_wp2_with (first
    | (refine wpList_store_row rfl 25 _ _ rfl w3.heap.size (LegC d p2) rfl rfl 25 (rowG ⟨#[]⟩ ⟨#[]⟩ ⟨#[]⟩ 0 0 0 (.slice none 0 0) (.slice none 0 0) (.slice none 0 0)) HZ2.out legSize rfl (leg_oneL d p2) ?_)
    | fail)
  generalize (w3.alloc (.cells (rowG ⟨#[]⟩ ⟨#[]⟩ ⟨#[]⟩ 0 0 0 (.slice none 0 0) (.slice none 0 0) (.slice none 0 0)) 25)).setRow w3.heap.size (LegC d p2) = w4 at *
  have hk3 : w3.heap.size < w4.heap.size := lt_heap HX2.out
  have hk13 : k1 < w4.heap.size := lt_heap HX1b.out
  generalize w3.heap.size = k3 at *
  clear HZ2
  refine (eqLegS d p2 p1 _ HS2.out HS1b.out HFt.out).mono ?_
  rintro e w5 ⟨rfl, hb5⟩
  have M5 := Lib.hid (markLegI w2.heap.size k3 d p2 1 w5 (HN2.out.kept hb5) HFt.out (by omega) (by omega))
  rw [HMV.out] at M5
  have X3 := (hb5.block _ hk3).trans HX2.out
  have HX3 := Lib.hid X3
  have HX1c := Lib.hid ((hb5.block _ hk13).trans HX1b.out)
  have HB5 := Lib.hid (bt HB2.out hb5)
  have HD5 := Lib.hid (HD2.out.trans (hb5.mono (HD2.out.size)))
  have hz45 : w4.heap.size ≤ w5.heap.size := hb5.size
  clear u0 u1 u2 u3 u4 u5 u6 u7 u8 u9 v0 v1 v2 v3 v4 v5 v6 v7 v8 v9
  obtain ⟨v0, v1, v2, v3, v4, v5, v6, v7, v8, v9⟩ := legCells (X3)
  clear X3 hb5
  go_wp2_with fail
  refine M5.out.mono ?_
  rintro e w6 ⟨rfl, hk6, hin6⟩
  have hb6 := hk6.below (show w2.heap.size ≤ w5.heap.size by omega)
  have X3 := (hk6.block k3 (by omega) (Or.inr (Nat.le_refl _))).trans HX3.out
  have X1 := (hk6.block k1 (by omega) (Or.inl hk1)).trans HX1c.out
  have HX36 := Lib.hid X3
  have HX16 := Lib.hid X1
  have HD6 := Lib.hid (HD5.out.trans hb6)
  have HS16 := Lib.hid (HS1.out.kept HD6.out)
  have HH6 := Lib.hid hin6
  have HB6 := Lib.hid (HB5.out.trans (hb6.mono hz02))
  have K6 := Lib.hid (heldLegI d p2 1 w6 hin6 HFt.out (by omega) (by omega))
  rw [HMV.out] at K6
  clear v0 v1 v2 v3 v4 v5 v6 v7 v8 v9
  obtain ⟨v0, v1, v2, v3, v4, v5, v6, v7, v8, v9⟩ := legCells (X3)
  have hz6 : w5.heap.size ≤ w6.heap.size := hk6.size
  clear hk6 hin6 hb6 X3 X1 M5 HX3 HX1c HS1b HS2 HN2 HX2 HX1b
  go_wp2_with fail
  refine K6.out.mono ?_
  rintro e w7 ⟨rfl, hb7⟩
  have g0 : decide (mk < 0) = false := decide_eq_false (by omega)
  have HB7 := Lib.hid (bt HB6.out hb7)
  have HX37 := Lib.hid ((hb7.block k3 (by omega)).trans HX36.out)
  have HX17 := Lib.hid ((hb7.block k1 (by omega)).trans HX16.out)
  have HS17 := Lib.hid (HS16.out.kept hb7)
  have HH7 := Lib.hid (HH6.out.kept hb7)
  have R7 := Lib.hid (readIL s w7 c (laidE_stays HL.out HB7.out))
  have hz7 : w6.heap.size ≤ w7.heap.size := hb7.size
  clear hb7 K6 v0 v1 v2 v3 v4 v5 v6 v7 v8 v9 HX36 HX16 HS16 HH6 HB6
  go_wp2_with fail
  refine (R7.out.mono fun e w' h => gotI_of h).mono ?_
  rintro e w8 ⟨b', d', p3, rfl, hg3, hn3, hb8⟩
  obtain ⟨rfl, rfl⟩ := got_one HG.out hg3.out
  obtain ⟨t1, t2⟩ := leg_box w8 d p3
  have X1 := ((bt hb8 t1).block k1 (by omega)).trans HX17.out
  have X3 := ((bt hb8 t1).block k3 (by omega)).trans HX37.out
  have HX3b := Lib.hid X3
  have HS1b := Lib.hid (HS17.out.kept (bt hb8 t1))
  have HS3 := Lib.hid (hn3.leg.kept t1)
  have HH8 := Lib.hid (HH7.out.kept (bt hb8 t1))
  have HB8 := Lib.hid (bt HB7.out (bt hb8 t1))
  have HX2 := Lib.hid t2
  have HZ2 := Lib.hid (heap_alloc_new w8 (.cells (rowG ⟨#[]⟩ ⟨#[]⟩ ⟨#[]⟩ 0 0 0 (.slice none 0 0) (.slice none 0 0) (.slice none 0 0)) 25))
  obtain ⟨u0, u1, u2, u3, u4, u5, u6, u7, u8, u9⟩ := legCells (X1)
  obtain ⟨v0, v1, v2, v3, v4, v5, v6, v7, v8, v9⟩ := legCells (t2)
  have hz8 : w7.heap.size ≤ w8.heap.size := hb8.size
  clear hg3 hn3 hb8 t1 t2 X1 X3 R7 HX37 HX17 HS17 HH7 HB7 g0
  unfold LegV
  go_wp2_with (first
    | (refine wpList_store_row rfl 25 _ _ rfl w8.heap.size (LegC d p3) rfl rfl 25 (rowG ⟨#[]⟩ ⟨#[]⟩ ⟨#[]⟩ 0 0 0 (.slice none 0 0) (.slice none 0 0) (.slice none 0 0)) HZ2.out legSize rfl (leg_oneL d p3) ?_)
    | fail)
  generalize (w8.alloc (.cells (rowG ⟨#[]⟩ ⟨#[]⟩ ⟨#[]⟩ 0 0 0 (.slice none 0 0) (.slice none 0 0) (.slice none 0 0)) 25)).setRow w8.heap.size (LegC d p3) = w9 at *
  have hk9 : w8.heap.size < w9.heap.size := lt_heap HX2.out
  generalize w8.heap.size = k8 at *
  clear HZ2
  refine (eqLegS d p3 p1 _ HS3.out HS1b.out HFt.out).mono ?_
  rintro e wa ⟨rfl, hba⟩
  have K9 := Lib.hid (heldLegI d p2 1 wa (HH8.out.kept hba) HFt.out (by omega) (by omega))
  rw [HMV.out] at K9
  have X3 := (hba.block k3 (by omega)).trans HX3b.out
  have HBa := Lib.hid (bt HB8.out hba)
  clear u0 u1 u2 u3 u4 u5 u6 u7 u8 u9 v0 v1 v2 v3 v4 v5 v6 v7 v8 v9
  obtain ⟨v0, v1, v2, v3, v4, v5, v6, v7, v8, v9⟩ := legCells (X3)
  clear X3 hba
  go_wp2_with fail
  refine K9.out.mono ?_
  rintro e wb ⟨rfl, hbb⟩
  have g0 : decide (mk < 0) = false := decide_eq_false (by omega)
  have HBb := Lib.hid (bt HBa.out hbb)
  clear hbb
  go_wp2
  go_ret
  exact ⟨rfl, HBb.out⟩
end Go.Proofs.YtlfmhhdlandcjaaGreatDoor
