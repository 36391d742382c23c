/-
  The law that holds the program's TripRead against the model's.
-/
import Derived.Test.YtlfmhhdlandcjaaDoorTripReadM
import Derived.Test.YtlfmhhdlandcjaaDoorMarkStrR
namespace Go.Proofs.YtlfmhhdlandcjaaDoor
open Go.RowKit
set_option linter.unusedVariables false
set_option linter.unusedSimpArgs false

def Got (s : ByteArray) (b : Bool) (ss : List ByteArray) (f : ByteArray) (n : Int) : Prop := (b = false ∧ ¬ IsTripT s ∧ ss = [] ∧ f = ⟨#[]⟩ ∧ n = 0) ∨ (b = true ∧ FormOk ss f n ∧ tripT ss f n = s.data.toList)
theorem got_one {s : ByteArray} {b b' : Bool} {ss ss' : List ByteArray} {f f' : ByteArray} {n n' : Int} (h : Got s b ss f n) (h' : Got s b' ss' f' n') : b = b' ∧ ss = ss' ∧ f = f' ∧ n = n' := by
  rcases h with ⟨rfl, a, rfl, rfl, rfl⟩ | ⟨rfl, a1, a2⟩ <;> rcases h' with ⟨rfl, c, rfl, rfl, rfl⟩ | ⟨rfl, c1, c2⟩
  · exact ⟨rfl, rfl, rfl, rfl⟩
  · exact absurd ⟨_, _, _, c1, c2⟩ a
  · exact absurd ⟨_, _, _, a1, a2⟩ c
  · obtain ⟨e1, e2, e3⟩ := trip_uniq a1 c1 (a2.trans c2.symm)
    exact ⟨rfl, e1, e2, e3⟩
theorem got_few {s : ByteArray} {b : Bool} {ss : List ByteArray} {f : ByteArray} {n : Int} (h : Got s b ss f n) : ss.length ≤ 1048576 := by
  rcases h with ⟨-, -, rfl, -, -⟩ | ⟨-, h, -⟩
  · simp
  · have := h.2.1; omega
theorem strsW_own {w : World} {B e : Nat} {a : Option Addr} {len cap : Nat} {ss : List ByteArray} (h : w.ownsRow B e 1 (.slice a len cap) len (ss.map Value.string)) (hl : ss.length = len) : StrsW B w a len := by
  by_cases h0 : len = 0
  · exact Or.inl h0
  · obtain ⟨g, c, e1, hB, hg⟩ := h.form (by omega)
    obtain ⟨rfl, -, -⟩ : a = some ⟨g, 0, none⟩ ∧ len = len ∧ cap = c := by simpa using e1
    refine Or.inr ⟨g, rfl, hB, hg, fun i hi => ⟨⟨ss.getD i ByteArray.empty, ?_⟩, h.frozenAt i⟩⟩
    rw [h.cellAt i (by omega)]
    simp [hl, hi]
set_option maxHeartbeats 1000000 in
theorem markStrs0 (a : Option Addr) (len cap : Nat) (w : World) (h : len = 0) :
    Calls Tryd.prog 38 #[.slice a len cap, .int .i64 1] w fun e w' => e = .returned (.int .i64 (1 + len)) ∧ w' = w := by
  have hle : len ≤ 0 := by omega
  have HP : Hid (Ending.returned (.int .i64 1) = .returned (.int .i64 (1 + len))) := by show _ = _; rw [h]; simp
  clear h
  go_enter Tryd.func38, Tryd.ntmps38
  go_wp2_with fail
  go_loopw [5, 1] (fun i v wr => i = .int .i64 0 ∧ v = .int .i64 1 ∧ wr = w) (fun i _ _ => 0)
  case atStart => exact ⟨rfl, rfl, rfl⟩
  case round =>
    obtain ⟨rfl, rfl, rfl⟩ := hrel
    go_wp2
    go_ret
    exact ⟨HP.out, rfl⟩
theorem markStrs1 (B : Nat) (a : Option Addr) (len cap : Nat) (w : World) (h : StrsW B w a len) (hl : len ≤ 1048576) :
    Calls Tryd.prog 38 #[.slice a len cap, .int .i64 1] w fun e w' => e = .returned (.int .i64 (1 + len)) ∧ (len = 0 ∧ w' = w ∨ 0 < len ∧ ∃ g, a = some ⟨g, 0, none⟩ ∧ B ≤ g ∧ g < w.heap.size ∧ w.grownBy w' (some g) ∧ Marked w' g len 1) := by
  rcases Nat.eq_zero_or_pos len with h0 | h0
  · refine (markStrs0 a len cap w h0).mono ?_
    rintro e w' ⟨e1, rfl⟩
    exact ⟨e1, Or.inl ⟨h0, rfl⟩⟩
  · refine (markStrs B a len cap 1 w h hl (by omega) (by omega)).mono ?_
    rintro e w' ⟨e1, h | h⟩
    · omega
    · exact ⟨e1, Or.inr ⟨h0, h⟩⟩
theorem heldStrs1 (a : Option Addr) (len cap : Nat) (w : World) (h : len = 0 ∨ ∃ g, a = some ⟨g, 0, none⟩ ∧ g < w.heap.size ∧ Marked w g len 1) (hl : len ≤ 1048576) :
    Calls Tryd.prog 39 #[.slice a len cap, .int .i64 1] w fun e w' => e = .returned (.int .i64 (1 + len)) ∧ Below w.heap.size w w' :=
  heldStrs a len cap 1 w h hl (by omega) (by omega)
theorem Marked.kept {w w' : World} {g len k0 : Nat} (h : Marked w g len k0) (hg : g < w.heap.size) (hb : Below w.heap.size w w') : Marked w' g len k0 := fun i hi => (hb.cell (p := ⟨g, i, none⟩) hg).trans (h i hi)
def Held (w : World) (a : Option Addr) (len : Nat) : Prop := len = 0 ∨ ∃ g, a = some ⟨g, 0, none⟩ ∧ g < w.heap.size ∧ Marked w g len 1
theorem Held.kept {w w' : World} {a : Option Addr} {len : Nat} (h : Held w a len) (hb : Below w.heap.size w w') : Held w' a len := by
  rcases h with h | ⟨g, h1, h2, h3⟩
  · exact Or.inl h
  · exact Or.inr ⟨g, h1, Nat.lt_of_lt_of_le h2 hb.size, h3.kept h2 hb⟩
theorem StrsW.kept {B : Nat} {w w' : World} {a : Option Addr} {len : Nat} (h : StrsW B w a len) (hb : Below w.heap.size w w') : StrsW B w' a len := by
  rcases h with h | ⟨g, h1, h2, h3, h4⟩
  · exact Or.inl h
  · refine Or.inr ⟨g, h1, h2, Nat.lt_of_lt_of_le h3 hb.size, fun i hi => ?_⟩
    obtain ⟨⟨u, hu⟩, hf⟩ := h4 i hi
    exact ⟨⟨u, (hb.cell (p := ⟨g, i, none⟩) h3).trans hu⟩, (hb.frozen (p := ⟨g, i, none⟩) h3).trans hf⟩
def GotPost (s : ByteArray) (w : World) (e : Ending) (w' : World) : Prop :=
  ∃ (b : Bool) (ss : List ByteArray) (f : ByteArray) (n : Int) (a : Option Addr) (cap : Nat), e = .returned (.tuple #[.agg #[.slice a ss.length cap, .string f, .int .i64 n], .bool b]) ∧ Hid (Got s b ss f n) ∧ Strs w' a ss.length ss ∧ StrsW w.heap.size w' a ss.length ∧ Below w.heap.size w w'
theorem got_of {s : ByteArray} {w : World} {e : Ending} {w' : World} (h : ReadPostT s w e w') : GotPost s w e w' := by
  obtain ⟨hb, ⟨hn, rfl⟩ | ⟨ss, f, n, g, cap, hg, rfl, ho⟩⟩ := h
  · exact ⟨false, [], ⟨#[]⟩, 0, none, 0, rfl, Or.inl ⟨rfl, hn.out, rfl, rfl, rfl⟩, ⟨rfl, Or.inl rfl⟩, Or.inl rfl, hb⟩
  · exact ⟨true, ss, f, n, _, cap, rfl, Or.inr ⟨rfl, hg.out⟩, strs_own ho, strsW_own (by rw [← cellsS_map]; exact ho) rfl, hb⟩
set_option maxHeartbeats 1000000 in
theorem markTripI (B : Nat) (a : Option Addr) (len cap : Nat) (f : ByteArray) (n : Int) (w : World) (h : StrsW B w a len) (hl : len ≤ 1048576) (hB : B ≤ w.heap.size) (w0 : World) (h0 : Below B w0 w) :
    Calls Tryd.prog 15 #[.agg #[.slice a len cap, .string f, .int .i64 n], .int .i64 1] w fun e w' => e = .returned (.int .i64 (1 + len)) ∧ Held w' a len ∧ Below B w0 w' ∧ ∃ row, w.grownBy w' row ∧ ∀ g, row = some g → B ≤ g ∧ ∃ u, w.cell? ⟨g, 0, none⟩ = some (.string u) := by
  have hA : Below w.heap.size w (w.alloc (.cells #[.slice a len cap, .string f, .int .i64 n] 33)) := (Below.refl _ _).alloc (Nat.le_refl _) _
  have HS := Lib.hid h
  have HH := Lib.hid (h.kept hA)
  have HA := Lib.hid hA
  have H0 := Lib.hid h0
  clear h hA h0
  go_enter Tryd.func15, Tryd.ntmps15
  go_wp2_with fail
  refine (markStrs1 B a len cap _ HH.out hl).mono ?_
  rintro e w1 ⟨rfl, hm⟩
  have hfin : Hid (Held w1 a len ∧ Below B w0 w1 ∧ ∃ row, w.grownBy w1 row ∧ ∀ g, row = some g → B ≤ g ∧ ∃ u, w.cell? ⟨g, 0, none⟩ = some (.string u)) := by
    rcases hm with ⟨e, rfl⟩ | ⟨hl0, g, rfl, h1, h2, hg, hk⟩
    · exact ⟨Or.inl e, H0.out.trans (HA.out.mono hB), none, ⟨HA.out.os, HA.out.tape, HA.out.output, HA.out.size, fun i hi _ => HA.out.block i hi⟩, fun g e => by cases e⟩
    · have HN := Lib.hid (show ∃ u, w.cell? ⟨g, 0, none⟩ = some (.string u) from by
        rcases HS.out with e | ⟨g', e, _, _, h4⟩
        · omega
        · cases e; exact (h4 0 hl0).1)
      refine ⟨Or.inr ⟨g, rfl, Nat.lt_of_lt_of_le h2 hg.size, hk⟩, below_row (H0.out.trans (HA.out.mono hB)) (Nat.le_trans hB HA.out.size) h1 hg, some g, ⟨hg.os.trans HA.out.os, hg.tape.trans HA.out.tape, hg.output.trans HA.out.output, Nat.le_trans HA.out.size hg.size, fun i hi hne => (hg.block i (Nat.lt_of_lt_of_le hi HA.out.size) hne).trans (HA.out.block i hi)⟩, fun y e => by cases e; exact ⟨h1, HN.out⟩⟩
  clear hm
  go_wp2
  go_ret
  exact ⟨rfl, hfin.out⟩
set_option maxHeartbeats 1000000 in
theorem heldTripI (a : Option Addr) (len cap : Nat) (f : ByteArray) (n : Int) (w : World) (h : Held w a len) (hl : len ≤ 1048576) :
    Calls Tryd.prog 16 #[.agg #[.slice a len cap, .string f, .int .i64 n], .int .i64 1] w fun e w' => e = .returned (.int .i64 (1 + len)) ∧ Below w.heap.size w w' := by
  have hA : Below w.heap.size w (w.alloc (.cells #[.slice a len cap, .string f, .int .i64 n] 33)) := (Below.refl _ _).alloc (Nat.le_refl _) _
  have HH := Lib.hid (h.kept hA)
  have HA := Lib.hid hA
  clear h hA
  go_enter Tryd.func16, Tryd.ntmps16
  go_wp2_with fail
  refine (heldStrs1 a len cap _ HH.out hl).mono ?_
  rintro e w1 ⟨rfl, hb⟩
  have HB := Lib.hid (btt HA.out hb)
  have g0 : decide ((1 : Int) + len < 0) = false := decide_eq_false (by omega)
  clear hb
  go_wp2
  go_ret
  exact ⟨rfl, HB.out⟩
/-- Storing a trip into a new box. -/
theorem trip_box (w : World) (x y z : Value) : Below w.heap.size w ((w.alloc (.cells #[.slice none 0 0, .string ⟨#[]⟩, .int .i64 0] 33)).setRow w.heap.size #[x, y, z]) ∧ ((w.alloc (.cells #[.slice none 0 0, .string ⟨#[]⟩, .int .i64 0] 33)).setRow w.heap.size #[x, y, z]).heap[w.heap.size]? = some (.cells #[x, y, z] 33 (0, 0)) :=
  ⟨below_row ((Below.refl _ _).alloc (Nat.le_refl _) _) (by simp) (Nat.le_refl _) (grown_setRow _ _ _), setRow_heap _ _ _ _ _ _ (heap_alloc_new w _)⟩
set_option maxRecDepth 100000 in
set_option maxHeartbeats 8000000 in
theorem exactTripRead (s : ByteArray) (w : World) (hm : s.size ≤ maxLen) (hL : LaidE w) :
    Calls Tryd.prog 4 #[.string s] w fun e w' => e = .returned (.bool true) ∧ Below w.heap.size w w' := by
  unfold maxLen at hm
  rcases Nat.lt_or_ge 1048576 s.size with c | c
  · go_enter Tryd.func4, Tryd.ntmps4
    go_wp2
    go_ret
    exact ⟨rfl, Below.refl _ _⟩
  have HL := Lib.hid hL
  clear hL
  go_enter Tryd.func4, Tryd.ntmps4
  go_wp2_with fail
  refine ((readMT s w c).mono fun e w' h => got_of h).mono ?_
  rintro e w1 ⟨b, ss, f, n, a1, c1, rfl, hg1, hs1, -, hb1⟩
  have hl := got_few hg1.out
  have HG := Lib.hid hg1
  obtain ⟨t1, t2⟩ := trip_box w1 (.slice a1 ss.length c1) (.string f) (.int .i64 n)
  have HS1 := Lib.hid (hs1.kept t1)
  have HB1 := Lib.hid (btt hb1 t1)
  have HX1 := Lib.hid t2
  have HZ1 := Lib.hid (heap_alloc_new w1 (.cells #[.slice none 0 0, .string ⟨#[]⟩, .int .i64 0] 33))
  have HLw := Lib.hid (laidE_stays HL.out HB1.out)
  have R1 := Lib.hid (readIT s _ c HLw.out)
  have hwz1 : w.heap.size ≤ w1.heap.size := hb1.size
  clear hg1 hs1 hb1 t1 t2
  go_wp2_with (first
    | (refine wpList_store_row rfl 33 _ _ rfl w1.heap.size #[.slice a1 ss.length c1, .string f, .int .i64 n] rfl rfl 33 #[.slice none 0 0, .string ⟨#[]⟩, .int .i64 0] HZ1.out tripSize rfl (trip_one' _ _ _ rfl rfl rfl) ?_)
    | fail)
  generalize (w1.alloc (.cells #[.slice none 0 0, .string ⟨#[]⟩, .int .i64 0] 33)).setRow w1.heap.size #[.slice a1 ss.length c1, .string f, .int .i64 n] = w2 at *
  have hk1 : w1.heap.size < w2.heap.size := lt_heap HX1.out
  have HB2z : Hid (w.heap.size ≤ w2.heap.size) := HB1.out.size
  generalize w1.heap.size = k1 at *
  refine (R1.out.mono fun e w' h => got_of h).mono ?_
  rintro e w3 ⟨b', ss', f', n', a2, c2, rfl, hg2, hs2, hsw2, hb2⟩
  obtain ⟨rfl, rfl, rfl, rfl⟩ := got_one HG.out.out hg2.out
  obtain ⟨t1, t2⟩ := trip_box w3 (.slice a2 ss.length c2) (.string f) (.int .i64 n)
  have X1 := ((btt hb2 t1).block _ hk1).trans HX1.out
  have HX1b := Lib.hid X1
  have HS1b := Lib.hid (HS1.out.kept (btt hb2 t1))
  have HS2 := Lib.hid (hs2.kept t1)
  have HW2 := Lib.hid (hsw2.kept t1)
  have HB2 := Lib.hid (btt HB1.out (btt hb2 t1))
  have HX2 := Lib.hid t2
  have HZ2 := Lib.hid (heap_alloc_new w3 (.cells #[.slice none 0 0, .string ⟨#[]⟩, .int .i64 0] 33))
  have HD2 := Lib.hid (btt hb2 t1)
  obtain ⟨u0, u1, u2⟩ := tripCells X1
  obtain ⟨v0, v1, v2⟩ := tripCells t2
  clear hg2 hs2 hsw2 hb2 t1 t2 X1 R1 HX1 HZ1 HB1 HLw
  go_wp2_with (first
    | (refine wpList_store_row rfl 33 _ _ rfl w3.heap.size #[.slice a2 ss.length c2, .string f, .int .i64 n] rfl rfl 33 #[.slice none 0 0, .string ⟨#[]⟩, .int .i64 0] HZ2.out tripSize rfl (trip_one' _ _ _ rfl rfl rfl) ?_)
    | fail)
  generalize (w3.alloc (.cells #[.slice none 0 0, .string ⟨#[]⟩, .int .i64 0] 33)).setRow w3.heap.size #[.slice a2 ss.length c2, .string f, .int .i64 n] = w4 at *
  have hk3 : w3.heap.size < w4.heap.size := lt_heap HX2.out
  have hz24 : w2.heap.size ≤ w4.heap.size := HD2.out.size
  have hk13 : k1 < w4.heap.size := lt_heap HX1b.out
  generalize w3.heap.size = k3 at *
  clear HZ2
  refine (eqTripS a2 a1 ss.length c2 c1 ss f n _ HS2.out HS1b.out hl).mono ?_
  rintro e w5 ⟨rfl, hb5⟩
  have M5 := Lib.hid (markTripI w2.heap.size a2 ss.length c2 f n w5 (HW2.out.kept hb5) hl (Nat.le_trans hz24 hb5.size) w2 (HD2.out.trans (hb5.mono hz24)))
  have X3 := (hb5.block _ hk3).trans HX2.out
  have X1 := (hb5.block _ hk13).trans HX1b.out
  have HX3 := Lib.hid X3
  have HX1c := Lib.hid X1
  have HB5 := Lib.hid (btt HB2.out hb5)
  have HS1c := Lib.hid (HS1b.out.kept hb5)
  have hz45 : w4.heap.size ≤ w5.heap.size := hb5.size
  clear u0 u1 u2 v0 v1 v2
  obtain ⟨v0, v1, v2⟩ := tripCells X3
  clear X3 X1 hb5
  go_wp2_with fail
  refine M5.out.mono ?_
  rintro e w6 ⟨rfl, hh6, hb6, row, hg6, hrow⟩
  have hr1 : some k1 ≠ row := fun e => by have := (hrow k1 e.symm).1; omega
  have hr3 : some k3 ≠ row := fun e => by
    obtain ⟨-, u, hu⟩ := hrow k3 e.symm
    rw [v0] at hu; cases hu
  have X3 := (hg6.block k3 (by omega) hr3).trans HX3.out
  have X1 := (hg6.block k1 (by omega) hr1).trans HX1c.out
  have HX36 := Lib.hid X3
  have HX16 := Lib.hid X1
  have HS16 := Lib.hid (HS1.out.kept hb6)
  have HH6 := Lib.hid hh6
  have HB6 : Hid (Below w.heap.size w w6) := HB5.out.grown hg6 HB5.out.size (fun k e => by have := (hrow k e).1; have := HB2z.out; omega)
  have K6 := Lib.hid (heldTripI a2 ss.length c2 f n w6 hh6 hl)
  clear v0 v1 v2
  obtain ⟨v0, v1, v2⟩ := tripCells X3
  have hz6 : w5.heap.size ≤ w6.heap.size := hg6.size
  clear hh6 hb6 hg6 hrow hr1 hr3 X3 X1 M5 HX3 HX1c HS1c HS1b HS2 HW2 HX2 HX1b
  go_wp2_with fail
  refine K6.out.mono ?_
  rintro e w7 ⟨rfl, hb7⟩
  have g0 : decide ((1 : Int) + ss.length < 0) = false := decide_eq_false (by omega)
  have HB7 := Lib.hid (btt HB6.out hb7)
  have X3 := (hb7.block k3 (by omega)).trans HX36.out
  have X1 := (hb7.block k1 (by omega)).trans HX16.out
  have HX37 := Lib.hid X3
  have HX17 := Lib.hid X1
  have HS17 := Lib.hid (HS16.out.kept hb7)
  have HH7 := Lib.hid (HH6.out.kept hb7)
  have R7 := Lib.hid (readIT s w7 c (laidE_stays HL.out HB7.out))
  have hz7 : w6.heap.size ≤ w7.heap.size := hb7.size
  clear hb7 X3 X1 K6 v0 v1 v2 HX36 HX16 HS16 HH6 HB6
  go_wp2_with fail
  refine (R7.out.mono fun e w' h => got_of h).mono ?_
  rintro e w8 ⟨b', ss', f', n', a3, c3, rfl, hg3, hs3, -, hb8⟩
  obtain ⟨rfl, rfl, rfl, rfl⟩ := got_one HG.out.out hg3.out
  obtain ⟨t1, t2⟩ := trip_box w8 (.slice a3 ss.length c3) (.string f) (.int .i64 n)
  have X1 := ((btt hb8 t1).block k1 (by omega)).trans HX17.out
  have X3 := ((btt hb8 t1).block k3 (by omega)).trans HX37.out
  have HX1b := Lib.hid X1
  have HX3b := Lib.hid X3
  have HS1b := Lib.hid (HS17.out.kept (btt hb8 t1))
  have HS3 := Lib.hid (hs3.kept t1)
  have HH8 := Lib.hid (HH7.out.kept (btt hb8 t1))
  have HB8 := Lib.hid (btt HB7.out (btt hb8 t1))
  have HX2 := Lib.hid t2
  have HZ2 := Lib.hid (heap_alloc_new w8 (.cells #[.slice none 0 0, .string ⟨#[]⟩, .int .i64 0] 33))
  obtain ⟨u0, u1, u2⟩ := tripCells X1
  obtain ⟨v0, v1, v2⟩ := tripCells t2
  have hz8 : w7.heap.size ≤ w8.heap.size := hb8.size
  clear hg3 hs3 hb8 t1 t2 X1 X3 R7 HX17 HX37 HS17 HH7 HB7 g0
  go_wp2_with (first
    | (refine wpList_store_row rfl 33 _ _ rfl w8.heap.size #[.slice a3 ss.length c3, .string f, .int .i64 n] rfl rfl 33 #[.slice none 0 0, .string ⟨#[]⟩, .int .i64 0] HZ2.out tripSize rfl (trip_one' _ _ _ rfl rfl rfl) ?_)
    | fail)
  generalize (w8.alloc (.cells #[.slice none 0 0, .string ⟨#[]⟩, .int .i64 0] 33)).setRow w8.heap.size #[.slice a3 ss.length c3, .string f, .int .i64 n] = w9 at *
  have hk9 : w8.heap.size < w9.heap.size := lt_heap HX2.out
  generalize w8.heap.size = k8 at *
  clear HZ2
  refine (eqTripS a3 a1 ss.length c3 c1 ss f n _ HS3.out HS1b.out hl).mono ?_
  rintro e wa ⟨rfl, hba⟩
  have K9 := Lib.hid (heldTripI a2 ss.length c2 f n wa (HH8.out.kept hba) hl)
  have X3 := (hba.block k3 (by omega)).trans HX3b.out
  have HBa := Lib.hid (btt HB8.out hba)
  clear u0 u1 u2 v0 v1 v2
  obtain ⟨v0, v1, v2⟩ := tripCells X3
  clear X3 hba
  go_wp2_with fail
  refine K9.out.mono ?_
  rintro e wb ⟨rfl, hbb⟩
  have g0 : decide ((1 : Int) + ss.length < 0) = false := decide_eq_false (by omega)
  have HBb := Lib.hid (btt HBa.out hbb)
  clear hbb
  go_wp2
  go_ret
  exact ⟨rfl, HBb.out⟩
end Go.Proofs.YtlfmhhdlandcjaaDoor
