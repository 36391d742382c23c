/-
  A copy of a rule, in memory of its own that may be written.
-/
import Derived.Test.YtgoaajnppadmjaaGreatDoorRuleCopy
import Derived.Test.YtgoaajnppadmjaaGreatDoorMarksLaw
namespace Go.Proofs.YtgoaajnppadmjaaGreatDoor
open Go.RowKit
set_option linter.unusedVariables false
set_option linter.unusedSimpArgs false

/-- Blocks from lo on that are not frozen. -/
def Nz (lo : Nat) (w : World) (b : Nat) : Prop := lo ≤ b ∧ ∃ cs T, w.heap[b]? = some (.cells cs T (0, 0))
theorem owns_typedU {w : World} {B : Nat} {e : TypeId} {z : Nat} {v : Value} {n : Nat} {xs : List Value} (h : w.ownsRow B e z v n xs) {g : Nat} (hg : v.ownBlock = some g) : ∃ cs T, w.heap[g]? = some (.cells cs T (0, 0)) := by
  rcases h.2 with ⟨rfl, -⟩ | ⟨g', cap, cur, rfl, hb, hc, -⟩
  · simp [Value.ownBlock] at hg
  · simp [Value.ownBlock] at hg
    subst hg
    exact ⟨cur, e, hc⟩
/-- What stays where. -/
def Mv (lo : Nat) (w : World) (lo' : Nat) (w' : World) : Prop := w.heap.size ≤ w'.heap.size ∧ ∀ b, Nz lo w b → Nz lo' w' b ∧ w'.heap[b]? = w.heap[b]?
theorem Nz.lt {lo : Nat} {w : World} {b : Nat} (h : Nz lo w b) : b < w.heap.size := by obtain ⟨-, cs, T, h⟩ := h; exact (Array.getElem?_eq_some_iff.1 h).1
theorem mv_below {lo lo' : Nat} {w w' : World} (h : Below w.heap.size w w') (hl : lo' ≤ lo) : Mv lo w lo' w' := ⟨h.size, fun b hb => by
  have e := h.block b hb.lt
  exact ⟨⟨Nat.le_trans hl hb.1, by rw [e]; exact hb.2⟩, e⟩⟩
theorem mv_grown {lo lo' g : Nat} {w w' : World} (h : w.grownBy w' (some g)) (hg : g < lo) (hl : lo' ≤ lo) : Mv lo w lo' w' := ⟨h.size, fun b hb => by
  have e := h.block b hb.lt (by intro e; simp only [Option.some.injEq] at e; have := hb.1; omega)
  exact ⟨⟨Nat.le_trans hl hb.1, by rw [e]; exact hb.2⟩, e⟩⟩
theorem mv_lo {lo lo' : Nat} {w : World} (hl : lo' ≤ lo) : Mv lo w lo' w := ⟨Nat.le_refl _, fun b hb => ⟨⟨Nat.le_trans hl hb.1, hb.2⟩, rfl⟩⟩
theorem Mv.same {lo lo' : Nat} {w w' : World} (h : Mv lo w lo' w') : Same (Nz lo w) w w' := ⟨h.1, fun b hb _ => (h.2 b hb).2⟩
theorem TrF.mv {lo lo' : Nat} {w w' : World} {t : Tr} {f : Fld} (h : TrF (Nz lo w) w t f) (m : Mv lo w lo' w') : TrF (Nz lo' w') w' t f := TrF.mono (fun b hb => (m.2 b hb).1) t f (TrF.kept m.same t f h)
theorem RowsT.mv {lo lo' : Nat} {w w' : World} {a : Option Addr} {n : Nat} {ks : List Tr} (h : RowsT (Nz lo w) w a n ks) (m : Mv lo w lo' w') : RowsT (Nz lo' w') w' a n ks := (h.kept m.same).mono (fun b hb => (m.2 b hb).1)
theorem MarksN.mv {lo lo' : Nat} {w w' : World} {a : Option Addr} {n : Nat} {ms : List (Int × Int)} (h : MarksN (Nz lo w) w a n ms) (m : Mv lo w lo' w') : MarksN (Nz lo' w') w' a n ms := (h.kept m.same).mono (fun b hb => (m.2 b hb).1)
def CopyMU (len : Nat) (f p : Nat → Int) (w : World) (e : Ending) (w' : World) : Prop :=
  ∃ g : Nat, w.heap.size ≤ g ∧ e = .returned (.slice (some ⟨g, 0, none⟩) len len) ∧ Marks w' (some ⟨g, 0, none⟩) len f p ∧ (∃ cs T, w'.heap[g]? = some (.cells cs T (0, 0))) ∧ Below w.heap.size w w'
set_option maxHeartbeats 1000000 in
theorem copyMarksU (a : Option Addr) (len cap : Nat) (f p : Nat → Int) (w : World) (h : Marks w a len f p) (hl : len ≤ 1048576) :
    Calls Tryz.prog 47 #[.slice a len cap] w (CopyMU len f p w) := by
  obtain ⟨i0, hi, hz0, hz1, hz2⟩ := info_parts infoMark
  have Hc := Lib.hid h
  clear h
  go_enter Tryz.func47, Tryz.ntmps47
  go_wp2_with (at_make; refine wpList_make_full _ rfl _ _ 30 rfl w.heap.size 112 i0 (.agg #[.int .i64 0, .int .i64 0]) 2 Tryz.underlying30 hi hz0 hz1 .i64 .i64 len len len rfl rfl rfl rfl ?_ ?_ ?_ ?_; rw [hz2]; omega; unfold maxLen; omega; exact Nat.le_refl _; intro w1 hown1 hgrow1)
  have hz := hgrow1.size
  have hb1 : Below w.heap.size w w1 := (Below.refl _ _).grown hgrow1 (Nat.le_refl _) (fun k e => by cases e)
  clear hgrow1
  generalize hg : w.heap.size = g at *
  have Hg := Lib.hid hg
  clear hg
  go_loopw [4] (fun i wr => ∃ k : Nat, k ≤ len ∧ i = .int .i64 k ∧ ∃ xs : List Value, wr.ownsRow g 112 2 (.slice (some ⟨g, 0, none⟩) len len) len xs ∧ Hid (∀ j, j < k → xs[j * 2]? = some (.int .i64 (f j)) ∧ xs[j * 2 + 1]? = some (.int .i64 (p j))) ∧ Below g w wr) (fun i _ => len - (intOf i).toNat)
  case atStart => exact ⟨0, Nat.zero_le _, rfl, _, hown1, fun j hj => by omega, hb1⟩
  case round =>
    obtain ⟨k, hk, rfl, xs, hown, hxs, hb⟩ := hrel
    rcases Nat.lt_or_ge k len with hlt | hge
    · rcases Hc.out with hc | ⟨b, off, rfl, hbl, hcell⟩
      · omega
      · have c1 : wr.cell? ⟨b, off + k * 2, none⟩ = some (.int .i64 (f k)) := (hb.cell (p := ⟨b, off + k * 2, none⟩) (by show b < g; rw [← Hg.out]; exact hbl)).trans (hcell k hlt).1
        have c1' : wr.cell? ⟨b, off + k * 2 + 1, none⟩ = some (.int .i64 (p k)) := (hb.cell (p := ⟨b, off + k * 2 + 1, none⟩) (by show b < g; rw [← Hg.out]; exact hbl)).trans (hcell k hlt).2
        clear hcell
        have hbw := hown.lt g rfl
        go_wp2_with fail
        refine (toMark1 _ _ _).mono ?_
        rintro e w2 ⟨rfl, hb2⟩
        have hown2 := hown.kept (below_grownM hb2) (Or.inr (by simp [Value.ownBlock]))
        have hb3 : Below g w w2 := hb.trans (hb2.mono (by omega))
        have hx := hown2.1
        obtain ⟨v0, e0⟩ := cell_ofM (hown2.cellAt (k * 2) (by omega)) (by omega)
        obtain ⟨v1, e1⟩ := cell_ofM (hown2.cellAt (k * 2 + 1) (by omega)) (by omega)
        have f0 := hown2.frozenAt (k * 2)
        have f1 := hown2.frozenAt (k * 2 + 1)
        go_wp2
        go_roundw
        case rel =>
          refine ⟨k + 1, by omega, by go_num, (xs.set (k * 2) (.int .i64 (f k))).set (k * 2 + 1) (.int .i64 (p k)), ((hown2.stored (k * 2) _).1.stored (k * 2 + 1) _).1, fun j hj => ?_, (hb3.setCell (Nat.le_refl _) _).setCell (Nat.le_refl _) _⟩
          by_cases e : j = k
          · subst e
            refine ⟨?_, ?_⟩
            · rw [List.getElem?_set_ne (by omega), List.getElem?_set_self (by omega)]
            · rw [List.getElem?_set_self (by simp; omega)]
          · refine ⟨?_, ?_⟩
            · rw [List.getElem?_set_ne (by omega), List.getElem?_set_ne (by omega)]; exact (hxs.out j (by omega)).1
            · rw [List.getElem?_set_ne (by omega), List.getElem?_set_ne (by omega)]; exact (hxs.out j (by omega)).2
        case measure => simp [intOf]; omega
    · obtain rfl : k = len := by omega
      go_wp2
      go_ret
      have hlt : g < wr.heap.size := (hown.lt g rfl).2
      have hx := hown.1
      refine ⟨g, by rw [Hg.out]; exact Nat.le_refl _, rfl, ?_, (owns_typedU hown (g := g) rfl), by rw [Hg.out]; exact hb⟩
      refine Or.inr ⟨g, 0, rfl, hlt, fun i hi => ?_⟩
      rw [Nat.zero_add, hown.cellAt (i * 2) (by omega), hown.cellAt (i * 2 + 1) (by omega)]
      exact hxs.out i hi

def CopyTU (t : Tr) (w : World) (e : Ending) (w' : World) : Prop := ∃ f : Fld, e = .returned f.val ∧ TrF (Nz w.heap.size w') w' t f ∧ Below w.heap.size w w'
def CopyRowU (ks : List Tr) (w : World) (e : Ending) (w' : World) : Prop := ∃ g : Nat, w.heap.size ≤ g ∧ e = .returned (.slice (some ⟨g, 0, none⟩) ks.length ks.length) ∧ RowsT (Nz w.heap.size w') w' (some ⟨g, 0, none⟩) ks.length ks ∧ Below w.heap.size w w'
def ToAtU (t : Tr) : Prop := ∀ (f : Fld) (w : World), TrF All w t f → Calls Tryz.prog 14 #[f.val] w (CopyTU t w)
def ToRowAtU (ks : List Tr) : Prop := ∀ (a : Option Addr) (n cap : Nat) (w : World), RowsT All w a n ks → n ≤ 1048576 → Calls Tryz.prog 46 #[.slice a n cap] w (CopyRowU ks w)
set_option maxHeartbeats 8000000 in
theorem toRuleNU (o n : Int) (s : ByteArray) (ks : List Tr) (ms : List (Int × Int)) (ihk : ToRowAtU ks) (hkl : ks.length ≤ 1048576) (hml : ms.length ≤ 1048576) : ToAtU (.node o n s ks ms) := by
  intro f w h
  obtain ⟨e1, e2, e3, hm, hk, hc1, hc2⟩ := trF_iff.1 h
  obtain ⟨fo, fn, fs, ka, kl, kc, ma, ml, mc⟩ := f
  dsimp only at e1 e2 e3 hm hk hc1 hc2
  have q1 := e1.symm
  have q2 := e2.symm
  have q3 := e3.symm
  clear e1 e2 e3
  subst q1 q2 q3
  obtain rfl := hk.1
  obtain rfl := hm.1
  have HK := Lib.hid hk
  have HM := Lib.hid hm
  clear h hk hm
  unfold Fld.val
  dsimp only
  go_enter Tryz.func14, Tryz.ntmps14
  go_wp2_with fail
  have hArg : (((w.alloc (.cells #[Value.int IntKind.i64 o, Value.int IntKind.i64 n, Value.string s, Value.slice ka ks.length kc, Value.slice ma ms.length mc] 25)).alloc (.cells #[.int .i64 0, .int .i64 0, .string ⟨#[]⟩, .slice none 0 0, .slice none 0 0] 32)).alloc (.cells #[Value.int IntKind.i64 o, Value.int IntKind.i64 n, Value.string s, .slice none 0 0, .slice none 0 0] 32)).heap[w.heap.size]? = some (.cells #[Value.int IntKind.i64 o, Value.int IntKind.i64 n, Value.string s, Value.slice ka ks.length kc, Value.slice ma ms.length mc] 25 (0, 0)) := by
    rw [Lib.alloc_old _ _ _ (by simp only [World.size_alloc]; omega), Lib.alloc_old _ _ _ (by simp only [World.size_alloc]; omega)]
    exact heap_alloc_new w _
  have hRes : (((w.alloc (.cells #[Value.int IntKind.i64 o, Value.int IntKind.i64 n, Value.string s, Value.slice ka ks.length kc, Value.slice ma ms.length mc] 25)).alloc (.cells #[.int .i64 0, .int .i64 0, .string ⟨#[]⟩, .slice none 0 0, .slice none 0 0] 32)).alloc (.cells #[Value.int IntKind.i64 o, Value.int IntKind.i64 n, Value.string s, .slice none 0 0, .slice none 0 0] 32)).heap[w.heap.size + 1]? = some (.cells #[.int .i64 0, .int .i64 0, .string ⟨#[]⟩, .slice none 0 0, .slice none 0 0] 32 (0, 0)) := by
    rw [Lib.alloc_old _ _ _ (by simp only [World.size_alloc]; omega)]
    have := heap_alloc_new (w.alloc (.cells #[Value.int IntKind.i64 o, Value.int IntKind.i64 n, Value.string s, Value.slice ka ks.length kc, Value.slice ma ms.length mc] 25)) (.cells #[.int .i64 0, .int .i64 0, .string ⟨#[]⟩, .slice none 0 0, .slice none 0 0] 32)
    simpa only [World.size_alloc] using this
  have hOut : (((w.alloc (.cells #[Value.int IntKind.i64 o, Value.int IntKind.i64 n, Value.string s, Value.slice ka ks.length kc, Value.slice ma ms.length mc] 25)).alloc (.cells #[.int .i64 0, .int .i64 0, .string ⟨#[]⟩, .slice none 0 0, .slice none 0 0] 32)).alloc (.cells #[Value.int IntKind.i64 o, Value.int IntKind.i64 n, Value.string s, .slice none 0 0, .slice none 0 0] 32)).heap[w.heap.size + 1 + 1]? = some (.cells #[Value.int IntKind.i64 o, Value.int IntKind.i64 n, Value.string s, .slice none 0 0, .slice none 0 0] 32 (0, 0)) := by
    have := heap_alloc_new ((w.alloc (.cells #[Value.int IntKind.i64 o, Value.int IntKind.i64 n, Value.string s, Value.slice ka ks.length kc, Value.slice ma ms.length mc] 25)).alloc (.cells #[.int .i64 0, .int .i64 0, .string ⟨#[]⟩, .slice none 0 0, .slice none 0 0] 32)) (.cells #[Value.int IntKind.i64 o, Value.int IntKind.i64 n, Value.string s, .slice none 0 0, .slice none 0 0] 32)
    simpa only [World.size_alloc] using this
  have hAB : Below w.heap.size w (((w.alloc (.cells #[Value.int IntKind.i64 o, Value.int IntKind.i64 n, Value.string s, Value.slice ka ks.length kc, Value.slice ma ms.length mc] 25)).alloc (.cells #[.int .i64 0, .int .i64 0, .string ⟨#[]⟩, .slice none 0 0, .slice none 0 0] 32)).alloc (.cells #[Value.int IntKind.i64 o, Value.int IntKind.i64 n, Value.string s, .slice none 0 0, .slice none 0 0] 32)) :=
    ((((Below.refl _ _).alloc (Nat.le_refl _) _).alloc (by simp only [World.size_alloc]; omega) _).alloc (by simp only [World.size_alloc]; omega) _)
  generalize (((w.alloc (.cells #[Value.int IntKind.i64 o, Value.int IntKind.i64 n, Value.string s, Value.slice ka ks.length kc, Value.slice ma ms.length mc] 25)).alloc (.cells #[.int .i64 0, .int .i64 0, .string ⟨#[]⟩, .slice none 0 0, .slice none 0 0] 32)).alloc (.cells #[Value.int IntKind.i64 o, Value.int IntKind.i64 n, Value.string s, .slice none 0 0, .slice none 0 0] 32)) = W0 at *
  have sA := lt_heapT hOut
  have HA0 := Lib.hid hArg
  have HO0 := Lib.hid hOut
  have HR0 := Lib.hid hRes
  have HB0 := Lib.hid hAB
  clear hArg hOut hAB hRes
  have bw0 := HB0.out
  refine (ihk ka ks.length kc _ (HK.out.kept (same_of_below bw0)) hkl).mono ?_
  rintro e w1 ⟨g1, hg1, rfl, hr1, d1⟩
  have arg1 := (d1.block _ (by omega)).trans HA0.out
  have out1 := (d1.block _ (by omega)).trans HO0.out
  have bww1 : Below w.heap.size w w1 := HB0.out.trans (d1.mono (HB0.out.size))
  have ca1 : w1.cell? ⟨w.heap.size, 4, none⟩ = some (Value.slice ma ms.length mc) := by rw [Lib.cell_of_heap arg1]; rfl
  have co1 : w1.cell? ⟨w.heap.size + 1 + 1, 3, none⟩ = some (.slice none 0 0) := by rw [Lib.cell_of_heap out1]; rfl
  have cf1 : w1.frozen? ⟨w.heap.size + 1 + 1, 3, none⟩ = false := Lib.frozen_of_heap out1 3
  have arg1' : (w1.setCell ⟨w.heap.size + 1 + 1, 3, none⟩ (Value.slice (some ⟨g1, 0, none⟩) ks.length ks.length)).heap[w.heap.size]? = some (.cells #[Value.int IntKind.i64 o, Value.int IntKind.i64 n, Value.string s, Value.slice ka ks.length kc, Value.slice ma ms.length mc] 25 (0, 0)) := (Below.heap_setCell _ _ _ _ (by show w.heap.size ≠ w.heap.size + 1 + 1; omega)).trans arg1
  have out1' : (w1.setCell ⟨w.heap.size + 1 + 1, 3, none⟩ (Value.slice (some ⟨g1, 0, none⟩) ks.length ks.length)).heap[w.heap.size + 1 + 1]? = some (.cells #[Value.int IntKind.i64 o, Value.int IntKind.i64 n, Value.string s, Value.slice (some ⟨g1, 0, none⟩) ks.length ks.length, .slice none 0 0] 32 (0, 0)) := by simp [World.setCell, Array.getElem?_modify, out1]
  have bw1' : Below w.heap.size w (w1.setCell ⟨w.heap.size + 1 + 1, 3, none⟩ (Value.slice (some ⟨g1, 0, none⟩) ks.length ks.length)) := bww1.setCell (p := ⟨w.heap.size + 1 + 1, 3, none⟩) (by show w.heap.size ≤ w.heap.size + 1 + 1; omega) _
  have gs1 := grown_set w1 ⟨w.heap.size + 1 + 1, 3, none⟩ (Value.slice (some ⟨g1, 0, none⟩) ks.length ks.length)
  have sm1 : Same (fun b => w.heap.size + 3 ≤ b) w1 (w1.setCell ⟨w.heap.size + 1 + 1, 3, none⟩ (Value.slice (some ⟨g1, 0, none⟩) ks.length ks.length)) := same_grown gs1 (fun b hb e => by have : b = w.heap.size + 1 + 1 := e; omega)
  have szz1 := d1.size
  have ssz1 : w1.heap.size ≤ (w1.setCell ⟨w.heap.size + 1 + 1, 3, none⟩ (Value.slice (some ⟨g1, 0, none⟩) ks.length ks.length)).heap.size := gs1.size
  have res1' : (w1.setCell ⟨w.heap.size + 1 + 1, 3, none⟩ (Value.slice (some ⟨g1, 0, none⟩) ks.length ks.length)).heap[w.heap.size + 1]? = some (.cells #[.int .i64 0, .int .i64 0, .string ⟨#[]⟩, .slice none 0 0, .slice none 0 0] 32 (0, 0)) := (Below.heap_setCell _ _ _ _ (by show w.heap.size + 1 ≠ w.heap.size + 1 + 1; omega)).trans ((d1.block _ (by omega)).trans HR0.out)
  have F0 := Lib.hid ((hr1.mv (mv_lo (lo' := w.heap.size + 3) (by omega))).mv (mv_grown gs1 (by show w.heap.size + 1 + 1 < _; omega) (Nat.le_refl _)))
  clear arg1 out1 bww1
  go_wp2_with fail
  generalize hW1 : w1.setCell ⟨w.heap.size + 1 + 1, 3, none⟩ (Value.slice (some ⟨g1, 0, none⟩) ks.length ks.length) = W1 at *
  have HA1 := Lib.hid arg1'
  have HO1 := Lib.hid out1'
  have HR1 := Lib.hid res1'
  have HB1 := Lib.hid bw1'
  clear arg1' out1' bw1' res1' ca1 co1 cf1 hW1 gs1 sm1 bw0
  have bw1 := HB1.out
  refine (copyMarksU ma ms.length mc (mF ms) (mP ms) _ (marks_of_N (HM.out.kept (same_of_below bw1))) hml).mono ?_
  rintro e w2 ⟨g2, hg2, rfl, hr2, hu2, d2⟩
  have out2 := (d2.block _ (by omega)).trans HO1.out
  have bww2 : Below w.heap.size w w2 := HB1.out.trans (d2.mono (HB1.out.size))
  have co2 : w2.cell? ⟨w.heap.size + 1 + 1, 4, none⟩ = some (.slice none 0 0) := by rw [Lib.cell_of_heap out2]; rfl
  have cf2 : w2.frozen? ⟨w.heap.size + 1 + 1, 4, none⟩ = false := Lib.frozen_of_heap out2 4
  have out2' : (w2.setCell ⟨w.heap.size + 1 + 1, 4, none⟩ (Value.slice (some ⟨g2, 0, none⟩) ms.length ms.length)).heap[w.heap.size + 1 + 1]? = some (.cells #[Value.int IntKind.i64 o, Value.int IntKind.i64 n, Value.string s, Value.slice (some ⟨g1, 0, none⟩) ks.length ks.length, Value.slice (some ⟨g2, 0, none⟩) ms.length ms.length] 32 (0, 0)) := by simp [World.setCell, Array.getElem?_modify, out2]
  have bw2' : Below w.heap.size w (w2.setCell ⟨w.heap.size + 1 + 1, 4, none⟩ (Value.slice (some ⟨g2, 0, none⟩) ms.length ms.length)) := bww2.setCell (p := ⟨w.heap.size + 1 + 1, 4, none⟩) (by show w.heap.size ≤ w.heap.size + 1 + 1; omega) _
  have gs2 := grown_set w2 ⟨w.heap.size + 1 + 1, 4, none⟩ (Value.slice (some ⟨g2, 0, none⟩) ms.length ms.length)
  have sm2 : Same (fun b => w.heap.size + 3 ≤ b) w2 (w2.setCell ⟨w.heap.size + 1 + 1, 4, none⟩ (Value.slice (some ⟨g2, 0, none⟩) ms.length ms.length)) := same_grown gs2 (fun b hb e => by have : b = w.heap.size + 1 + 1 := e; omega)
  have szz2 := d2.size
  have ssz2 : w2.heap.size ≤ (w2.setCell ⟨w.heap.size + 1 + 1, 4, none⟩ (Value.slice (some ⟨g2, 0, none⟩) ms.length ms.length)).heap.size := gs2.size
  have res2' : (w2.setCell ⟨w.heap.size + 1 + 1, 4, none⟩ (Value.slice (some ⟨g2, 0, none⟩) ms.length ms.length)).heap[w.heap.size + 1]? = some (.cells #[.int .i64 0, .int .i64 0, .string ⟨#[]⟩, .slice none 0 0, .slice none 0 0] 32 (0, 0)) := (Below.heap_setCell _ _ _ _ (by show w.heap.size + 1 ≠ w.heap.size + 1 + 1; omega)).trans ((d2.block _ (by omega)).trans HR1.out)
  have t0 := Lib.hid ((F0.out.mv (mv_below d2 (Nat.le_refl _))).mv (mv_grown gs2 (by show w.heap.size + 1 + 1 < _; omega) (Nat.le_refl _)))
  clear F0
  have F0 := t0
  clear t0
  have F1 := Lib.hid ((marksN_of (N := Nz (w.heap.size + 3) w2) hr2 rfl ⟨by omega, hu2⟩).mv (mv_grown gs2 (by show w.heap.size + 1 + 1 < _; omega) (Nat.le_refl _)))
  have z0 : w2.cell? ⟨w.heap.size + 1 + 1, 0, none⟩ = some (Value.int IntKind.i64 o) := by rw [Lib.cell_of_heap out2]; rfl
  have z1 : w2.cell? ⟨w.heap.size + 1 + 1, 1, none⟩ = some (Value.int IntKind.i64 n) := by rw [Lib.cell_of_heap out2]; rfl
  have z2 : w2.cell? ⟨w.heap.size + 1 + 1, 2, none⟩ = some (Value.string s) := by rw [Lib.cell_of_heap out2]; rfl
  have z3 : w2.cell? ⟨w.heap.size + 1 + 1, 3, none⟩ = some (Value.slice (some ⟨g1, 0, none⟩) ks.length ks.length) := by rw [Lib.cell_of_heap out2]; rfl
  clear out2 bww2
  have one : (#[Value.int IntKind.i64 o, Value.int IntKind.i64 n, Value.string s, Value.slice (some ⟨g1, 0, none⟩) ks.length ks.length, Value.slice (some ⟨g2, 0, none⟩) ms.length ms.length] : Array Value).all (·.oneCell') = true := by simp [Value.oneCell']
  go_wp2_with (first
    | (refine wpList_store_row rfl 32 _ _ rfl (w.heap.size + 1) #[Value.int IntKind.i64 o, Value.int IntKind.i64 n, Value.string s, Value.slice (some ⟨g1, 0, none⟩) ks.length ks.length, Value.slice (some ⟨g2, 0, none⟩) ms.length ms.length] rfl rfl 32 #[.int .i64 0, .int .i64 0, .string ⟨#[]⟩, .slice none 0 0, .slice none 0 0] res2' ruleSize rfl one ?_)
    | fail)
  generalize w2.setCell ⟨w.heap.size + 1 + 1, 4, none⟩ (Value.slice (some ⟨g2, 0, none⟩) ms.length ms.length) = WS at *
  clear co2 cf2 z0 z1 z2 z3
  have hfin := setRow_heap WS (w.heap.size + 1) _ #[Value.int IntKind.i64 o, Value.int IntKind.i64 n, Value.string s, Value.slice (some ⟨g1, 0, none⟩) ks.length ks.length, Value.slice (some ⟨g2, 0, none⟩) ms.length ms.length] _ _ res2'
  have gr := grown_setRowT WS (w.heap.size + 1) #[Value.int IntKind.i64 o, Value.int IntKind.i64 n, Value.string s, Value.slice (some ⟨g1, 0, none⟩) ks.length ks.length, Value.slice (some ⟨g2, 0, none⟩) ms.length ms.length]
  have smr : Same (fun b => w.heap.size + 3 ≤ b) WS (WS.setRow (w.heap.size + 1) #[Value.int IntKind.i64 o, Value.int IntKind.i64 n, Value.string s, Value.slice (some ⟨g1, 0, none⟩) ks.length ks.length, Value.slice (some ⟨g2, 0, none⟩) ms.length ms.length]) := same_grown gr (fun b hb e => by omega)
  have l0 := F0.out.mv (mv_grown gr (by omega) (Nat.le_refl _))
  have l1 := F1.out.mv (mv_grown gr (by omega) (Nat.le_refl _))
  have bfin : Below w.heap.size w (WS.setRow (w.heap.size + 1) #[Value.int IntKind.i64 o, Value.int IntKind.i64 n, Value.string s, Value.slice (some ⟨g1, 0, none⟩) ks.length ks.length, Value.slice (some ⟨g2, 0, none⟩) ms.length ms.length]) := bw2'.grown gr bw2'.size (fun k e => by cases e; omega)
  generalize WS.setRow (w.heap.size + 1) #[Value.int IntKind.i64 o, Value.int IntKind.i64 n, Value.string s, Value.slice (some ⟨g1, 0, none⟩) ks.length ks.length, Value.slice (some ⟨g2, 0, none⟩) ms.length ms.length] = WF at *
  have z0 : WF.cell? ⟨w.heap.size + 1, 0, none⟩ = some (Value.int IntKind.i64 o) := by rw [Lib.cell_of_heap hfin]; rfl
  have z1 : WF.cell? ⟨w.heap.size + 1, 1, none⟩ = some (Value.int IntKind.i64 n) := by rw [Lib.cell_of_heap hfin]; rfl
  have z2 : WF.cell? ⟨w.heap.size + 1, 2, none⟩ = some (Value.string s) := by rw [Lib.cell_of_heap hfin]; rfl
  have z3 : WF.cell? ⟨w.heap.size + 1, 3, none⟩ = some (Value.slice (some ⟨g1, 0, none⟩) ks.length ks.length) := by rw [Lib.cell_of_heap hfin]; rfl
  have z4 : WF.cell? ⟨w.heap.size + 1, 4, none⟩ = some (Value.slice (some ⟨g2, 0, none⟩) ms.length ms.length) := by rw [Lib.cell_of_heap hfin]; rfl
  refine bodyPost_ret (v := .agg #[Value.int IntKind.i64 o, Value.int IntKind.i64 n, Value.string s, Value.slice (some ⟨g1, 0, none⟩) ks.length ks.length, Value.slice (some ⟨g2, 0, none⟩) ms.length ms.length]) ?_ rfl ⟨⟨o, n, s, some ⟨g1, 0, none⟩, ks.length, ks.length, some ⟨g2, 0, none⟩, ms.length, ms.length⟩, rfl, trF_iff.2 ⟨rfl, rfl, rfl, l1.mv (mv_lo (by omega)), l0.mv (mv_lo (by omega)), Nat.le_refl _, Nat.le_refl _⟩, bfin⟩
  rw [results_cellM rfl]
  go_simp

def DoneRU (g k : Nat) (ks : List Tr) (xs : List Value) (W : World) : Prop := ∀ j, j < k → ∀ hj : j < ks.length, ∃ f : Fld, (∀ m, m < 5 → xs[j * 5 + m]? = (#[Value.int .i64 f.op, .int .i64 f.num, .string f.name, .slice f.ka f.kl f.kc, .slice f.ma f.ml f.mc] : Array Value)[m]?) ∧ TrF (Nz (g + 1) W) W ks[j] f
set_option maxRecDepth 100000 in
set_option maxHeartbeats 8000000 in
theorem toRowNU (ks : List Tr) (ih : ∀ t ∈ ks, ToAtU t) : ToRowAtU ks := by
  intro a n cap w h hl
  obtain rfl := h.1
  obtain ⟨i0, hi, hz0, hz1, hz2⟩ := info_parts infoRule
  have Hc := Lib.hid h
  have IH := Lib.hid ih
  clear h ih
  generalize hN : ks.length = n at *
  have HN := Lib.hid hN
  clear hN
  go_enter Tryz.func46, Tryz.ntmps46
  go_wp2_with (at_make; refine wpList_make_full _ rfl _ _ 29 rfl w.heap.size 32 i0 (.agg #[.int .i64 0, .int .i64 0, .string ⟨#[]⟩, .slice none 0 0, .slice none 0 0]) 5 Tryz.underlying29 hi hz0 hz1 .i64 .i64 n n n rfl rfl rfl rfl ?_ ?_ ?_ ?_; rw [hz2]; omega; unfold maxLen; omega; exact Nat.le_refl _; intro w1 hown1 hgrow1)
  have hz := hgrow1.size
  have hb1 : Below w.heap.size w w1 := (Below.refl _ _).grown hgrow1 (Nat.le_refl _) (fun k e => by cases e)
  clear hgrow1
  generalize hg : w.heap.size = g at *
  have Hg := Lib.hid hg
  clear hg
  go_loopw [4] (fun i wr => ∃ k : Nat, k ≤ n ∧ i = .int .i64 k ∧ ∃ xs : List Value, wr.ownsRow g 32 5 (.slice (some ⟨g, 0, none⟩) n n) n xs ∧ Hid (DoneRU g k ks xs wr) ∧ Below g w wr) (fun i _ => n - (intOf i).toNat)
  case atStart => exact ⟨0, Nat.zero_le _, rfl, _, hown1, fun j hj => absurd hj (Nat.not_lt_zero _), hb1⟩
  case round =>
    obtain ⟨k, hk, rfl, xs, hown, hxs, hb⟩ := hrel
    rcases Nat.lt_or_ge k n with hlt | hge
    · have hkl : k < ks.length := by rw [HN.out]; exact hlt
      obtain ⟨b, off, rfl, -, hbl, hrow⟩ := (Hc.out.kept (same_of_below (N := All) (by rw [Hg.out]; exact hb))).cells (by omega)
      obtain ⟨f, ⟨y0, y1, y2, y3, y4⟩, ht⟩ := hrow k hkl
      have HT := Lib.hid ht
      have k1 : (k : Int) < n := by omega
      have k0 : (0 : Int) ≤ k := by omega
      have hbw := hown.lt g rfl
      have HOWN := Lib.hid hown
      clear hrow hbl hown ht
      go_wp2_with fail
      refine (IH.out ks[k] (List.getElem_mem _) f wr HT.out).mono ?_
      rintro e w2 ⟨q, rfl, hq, hb2⟩
      clear y0 y1 y2 y3 y4
      have hown2 := HOWN.out.kept (row := none) ⟨hb2.os, hb2.tape, hb2.output, hb2.size, fun i hi _ => hb2.block i hi⟩ (Or.inr (by simp [Value.ownBlock]))
      have hb3 : Below g w w2 := hb.trans (hb2.mono (by omega))
      have hx := hown2.1
      have HOWN2 := Lib.hid hown2
      have HQ := Lib.hid (hq.mv (mv_lo (lo' := g + 1) (by omega)))
      have HB3 := Lib.hid hb3
      have HS2 : Hid (Mv (g + 1) wr (g + 1) w2) := mv_below hb2 (Nat.le_refl _)
      obtain ⟨v0, e0⟩ := cell_ofM (hown2.cellAt (k * 5) (by omega)) (by omega)
      obtain ⟨v1, e1⟩ := cell_ofM (hown2.cellAt (k * 5 + 1) (by omega)) (by omega)
      obtain ⟨v2, e2⟩ := cell_ofM (hown2.cellAt (k * 5 + 2) (by omega)) (by omega)
      obtain ⟨v3, e3⟩ := cell_ofM (hown2.cellAt (k * 5 + 3) (by omega)) (by omega)
      obtain ⟨v4, e4⟩ := cell_ofM (hown2.cellAt (k * 5 + 4) (by omega)) (by omega)
      have f0 := hown2.frozenAt (k * 5)
      have f1 := hown2.frozenAt (k * 5 + 1)
      have f2 := hown2.frozenAt (k * 5 + 2)
      have f3 := hown2.frozenAt (k * 5 + 3)
      have f4 := hown2.frozenAt (k * 5 + 4)
      have hX := Lib.hid hx
      clear hq hb2 hb3 hown2 hb hx
      unfold Fld.val
      go_wp2
      go_roundw
      case rel =>
        refine ⟨k + 1, by omega, by go_num, putL xs (k * 5) [Value.int .i64 q.op, .int .i64 q.num, .string q.name, .slice q.ka q.kl q.kc, .slice q.ma q.ml q.mc], own_setL [Value.int .i64 q.op, .int .i64 q.num, .string q.name, .slice q.ka q.kl q.kc, .slice q.ma q.ml q.mc] (k * 5) w2 xs HOWN2.out, fun j hj hjl => ?_, below_setL (Nat.le_refl _) [Value.int .i64 q.op, .int .i64 q.num, .string q.name, .slice q.ka q.kl q.kc, .slice q.ma q.ml q.mc] (k * 5) w2 HB3.out⟩
        have hgr := grown_setL (g := g) [Value.int .i64 q.op, .int .i64 q.num, .string q.name, .slice q.ka q.kl q.kc, .slice q.ma q.ml q.mc] (k * 5) w2
        have hsm := mv_grown (lo := g + 1) (lo' := g + 1) hgr (by omega) (Nat.le_refl _)
        by_cases e : j = k
        · subst e
          refine ⟨q, fun m hm => ?_, HQ.out.mv hsm⟩
          rw [putL_at _ _ _ _ (by simpa using hm) (by have := hX.out; simp; omega)]
          simp
        · have hj' : j < k := by omega
          obtain ⟨f', h1, h2⟩ := hxs.out j hj' hjl
          refine ⟨f', fun m hm => ?_, (h2.mv HS2.out).mv hsm⟩
          rw [putL_ne _ _ _ _ (by omega)]
          exact h1 m hm
      case measure => simp [intOf]; omega
    · obtain rfl : k = n := by omega
      have hlt := (hown.lt g rfl).2
      have hx := hown.1
      have hpost : Hid (CopyRowU ks w (.returned (.slice (some ⟨g, 0, none⟩) k k)) wr) := by
        refine ⟨g, by rw [Hg.out]; exact Nat.le_refl _, by rw [HN.out], ?_, by rw [Hg.out]; exact hb⟩
        refine rowsT_of (b := g) (off := 0) ⟨by rw [Hg.out]; exact Nat.le_refl _, owns_typedU hown (g := g) rfl⟩ hlt (fun j hj => ?_)
        have hjk : j < k := by rw [← HN.out]; exact hj
        obtain ⟨f, h1, h2⟩ := hxs.out j hjk hj
        refine ⟨f, ⟨?_, ?_, ?_, ?_, ?_⟩, h2.mv (mv_lo (by rw [Hg.out]; omega))⟩
        · rw [Nat.zero_add, ← Nat.add_zero (j * 5), hown.cellAt (j * 5 + 0) (by omega)]; exact h1 0 (by decide)
        · rw [Nat.zero_add, hown.cellAt (j * 5 + 1) (by omega)]; exact h1 1 (by decide)
        · rw [Nat.zero_add, hown.cellAt (j * 5 + 2) (by omega)]; exact h1 2 (by decide)
        · rw [Nat.zero_add, hown.cellAt (j * 5 + 3) (by omega)]; exact h1 3 (by decide)
        · rw [Nat.zero_add, hown.cellAt (j * 5 + 4) (by omega)]; exact h1 4 (by decide)
      clear hlt hx hown hxs hb
      go_wp2
      go_ret
      exact hpost.out
theorem toRuleCU : ∀ (k : Nat) (t : Tr), wT t ≤ k → szT t ≤ 1048576 → ToAtU t
  | 0, .node o n s ks ms, hw, _ => by rw [wT] at hw; omega
  | k + 1, .node o n s ks ms, hw, hs => by
    rw [wT] at hw; rw [szT] at hs
    exact toRuleNU o n s ks ms (toRowNU ks fun t ht => toRuleCU k t (by have := wL_mem ht; omega) (by have := szL_mem ht; omega)) (by omega) (by omega)
/-- A copy of a rule that came in. -/
theorem toRuleU {t : Tr} {f : Fld} {w : World} (h : TrF All w t f) (hs : szT t ≤ 1048576) : Calls Tryz.prog 14 #[f.val] w (CopyTU t w) := toRuleCU _ t (Nat.le_refl _) hs f w h
end Go.Proofs.YtgoaajnppadmjaaGreatDoor
