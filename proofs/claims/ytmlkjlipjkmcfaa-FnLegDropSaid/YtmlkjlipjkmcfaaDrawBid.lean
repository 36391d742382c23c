/-
  The leg that is drawn for what the next seat is worth.
-/
import Derived.Test.YtmlkjlipjkmcfaaAnyLeg
namespace Go.Proofs.Ytmlkjlipjkmcfaa
open Go.RowKit
set_option linter.unusedVariables false
set_option linter.unusedSimpArgs false

theorem isRow_below {k : IntKind} {w w' : World} {a : Option Addr} {len cap : Nat} {z : List Int} (h : IsRow k w a len cap z) (hb : Below w.heap.size w w') : IsRow k w' a len cap z := by
  rcases h with h | ⟨x, h1, h2, h3, h4, h5, h6⟩
  · exact Or.inl h
  · refine Or.inr ⟨x, h1, h2, h3, h4, fun i hi => ?_, h6⟩
    have hc := h5 i hi
    exact (hb.cell (p := x.add i) (World.block_lt_of_cell? w _ hc)).trans hc
/-- A leg that was drawn: in memory of its own, all that was there ahead as it was. -/
def DrawnTo (B : Nat) (w0 : World) (d : LegD) (p : LegP) (w' : World) : Prop := SFit d p ∧ LegIn w' d p ∧ Below B w0 w'
def DrawnOne (w : World) (e : Ending) (w' : World) : Prop := ∃ d p, e = .returned (LegV d p) ∧ Hid (SFit d p) ∧ LegIn w' d p ∧ Below w.heap.size w w'
set_option maxRecDepth 100000 in
set_option maxHeartbeats 8000000 in
theorem drawBid (a0 : Option Addr) (len cap : Nat) (z : List Int) (w : World) (w0 : IsRow .u8 w a0 len cap z) :
    Calls Try.prog 34 #[.slice a0 len cap] w (DrawnOne w) := by
  have hb1 : Below w.heap.size w (w.alloc (.cells #[.string ⟨#[]⟩, .string ⟨#[]⟩, .string ⟨#[]⟩, .int .i64 0, .int .i64 0, .int .i64 0, .slice none 0 0, .slice none 0 0, .slice none 0 0, .slice none 0 0] 31)) := (Below.refl _ _).alloc (Nat.le_refl _) _
  have hR : (w.alloc (.cells #[.string ⟨#[]⟩, .string ⟨#[]⟩, .string ⟨#[]⟩, .int .i64 0, .int .i64 0, .int .i64 0, .slice none 0 0, .slice none 0 0, .slice none 0 0, .slice none 0 0] 31)).heap[w.heap.size]? = some (.cells #[.string ⟨#[]⟩, .string ⟨#[]⟩, .string ⟨#[]⟩, .int .i64 0, .int .i64 0, .int .i64 0, .slice none 0 0, .slice none 0 0, .slice none 0 0, .slice none 0 0] 31 (0, 0)) := heap_alloc_new w _
  have hrow := isRow_below w0 hb1
  have hsz : (w.alloc (.cells #[.string ⟨#[]⟩, .string ⟨#[]⟩, .string ⟨#[]⟩, .int .i64 0, .int .i64 0, .int .i64 0, .slice none 0 0, .slice none 0 0, .slice none 0 0, .slice none 0 0] 31)).heap.size = w.heap.size + 1 := by simp
  have HB1 := Lib.hid hb1
  have HR := Lib.hid hR
  have HSZ := Lib.hid hsz
  have HROW := Lib.hid hrow
  clear hb1 hR hrow hsz w0
  go_enter Try.func34, Try.ntmps34
  go_wp2_with fail
  generalize w.alloc (.cells #[.string ⟨#[]⟩, .string ⟨#[]⟩, .string ⟨#[]⟩, .int .i64 0, .int .i64 0, .int .i64 0, .slice none 0 0, .slice none 0 0, .slice none 0 0, .slice none 0 0] 31) = w1 at *
  refine (opened a0 len cap z w1 HROW.out).mono ?_
  rintro e w2 ⟨rfl, hrd, hb2, hs2⟩
  have HRD := Lib.hid hrd
  have HB2 := Lib.hid (HB1.out.trans (hb2.mono (by rw [HSZ.out]; omega)))
  have HR2 := Lib.hid ((hb2.block _ (lt_heap HR.out)).trans HR.out)
  have HS2 := Lib.hid hs2
  clear hrd hb2 hs2
  go_wp2_with fail
  refine (anyLeg w1.heap.size w1.heap.size 0 w2 HRD.out (by omega)).mono ?_
  rintro e w3 ⟨d, p, rfl, hfit, hin, hoff, hlow, hrd3, hg3⟩
  have hs3 := HSZ.out
  have hs4 := HS2.out
  have HB3 : Hid (Below w.heap.size w w3) := HB2.out.grown hg3 (by omega) (fun k e => by cases e; omega)
  have HR3 : Hid (w3.heap[w.heap.size]? = some (.cells #[.string ⟨#[]⟩, .string ⟨#[]⟩, .string ⟨#[]⟩, .int .i64 0, .int .i64 0, .int .i64 0, .slice none 0 0, .slice none 0 0, .slice none 0 0, .slice none 0 0] 31 (0, 0))) := (hg3.block _ (lt_heap HR2.out) (fun e => by have e' := Option.some.inj e; omega)).trans HR2.out
  have gr := grown_setRow w3 w.heap.size (LegC d p)
  have hin4 := hin.farX (hlow w.heap.size (by omega)) gr
  have hb4 : Below w.heap.size w (w3.setRow w.heap.size (LegC d p)) := HB3.out.grown gr (by have := lt_heap HR3.out; omega) (fun k e => by cases e; exact Nat.le_refl _)
  have hpost : Hid (DrawnOne w (.returned (LegV d p)) (w3.setRow w.heap.size (LegC d p))) := ⟨d, p, rfl, hfit, hin4, hb4⟩
  clear hs3 hs4 hfit hin hoff hlow hrd3 hg3 gr hin4 hb4
  unfold LegV
  go_wp2_with (first
    | (refine wpList_store_row rfl 31 _ _ rfl w.heap.size (LegC d p) rfl rfl 31 #[.string ⟨#[]⟩, .string ⟨#[]⟩, .string ⟨#[]⟩, .int .i64 0, .int .i64 0, .int .i64 0, .slice none 0 0, .slice none 0 0, .slice none 0 0, .slice none 0 0] HR3.out legSize rfl (leg_one1 _ _) ?_)
    | fail)
  have hfin : LegBox (w3.setRow w.heap.size (LegC d p)) w.heap.size d p := setRow_heap w3 w.heap.size _ _ _ _ HR3.out
  generalize w3.setRow w.heap.size (LegC d p) = W10 at *
  have v0 := (hfin).c0
  have v1 := (hfin).c1
  have v2 := (hfin).c2
  have v3 := (hfin).c3
  have v4 := (hfin).c4
  have v5 := (hfin).c5
  have v6 := (hfin).c6
  have v7 := (hfin).c7
  have v8 := (hfin).c8
  have v9 := (hfin).c9
  clear hfin
  refine bodyPost_ret (v := LegV d p) ?_ rfl hpost.out
  rw [LegV_eq]
  unfold LegC
  rw [results_cell1 rfl]
  go_simp
  all_goals rfl
end Go.Proofs.Ytmlkjlipjkmcfaa
