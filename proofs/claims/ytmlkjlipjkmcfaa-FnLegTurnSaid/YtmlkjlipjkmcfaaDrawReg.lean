/-
  The leg that is drawn for what the next seat is worth.
  Drawn regions in which a leg and more is drawn and handed out: what stays so between their operations.
-/
import Derived.Test.YtmlkjlipjkmcfaaAnyLeg
import Derived.Test.YtmlkjlipjkmcfaaFree
namespace Go.Proofs.Ytmlkjlipjkmcfaa
open Go.RowKit
set_option linter.unusedVariables false
set_option linter.unusedSimpArgs false

theorem isRow_below {k : IntKind} {w w' : World} {a : Option Addr} {len cap : Nat} {z : List Int} (h : IsRow k w a len cap z) (hb : Below w.heap.size w w') : IsRow k w' a len cap z := by
  rcases h with h | ⟨x, h1, h2, h3, h4, h5, h6⟩
  · exact Or.inl h
  · refine Or.inr ⟨x, h1, h2, h3, h4, fun i hi => ?_, h6⟩
    have hc := h5 i hi
    exact (hb.cell (p := x.add i) (World.block_lt_of_cell? w _ hc)).trans hc
/-- A leg that was drawn: in memory of its own, all that was there ahead as it was. -/
def DrawnTo (B : Nat) (w0 : World) (d : LegD) (p : LegP) (w' : World) : Prop := SFit d p ∧ LegIn w' d p ∧ Below B w0 w'
def DrawnOne (w : World) (e : Ending) (w' : World) : Prop := ∃ d p, e = .returned (LegV d p) ∧ Hid (SFit d p) ∧ LegIn w' d p ∧ Below w.heap.size w w'
set_option maxRecDepth 100000 in
set_option maxHeartbeats 8000000 in
theorem drawBid (a0 : Option Addr) (len cap : Nat) (z : List Int) (w : World) (w0 : IsRow .u8 w a0 len cap z) :
    Calls Try.prog 34 #[.slice a0 len cap] w (DrawnOne w) := by
  have hb1 : Below w.heap.size w (w.alloc (.cells #[.string ⟨#[]⟩, .string ⟨#[]⟩, .string ⟨#[]⟩, .int .i64 0, .int .i64 0, .int .i64 0, .slice none 0 0, .slice none 0 0, .slice none 0 0, .slice none 0 0] 31)) := (Below.refl _ _).alloc (Nat.le_refl _) _
  have hR : (w.alloc (.cells #[.string ⟨#[]⟩, .string ⟨#[]⟩, .string ⟨#[]⟩, .int .i64 0, .int .i64 0, .int .i64 0, .slice none 0 0, .slice none 0 0, .slice none 0 0, .slice none 0 0] 31)).heap[w.heap.size]? = some (.cells #[.string ⟨#[]⟩, .string ⟨#[]⟩, .string ⟨#[]⟩, .int .i64 0, .int .i64 0, .int .i64 0, .slice none 0 0, .slice none 0 0, .slice none 0 0, .slice none 0 0] 31 (0, 0)) := heap_alloc_new w _
  have hrow := isRow_below w0 hb1
  have hsz : (w.alloc (.cells #[.string ⟨#[]⟩, .string ⟨#[]⟩, .string ⟨#[]⟩, .int .i64 0, .int .i64 0, .int .i64 0, .slice none 0 0, .slice none 0 0, .slice none 0 0, .slice none 0 0] 31)).heap.size = w.heap.size + 1 := by simp
  have HB1 := Lib.hid hb1
  have HR := Lib.hid hR
  have HSZ := Lib.hid hsz
  have HROW := Lib.hid hrow
  clear hb1 hR hrow hsz w0
  go_enter Try.func34, Try.ntmps34
  go_wp2_with fail
  generalize w.alloc (.cells #[.string ⟨#[]⟩, .string ⟨#[]⟩, .string ⟨#[]⟩, .int .i64 0, .int .i64 0, .int .i64 0, .slice none 0 0, .slice none 0 0, .slice none 0 0, .slice none 0 0] 31) = w1 at *
  refine (opened a0 len cap z w1 HROW.out).mono ?_
  rintro e w2 ⟨rfl, hrd, hb2, hs2⟩
  have HRD := Lib.hid hrd
  have HB2 := Lib.hid (HB1.out.trans (hb2.mono (by rw [HSZ.out]; omega)))
  have HR2 := Lib.hid ((hb2.block _ (lt_heap HR.out)).trans HR.out)
  have HS2 := Lib.hid hs2
  clear hrd hb2 hs2
  go_wp2_with fail
  refine (anyLeg w1.heap.size w1.heap.size 0 w2 HRD.out (by omega)).mono ?_
  rintro e w3 ⟨d, p, rfl, hfit, hin, hoff, hlow, hrd3, hg3⟩
  have hs3 := HSZ.out
  have hs4 := HS2.out
  have HB3 : Hid (Below w.heap.size w w3) := HB2.out.grown hg3 (by omega) (fun k e => by cases e; omega)
  have HR3 : Hid (w3.heap[w.heap.size]? = some (.cells #[.string ⟨#[]⟩, .string ⟨#[]⟩, .string ⟨#[]⟩, .int .i64 0, .int .i64 0, .int .i64 0, .slice none 0 0, .slice none 0 0, .slice none 0 0, .slice none 0 0] 31 (0, 0))) := (hg3.block _ (lt_heap HR2.out) (fun e => by have e' := Option.some.inj e; omega)).trans HR2.out
  have gr := grown_setRow w3 w.heap.size (LegC d p)
  have hin4 := hin.farX (hlow w.heap.size (by omega)) gr
  have hb4 : Below w.heap.size w (w3.setRow w.heap.size (LegC d p)) := HB3.out.grown gr (by have := lt_heap HR3.out; omega) (fun k e => by cases e; exact Nat.le_refl _)
  have hpost : Hid (DrawnOne w (.returned (LegV d p)) (w3.setRow w.heap.size (LegC d p))) := ⟨d, p, rfl, hfit, hin4, hb4⟩
  clear hs3 hs4 hfit hin hoff hlow hrd3 hg3 gr hin4 hb4
  unfold LegV
  go_wp2_with (first
    | (refine wpList_store_row rfl 31 _ _ rfl w.heap.size (LegC d p) rfl rfl 31 #[.string ⟨#[]⟩, .string ⟨#[]⟩, .string ⟨#[]⟩, .int .i64 0, .int .i64 0, .int .i64 0, .slice none 0 0, .slice none 0 0, .slice none 0 0, .slice none 0 0] HR3.out legSize rfl (leg_one1 _ _) ?_)
    | fail)
  have hfin : LegBox (w3.setRow w.heap.size (LegC d p)) w.heap.size d p := setRow_heap w3 w.heap.size _ _ _ _ HR3.out
  generalize w3.setRow w.heap.size (LegC d p) = W10 at *
  have v0 := (hfin).c0
  have v1 := (hfin).c1
  have v2 := (hfin).c2
  have v3 := (hfin).c3
  have v4 := (hfin).c4
  have v5 := (hfin).c5
  have v6 := (hfin).c6
  have v7 := (hfin).c7
  have v8 := (hfin).c8
  have v9 := (hfin).c9
  clear hfin
  refine bodyPost_ret (v := LegV d p) ?_ rfl hpost.out
  rw [LegV_eq]
  unfold LegC
  rw [results_cell1 rfl]
  go_simp
  all_goals rfl
end Go.Proofs.Ytmlkjlipjkmcfaa

namespace Go.Proofs.Ytmlkjlipjkmcfaa
open Go.RowKit
set_option linter.unusedVariables false
set_option linter.unusedSimpArgs false

theorem Deps.get {S : Nat → World → Value → Prop} {f : Nat → Value} {w : World} : ∀ {l : List Nat}, Deps S f w l → ∀ {n : Nat}, n ∈ l → S n w (f n)
  | [], _, _, h => by cases h
  | m :: l, hd, n, h => by
    rcases List.mem_cons.1 h with e | e
    · subst e; exact hd.1
    · exact Deps.get hd.2 e
theorem grown_id (w : World) (row : Option Nat) : w.grownBy w row := ⟨rfl, rfl, rfl, Nat.le_refl _, fun _ _ _ => rfl⟩
/-- One of the blocks up to b alone is written. -/
def GrB (b : Nat) (W W' : World) : Prop := ∃ x, x ≤ b ∧ W.grownBy W' (some x)
theorem GrB.id {b : Nat} (W : World) : GrB b W W := ⟨b, Nat.le_refl _, grown_id _ _⟩
theorem GrB.b {b : Nat} {W W' : World} (h : W.grownBy W' (some b)) : GrB b W W' := ⟨b, Nat.le_refl _, h⟩
def LegOffB (b : Nat) (d : LegD) (p : LegP) : Prop := ∀ x, x ≤ b → LegOff x d p
theorem LegIn.grB {W W' : World} {b : Nat} {d : LegD} {p : LegP} (h : LegIn W d p) (ho : LegOffB b d p) (hg : GrB b W W') : LegIn W' d p := by
  obtain ⟨x, hx, hg⟩ := hg
  exact h.farX (ho x hx) hg
def Ls3 (b : Nat) (W : World) (v : Value) : Prop := ∃ d p, v = LegV d p ∧ Hid (SFit d p) ∧ LegIn W d p ∧ LegOffB b d p
theorem Ls3.kept {b : Nat} {W W' : World} {v : Value} (h : Ls3 b W v) (hg : GrB b W W') : Ls3 b W' v := by
  obtain ⟨d, p, e, hf, hi, ho⟩ := h
  exact ⟨d, p, e, hf, hi.grB ho hg, ho⟩
theorem GrB.block {b g : Nat} {W W' : World} {o : Obj} (hg : GrB b W W') (hb : b < g) (hz : W.heap[g]? = some o) : W'.heap[g]? = some o := by
  obtain ⟨x, hx, hg⟩ := hg
  exact (hg.block g (lt_heap hz) (fun e => by have e' := Option.some.inj e; omega)).trans hz
def Ns3 (b n : Nat) (W : World) (v : Value) : Prop := ∃ g, v = .slice (some ⟨g, 0, none⟩) n n ∧ b < g ∧ ∃ vs : List Int, vs.length = n ∧ W.heap[g]? = some (.cells (vs.map (Value.int .i64)).toArray 3 (0, 0))
theorem Ns3.kept {b n : Nat} {W W' : World} {v : Value} (h : Ns3 b n W v) (hg : GrB b W W') : Ns3 b n W' v := by
  obtain ⟨g, e, h1, vs, hl, hz⟩ := h
  exact ⟨g, e, h1, vs, hl, hg.block h1 hz⟩
def Pt3 (b n : Nat) (W : World) (v : Value) : Prop := ∃ g j, j < n ∧ v = .pointer (some ⟨g, j, none⟩) ∧ b < g ∧ ∃ vs : List Int, vs.length = n ∧ W.heap[g]? = some (.cells (vs.map (Value.int .i64)).toArray 3 (0, 0))
theorem Pt3.kept {b n : Nat} {W W' : World} {v : Value} (h : Pt3 b n W v) (hg : GrB b W W') : Pt3 b n W' v := by
  obtain ⟨g, j, hj, e, h1, vs, hl, hz⟩ := h
  exact ⟨g, j, hj, e, h1, vs, hl, hg.block h1 hz⟩
theorem pt_cell {n g j : Nat} {W : World} {vs : List Int} (hl : vs.length = n) (hj : j < n) (hz : W.heap[g]? = some (.cells (vs.map (Value.int .i64)).toArray 3 (0, 0))) : W.cell? ⟨g, j, none⟩ = some (.int .i64 (vs.getD j 0)) := by
  rw [Lib.cell_of_heap hz]
  simp [show j < vs.length by omega]
/-- The leg that stands in the result. -/
def LegRes (b r : Nat) (W : World) : Prop := ∃ d p, LegBx W r 31 d p ∧ Hid (SFit d p) ∧ LegIn W d p ∧ LegOffB b d p
theorem LegRes.far {b r : Nat} {W W' : World} {x : Nat} (h : LegRes b r W) (hg : W.grownBy W' (some x)) (hx : x ≤ b) (hr : r ≠ x) : LegRes b r W' := by
  obtain ⟨d, p, h1, hf, h2, ho⟩ := h
  exact ⟨d, p, (hg.block r (lt_heap h1) (fun e => hr (Option.some.inj e))).trans h1, hf, h2.farX (ho x hx) hg, ho⟩
theorem LegRes.lt {b r : Nat} {W : World} (h : LegRes b r W) : r < W.heap.size := by
  obtain ⟨d, p, h1, -⟩ := h
  exact lt_heap h1
theorem LegRes.row {b r : Nat} {W : World} (h : LegRes b r W) {d : LegD} {p : LegP} (hf : Hid (SFit d p)) (hi : LegIn W d p) (ho : LegOffB b d p) (hr : r ≤ b) : LegRes b r (W.setRow r (LegC d p)) := by
  obtain ⟨d0, p0, h1, -⟩ := h
  exact ⟨d, p, setRow_heap W r _ _ _ _ h1, hf, hi.farX (ho r hr) (grown_setRow W r _), ho⟩
theorem LegRes.below {b r : Nat} {W W' : World} (h : LegRes b r W) (hb : Below W.heap.size W W') : LegRes b r W' := by
  obtain ⟨d, p, h1, h2, h3, h4⟩ := h
  exact ⟨d, p, h1.kept hb, h2, h3.kept hb, h4⟩
def nilP : LegP := ⟨none, 0, none, 0, none, 0, none, 0⟩
theorem LegRes.zero (b : Nat) (w : World) : LegRes b w.heap.size (w.alloc (.cells #[.string ⟨#[]⟩, .string ⟨#[]⟩, .string ⟨#[]⟩, .int .i64 0, .int .i64 0, .int .i64 0, .slice none 0 0, .slice none 0 0, .slice none 0 0, .slice none 0 0] 31)) :=
  ⟨zeroD, nilP, heap_alloc_new w _, ⟨by refine ⟨?_, ?_, ?_, ?_, ?_, ?_, ?_⟩ <;> decide, Nat.le_refl _, Nat.le_refl _⟩, ⟨.inl rfl, .inl rfl, .inl rfl, .inl rfl⟩, fun x hx =>
    ⟨fun h => absurd h (Nat.lt_irrefl _), fun h => absurd h (Nat.lt_irrefl _), fun h => absurd h (Nat.lt_irrefl _), fun h => absurd h (Nat.lt_irrefl _)⟩⟩
/-- What holds between the operations: where the reader stands, all that is old as it was, a leg in the result. -/
def IReg (w0 : World) (B b r : Nat) (k : Nat) (W : World) : Prop := RdTo B (400 * k + 400) b W ∧ Below w0.heap.size w0 W ∧ LegRes b r W ∧ (r < b ∧ w0.heap.size ≤ r ∧ B ≤ r)
theorem IReg.id {w0 : World} {B b r k : Nat} {W : World} (h : IReg w0 B b r k W) : IReg w0 B b r (k + 1) W := ⟨h.1.mono (by omega), h.2⟩
theorem IReg.gr {w0 : World} {B b r k : Nat} {W W' : World} (h : IReg w0 B b r k W) (hg : W.grownBy W' (some b)) (hr : RdTo B (400 * (k + 1) + 400) b W') : IReg w0 B b r (k + 1) W' :=
  ⟨hr, h.2.1.grown hg h.2.1.size (fun k e => by cases e; have := h.2.2.2; omega), h.2.2.1.far hg (Nat.le_refl _) (by have := h.2.2.2; omega), h.2.2.2⟩
theorem IReg.alloc {w0 : World} {B b r k : Nat} {W : World} (h : IReg w0 B b r k W) (o : Obj) : IReg w0 B b r (k + 1) (W.alloc o) :=
  h.gr (World.grownBy_alloc W o _) ((h.1.alloc o).mono (by omega))
theorem RdTo.row {B Q b r : Nat} {W : World} (h : RdTo B Q b W) (hr : r ≠ b) (hB : B ≤ r) (cs : Array Value) : RdTo B Q b (W.setRow r cs) := by
  have hg := grown_setRow W r cs
  obtain ⟨q, hq, hrd⟩ := h
  exact ⟨q, hq, hrd.kept (Below.grown (Below.refl _ _) hg (by have := hrd.le; omega) (fun k e => by cases e; exact hB)) (hg.block b hrd.le.2 (fun e => hr (Option.some.inj e).symm))⟩
theorem IReg.row {w0 : World} {B b r k : Nat} {W : World} (h : IReg w0 B b r k W) {d : LegD} {p : LegP} (hf : Hid (SFit d p)) (hi : LegIn W d p) (ho : LegOffB b d p) : IReg w0 B b r (k + 1) (W.setRow r (LegC d p)) :=
  ⟨(h.1.row (by have := h.2.2.2; omega) h.2.2.2.2.2 _).mono (by omega), h.2.1.grown (grown_setRow W r (LegC d p)) h.2.1.size (fun k e => by cases e; exact h.2.2.2.2.1), h.2.2.1.row hf hi ho (by have := h.2.2.2; omega), h.2.2.2⟩
theorem IReg.below {w0 : World} {B b r k : Nat} {W W' : World} (h : IReg w0 B b r k W) (hb : Below W.heap.size W W') : IReg w0 B b r k W' :=
  ⟨h.1.below hb, bt h.2.1 hb, h.2.2.1.below hb, h.2.2.2⟩
/-- A leg and a number that were drawn. -/
def DrawnClass (w : World) (e : Ending) (w' : World) : Prop := ∃ d p, ∃ y : Int, e = .returned (.tuple #[LegV d p, .int .i64 y]) ∧ Hid (SFit d p) ∧ LegIn w' d p ∧ (∀ x, x < w.heap.size → LegOff x d p) ∧ Below w.heap.size w w'
theorem rd_newB {B : Nat} {w : World} {a : Option Addr} {len cap : Nat} (hB : B ≤ w.heap.size) (h : Bytes B w a len) (hl : len ≤ 2000) (T : TypeId) :
    Rd B (w.alloc (.cells #[.slice a len cap, .int .i64 0] T)) w.heap.size 0 := by
  refine ⟨a, len, cap, hB, by simp, ?_, ?_, ?_, hl, h.kept ((Below.refl _ _).alloc hB _)⟩ <;> simp [go_sem]
def OpenedB (B : Nat) (w : World) (e : Ending) (w' : World) : Prop := e = .returned (.pointer (some ⟨w.heap.size, 0, none⟩)) ∧ Rd B w' w.heap.size 0 ∧ Below w.heap.size w w' ∧ w'.heap.size = w.heap.size + 1
set_option maxHeartbeats 400000 in
theorem openedB (a0 : Option Addr) (len cap : Nat) (z : List Int) (wB w : World) (w0 : IsRow .u8 wB a0 len cap z) (hBw : Below wB.heap.size wB w) :
    Calls Try.prog 54 #[.slice a0 len cap] w (OpenedB wB.heap.size w) := by
  have hb : ∀ n, n ≤ len → Bytes wB.heap.size w a0 n := fun n hn => (bytes_of_row w0 hn).kept hBw
  have Hb := Lib.hid hb
  have hS := hBw.size
  clear hb
  by_cases h : 2000 < len
  · rcases w0 with ⟨rfl, rfl, rfl, rfl⟩ | ⟨x, rfl, hl, hm, hz, hcell, hwz⟩
    · omega
    · clear hcell hwz hz
      unfold maxLen at hm
      go_enter Try.func54, Try.ntmps54
      go_wp2
      go_ret
      exact ⟨rfl, rd_newB hS (Hb.out 2000 (by omega)) (by omega) _, (Below.refl _ _).alloc (Nat.le_refl _) _, by simp⟩
  · have hm : cap ≤ 9223372036854775807 := by
      rcases w0 with ⟨rfl, rfl, rfl, rfl⟩ | ⟨x, rfl, hl, hm, hz, hcell, hwz⟩
      · omega
      · unfold maxLen at hm; omega
    clear w0
    go_enter Try.func54, Try.ntmps54
    go_wp2
    go_ret
    exact ⟨rfl, rd_newB hS (Hb.out len (by omega)) (by omega) _, (Below.refl _ _).alloc (Nat.le_refl _) _, by simp⟩
end Go.Proofs.Ytmlkjlipjkmcfaa
