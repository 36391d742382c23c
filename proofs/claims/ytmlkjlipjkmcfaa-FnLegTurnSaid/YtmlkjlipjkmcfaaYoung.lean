/-
  A leg that is being drawn: its lists lie in memory of its own, none in another one's.
-/
import Derived.Test.YtmlkjlipjkmcfaaRdL
import Derived.Test.YtmlkjlipjkmcfaaLegDropMath
import Derived.Test.YtmlkjlipjkmcfaaFree
import Derived.Deep.AppendLies
namespace Go.Proofs.Ytmlkjlipjkmcfaa
open Go.RowKit
set_option linter.unusedVariables false
set_option linter.unusedSimpArgs false

def nl (z : Nat → Int) (n : Nat) : List Value := (List.range n).map fun i => .int .i64 (z i)
theorem nl_len (z : Nat → Int) (n : Nat) : (nl z n).length = n := by simp [nl]
theorem nl_at (z : Nat → Int) {n i : Nat} (h : i < n) : (nl z n)[i]? = some (.int .i64 (z i)) := by simp [nl, h]
def snocF (z : Nat → Int) (n : Nat) (x : Int) : Nat → Int := fun i => if i < n then z i else x
theorem nl_snoc (z : Nat → Int) (n : Nat) (x : Int) : nl z n ++ [.int .i64 x] = nl (snocF z n x) (n + 1) := by
  apply List.ext_getElem?
  intro i
  rcases Nat.lt_trichotomy i n with h | h | h
  · rw [List.getElem?_append_left (by rw [nl_len]; exact h), nl_at _ h, nl_at _ (by omega)]; simp [snocF, h]
  · subst h
    rw [List.getElem?_append_right (by rw [nl_len]; omega), nl_len, nl_at _ (by omega)]; simp [snocF]
  · rw [List.getElem?_eq_none (by simp [nl_len]; omega), List.getElem?_eq_none (by simp [nl_len]; omega)]
def mkD (nm fr to : ByteArray) (dep arr cap : Int) (nL : Nat) (L : Nat → Int) (nB : Nat) (Bz : Nat → Int) : LegD := ⟨nm, fr, to, dep, arr, cap, nL, L, 3, fun _ => 0, nB, Bz, 0, fun _ => 0, fun _ => 0, fun _ => 0⟩
def mkP (gL cL gS gB cB : Nat) : LegP := ⟨some ⟨gL, 0, none⟩, cL, some ⟨gS, 0, none⟩, 3, some ⟨gB, 0, none⟩, cB, none, 0⟩
/-- The reader has come to q at most. -/
def RdTo (B Q b : Nat) (W : World) : Prop := ∃ q, q ≤ Q ∧ Rd B W b q
theorem RdTo.alloc {B Q b : Nat} {W : World} (h : RdTo B Q b W) (o : Obj) : RdTo B Q b (W.alloc o) := by
  obtain ⟨q, h1, h2⟩ := h
  exact ⟨q, h1, rd_alloc h2 o⟩
theorem RdTo.far {B Q b : Nat} {W W' : World} {row : Option Nat} (h : RdTo B Q b W) (hg : W.grownBy W' row) (hr : ∀ k, row = some k → b < k) : RdTo B Q b W' := by
  obtain ⟨q, h1, h2⟩ := h
  exact ⟨q, h1, h2.kept ⟨hg.os, hg.tape, hg.output, hg.size, fun k hk => hg.block k (by have := h2.le; omega) (fun e => by have := hr k e.symm; have := h2.le; omega)⟩ (hg.block b h2.le.2 (fun e => by have := hr b e.symm; omega))⟩
theorem RdTo.mono {B Q Q' b : Nat} {W : World} (h : RdTo B Q b W) (hq : Q ≤ Q') : RdTo B Q' b W := by
  obtain ⟨q, h1, h2⟩ := h
  exact ⟨q, by omega, h2⟩
theorem RdTo.lt {B Q b : Nat} {W : World} (h : RdTo B Q b W) : b < W.heap.size := by
  obtain ⟨q, h1, h2⟩ := h
  exact h2.le.2

structure Young (w0 : World) (B Q b bx : Nat) (nm fr to : ByteArray) (dep arr cap : Int) (nL : Nat) (L : Nat → Int) (nB : Nat) (Bz : Nat → Int) (gL cL gS gB cB : Nat) (W : World) : Prop where
  box : LegBox W bx (mkD nm fr to dep arr cap nL L nB Bz) (mkP gL cL gS gB cB)
  oL : W.ownsRow w0.heap.size 3 1 (.slice (some ⟨gL, 0, none⟩) nL cL) nL (nl L nL)
  oS : W.ownsRow w0.heap.size 3 1 (.slice (some ⟨gS, 0, none⟩) 3 3) 3 (nl (fun _ => 0) 3)
  oB : W.ownsRow w0.heap.size 3 1 (.slice (some ⟨gB, 0, none⟩) nB cB) nB (nl Bz nB)
  ne : (b < w0.heap.size ∧ w0.heap.size ≤ bx) ∧ gL ≠ bx ∧ gS ≠ bx ∧ gB ≠ bx ∧ gL ≠ gS ∧ gL ≠ gB ∧ gS ≠ gB
  rd : RdTo B Q b W
  gr : w0.grownBy W (some b)
section
variable {w0 W W' : World} {B Q b bx : Nat} {nm fr to : ByteArray} {dep arr cap : Int} {nL : Nat} {L : Nat → Int} {nB : Nat} {Bz : Nat → Int} {gL cL gS gB cB : Nat}
theorem lt_own {g n cap base : Nat} {e : TypeId} {size : Nat} {xs : List Value} (h : W.ownsRow base e size (.slice (some ⟨g, 0, none⟩) n cap) n xs) : base ≤ g ∧ g < W.heap.size := h.lt g rfl
theorem Young.far (h : Young w0 B Q b bx nm fr to dep arr cap nL L nB Bz gL cL gS gB cB W) {Q' : Nat} (hg : W.grownBy W' (some b)) (hr : RdTo B Q' b W') : Young w0 B Q' b bx nm fr to dep arr cap nL L nB Bz gL cL gS gB cB W' := by
  have h1 := lt_own h.oL
  have h2 := lt_own h.oS
  have h3 := lt_own h.oB
  have h0 := h.ne.1
  exact ⟨(hg.block bx (lt_heap h.box) (fun e => by have := h.ne.1; cases e; omega)).trans h.box, h.oL.kept hg (.inr (by simp [Value.ownBlock]; omega)), h.oS.kept hg (.inr (by simp [Value.ownBlock]; omega)),
    h.oB.kept hg (.inr (by simp [Value.ownBlock]; omega)), h.ne, hr, grown_trans h.gr hg⟩
theorem Young.alloc (h : Young w0 B Q b bx nm fr to dep arr cap nL L nB Bz gL cL gS gB cB W) (o : Obj) : Young w0 B Q b bx nm fr to dep arr cap nL L nB Bz gL cL gS gB cB (W.alloc o) :=
  h.far (World.grownBy_alloc W o _) (h.rd.alloc o)
theorem Young.L_at (h : Young w0 B Q b bx nm fr to dep arr cap nL L nB Bz gL cL gS gB cB W) {i : Nat} (hi : i < nL) : W.cell? ⟨gL, i, none⟩ = some (.int .i64 (L i)) := (h.oL.cellAt i (by omega)).trans (nl_at L hi)
theorem Young.B_at (h : Young w0 B Q b bx nm fr to dep arr cap nL L nB Bz gL cL gS gB cB W) {i : Nat} (hi : i < nB) : W.cell? ⟨gB, i, none⟩ = some (.int .i64 (Bz i)) := (h.oB.cellAt i (by omega)).trans (nl_at Bz hi)
theorem box_set {W : World} {bx : Nat} {d d' : LegD} {p p' : LegP} (h : LegBox W bx d p) {k : Nat} {v : Value} (e : LegC d' p' = (LegC d p).setIfInBounds k v) : LegBox (W.setCell ⟨bx, k, none⟩ v) bx d' p' := by
  have := set_same (i := k) h v
  rw [← e] at this
  exact this
/-- A limit more. -/
theorem Young.appL (h : Young w0 B Q b bx nm fr to dep arr cap nL L nB Bz gL cL gS gB cB W) {x : Int} {g c : Nat} (ho : W'.ownsRow w0.heap.size 3 1 (.slice (some ⟨g, 0, none⟩) (nL + 1) c) (nL + 1) (nl L nL ++ [.int .i64 x]))
    (hg : W.grownBy W' (some gL)) (ha : g = gL ∨ g = W.heap.size) :
    Young w0 B Q b bx nm fr to dep arr cap (nL + 1) (snocF L nL x) nB Bz g c gS gB cB (W'.setCell ⟨bx, 6, none⟩ (.slice (some ⟨g, 0, none⟩) (nL + 1) c)) := by
  have h1 := lt_own h.oL
  have h2 := lt_own h.oS
  have h3 := lt_own h.oB
  have hbx := lt_heap h.box
  obtain ⟨n1, n2, n3, n4, n5, n6, n7⟩ := h.ne
  have hb := (hg.block bx hbx (fun e => n2 (by cases e; rfl))).trans h.box
  have gs := grown_set W' ⟨bx, 6, none⟩ (.slice (some ⟨g, 0, none⟩) (nL + 1) c)
  have hgx : g ≠ bx := by rcases ha with e | e <;> omega
  have hgN : w0.heap.size ≤ g := by rcases ha with e | e <;> omega
  refine ⟨box_set hb rfl, ?_, (h.oS.kept hg (.inr (by simp [Value.ownBlock]; omega))).kept gs (.inr (by simp [Value.ownBlock]; omega)), (h.oB.kept hg (.inr (by simp [Value.ownBlock]; omega))).kept gs (.inr (by simp [Value.ownBlock]; omega)), ⟨n1, hgx, n3, n4, by omega, by omega, n7⟩, (h.rd.far hg (fun k e => by cases e; omega)).far gs (fun k e => by cases e; show b < bx; omega), ?_⟩
  · rw [← nl_snoc]; exact ho.kept gs (.inr (by simp [Value.ownBlock]; omega))
  · refine ⟨gs.os.trans (hg.os.trans h.gr.os), gs.tape.trans (hg.tape.trans h.gr.tape), gs.output.trans (hg.output.trans h.gr.output), Nat.le_trans h.gr.size (Nat.le_trans hg.size gs.size), fun k hk hr => ?_⟩
    have hk2 : k < W.heap.size := Nat.lt_of_lt_of_le hk h.gr.size
    have e1 := gs.block k (Nat.lt_of_lt_of_le hk2 hg.size) (fun e => by have e' : k = bx := (by cases e; rfl); omega)
    have e2 := hg.block k hk2 (fun e => by cases e; omega)
    exact e1.trans (e2.trans (h.gr.block k hk hr))
/-- A worth more. -/
theorem Young.appB (h : Young w0 B Q b bx nm fr to dep arr cap nL L nB Bz gL cL gS gB cB W) {x : Int} {g c : Nat} (ho : W'.ownsRow w0.heap.size 3 1 (.slice (some ⟨g, 0, none⟩) (nB + 1) c) (nB + 1) (nl Bz nB ++ [.int .i64 x]))
    (hg : W.grownBy W' (some gB)) (ha : g = gB ∨ g = W.heap.size) :
    Young w0 B Q b bx nm fr to dep arr cap nL L (nB + 1) (snocF Bz nB x) gL cL gS g c (W'.setCell ⟨bx, 8, none⟩ (.slice (some ⟨g, 0, none⟩) (nB + 1) c)) := by
  have h1 := lt_own h.oL
  have h2 := lt_own h.oS
  have h3 := lt_own h.oB
  have hbx := lt_heap h.box
  obtain ⟨n1, n2, n3, n4, n5, n6, n7⟩ := h.ne
  have hb := (hg.block bx hbx (fun e => n4 (by cases e; rfl))).trans h.box
  have gs := grown_set W' ⟨bx, 8, none⟩ (.slice (some ⟨g, 0, none⟩) (nB + 1) c)
  have hgx : g ≠ bx := by rcases ha with e | e <;> omega
  have hgN : w0.heap.size ≤ g := by rcases ha with e | e <;> omega
  refine ⟨box_set hb rfl, (h.oL.kept hg (.inr (by simp [Value.ownBlock]; omega))).kept gs (.inr (by simp [Value.ownBlock]; omega)), (h.oS.kept hg (.inr (by simp [Value.ownBlock]; omega))).kept gs (.inr (by simp [Value.ownBlock]; omega)), ?_, ⟨n1, n2, n3, hgx, n5, by omega, by omega⟩, (h.rd.far hg (fun k e => by cases e; omega)).far gs (fun k e => by cases e; show b < bx; omega), ?_⟩
  · rw [← nl_snoc]; exact ho.kept gs (.inr (by simp [Value.ownBlock]; omega))
  · refine ⟨gs.os.trans (hg.os.trans h.gr.os), gs.tape.trans (hg.tape.trans h.gr.tape), gs.output.trans (hg.output.trans h.gr.output), Nat.le_trans h.gr.size (Nat.le_trans hg.size gs.size), fun k hk hr => ?_⟩
    have hk2 : k < W.heap.size := Nat.lt_of_lt_of_le hk h.gr.size
    have e1 := gs.block k (Nat.lt_of_lt_of_le hk2 hg.size) (fun e => by have e' : k = bx := (by cases e; rfl); omega)
    have e2 := hg.block k hk2 (fun e => by cases e; omega)
    exact e1.trans (e2.trans (h.gr.block k hk hr))
theorem own_numsY {base g n c : Nat} {z : Nat → Int} (h : W.ownsRow base 3 1 (.slice (some ⟨g, 0, none⟩) n c) n (nl z n)) : Nums W (some ⟨g, 0, none⟩) n z :=
  .inr ⟨g, 0, rfl, (lt_own h).2, fun i hi => by rw [Nat.zero_add]; exact (h.cellAt i (by omega)).trans (nl_at z hi)⟩
/-- The slice lies in no cell of block b. -/
def Off (b : Nat) (a : Option Addr) : Prop := ∀ x, a = some x → x.block ≠ b
def LegOff (x : Nat) (d : LegD) (p : LegP) : Prop := (0 < d.nL → Off x p.aL) ∧ (0 < d.nS → Off x p.aS) ∧ (0 < d.nB → Off x p.aB) ∧ (0 < d.nH → Off x p.aH)
end
end Go.Proofs.Ytmlkjlipjkmcfaa
