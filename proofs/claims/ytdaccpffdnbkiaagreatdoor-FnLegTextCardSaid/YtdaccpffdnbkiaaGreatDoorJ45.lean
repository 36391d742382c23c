/-
  A leg that is spoilt once: what holds before, and what after.
  The law's own comparison of legs, of two that are the same.
  What is let go, or kept, once more: nothing is there any more.
  What is kept is sold: the sum of what is sold more is what was held.
  'l = f(l, ..)' as a region that draws its order, l a leg in its box: what holds between its operations.
-/
import Derived.Test.YtdaccpffdnbkiaaGreatDoorLegCopyO
import Derived.Test.YtdaccpffdnbkiaaGreatDoorSoldMath
import Derived.Test.YtdaccpffdnbkiaaGreatDoorJ31
import Derived.Test.YtdaccpffdnbkiaaGreatDoorLegRowT
import Derived.Test.YtdaccpffdnbkiaaGreatDoorJ29
namespace Go.Proofs.YtdaccpffdnbkiaaGreatDoor
open Go.RowKit
set_option linter.unusedVariables false
set_option linter.unusedSimpArgs false

def SFit (d : LegD) (p : LegP) : Prop := Fits d ∧ d.nS ≤ p.cS ∧ d.nH ≤ p.cH
theorem nameB_size {s : ByteArray} (h : nameB s.data.toList = true) : s.size ≤ 8 := by
  simp only [nameB, Bool.and_eq_true, decide_eq_true_eq] at h
  have h2 := h.1.2
  rw [Array.length_toList] at h2
  exact h2
theorem okLeg_fits {d : LegD} (h : OkLeg d) : Fits d := by
  have h1 := nameB_size h.1.1
  have h2 := nameB_size h.1.2.1
  have h3 := nameB_size h.1.2.2.1
  have h4 := h.2.1.2.1
  have h5 := h.2.1.2.2.1
  have h6 := h.2.1.2.2.2.2.1.2
  have h7 := h.2.2.1.1
  exact ⟨by omega, by omega, by omega, by omega, by omega, by omega, by omega⟩
/-- A leg, sound or not, in its box. -/
structure SpInv (w0 : World) (B Q b bx br : Nat) (d : LegD) (p : LegP) (W : World) : Prop where
  box : LegBox W bx d p
  leg : LegIn W d p
  fit : SFit d p
  low : ∀ x, x < w0.heap.size → LegOff x d p
  offx : LegOff bx d p
  rd : RdTo B Q b W
  gr : w0.grownBy W (some b)
  ne : b < w0.heap.size ∧ br < w0.heap.size ∧ w0.heap.size ≤ bx
theorem gr_set {w0 W : World} {b : Nat} (h : w0.grownBy W (some b)) (a : Addr) (v : Value) (ha : w0.heap.size ≤ a.block) : w0.grownBy (W.setCell a v) (some b) := by
  have gs := grown_set W a v
  exact ⟨gs.os.trans h.os, gs.tape.trans h.tape, gs.output.trans h.output, Nat.le_trans h.size gs.size, fun k hk hr => (gs.block k (Nat.lt_of_lt_of_le hk h.size) (fun e => by have e' : k = a.block := (by cases e; rfl); omega)).trans (h.block k hk hr)⟩
/-- One cell of the box is written. -/
theorem sp_set {w0 W : World} {B Q b bx br k : Nat} {d d' : LegD} {p p' : LegP} {v : Value} (hx0 : LegBox W bx d p) (e : LegC d' p' = (LegC d p).setIfInBounds k v) (hl : LegIn W d' p') (hf : SFit d' p') (hlow : ∀ x, x < w0.heap.size → LegOff x d' p') (hx : LegOff bx d' p')
    (rd : RdTo B Q b W) (gr : w0.grownBy W (some b)) (ne : b < w0.heap.size ∧ br < w0.heap.size ∧ w0.heap.size ≤ bx) : SpInv w0 B Q b bx br d' p' (W.setCell ⟨bx, k, none⟩ v) := by
  have gs := grown_set W ⟨bx, k, none⟩ v
  exact ⟨box_set hx0 e, hl.farX hx gs, hf, hlow, hx, rd.far gs (fun q e => by cases e; show b < bx; omega), gr_set gr _ _ ne.2.2, ne⟩
/-- A sound leg in memory of its own, in its box. -/
structure FrInv (w0 : World) (B Q b bx br : Nat) (d : LegD) (p : LegP) (W : World) : Prop where
  box : LegBox W bx d p
  new : LegNew w0.heap.size W d p
  ok : OkLeg d
  oB : OwnB w0.heap.size W d p
  oH : OwnH w0.heap.size W d p
  apart : OffH d p
  offx : LegOff bx d p
  offh : ∀ g, Value.ownBlock (.slice p.aH d.nH p.cH) = some g → g ≠ bx
  rd : RdTo B Q b W
  gr : w0.grownBy W (some b)
  ne : b < w0.heap.size ∧ br < w0.heap.size ∧ w0.heap.size ≤ bx
theorem numsR_low {lo hi g : Nat} {w : World} {a : Option Addr} {len : Nat} {z : Nat → Int} (h : NumsR lo hi w a len z) (hg : g < lo) : 0 < len → Off g a := by
  intro h0 x hx e
  rcases h with h | ⟨k, h1, h2, h3, -⟩
  · omega
  · rw [h1] at hx; cases hx; dsimp only at e; omega
theorem holdsR_low {lo hi g : Nat} {w : World} {a : Option Addr} {len : Nat} {t c s : Nat → Int} (h : HoldsR lo hi w a len t c s) (hg : g < lo) : 0 < len → Off g a := by
  intro h0 x hx e
  rcases h with h | ⟨k, h1, h2, h3, -⟩
  · omega
  · rw [h1] at hx; cases hx; dsimp only at e; omega
theorem LegNew.low {N g : Nat} {w : World} {d : LegD} {p : LegP} (h : LegNew N w d p) (hg : g < N) : LegOff g d p := by
  obtain ⟨hc, b1, b2, b3, b4, q1, q2, q3, q4, q5, h1, h2, h3, h4⟩ := h
  exact ⟨numsR_low h1 hg, numsR_low h2 (by omega), numsR_low h3 (by omega), holdsR_low h4 (by omega)⟩
section
variable {w0 W W' : World} {B Q Q' b bx br : Nat} {d : LegD} {p : LegP}
theorem FrInv.far (h : FrInv w0 B Q b bx br d p W) (hg : W.grownBy W' (some b)) (hr : RdTo B Q' b W') : FrInv w0 B Q' b bx br d p W' :=
  ⟨(hg.block bx (lt_heap h.box) (fun e => by have := h.ne; have e' : bx = b := (by cases e; rfl); omega)).trans h.box, h.new.far hg (fun k e => by cases e; exact h.ne.1), h.ok,
    h.oB.kept hg (.inr (fun e => by have := (h.oB.lt b e).1; have := h.ne; omega)), h.oH.kept hg (.inr (fun e => by have := (h.oH.lt b e).1; have := h.ne; omega)), h.apart, h.offx, h.offh, hr, grown_trans h.gr hg, h.ne⟩
theorem FrInv.mono (h : FrInv w0 B Q b bx br d p W) (hq : Q ≤ Q') : FrInv w0 B Q' b bx br d p W := { h with rd := h.rd.mono hq }
theorem FrInv.below (h : FrInv w0 B Q b bx br d p W) (hb : Below W.heap.size W W') : FrInv w0 B Q b bx br d p W' := h.far (grown_below hb b) (h.rd.below hb)
theorem FrInv.drew (h : FrInv w0 B Q b bx br d p W) : FrInv w0 B Q b bx br d p W.drew := h.far ⟨rfl, rfl, rfl, Nat.le_refl _, fun _ _ _ => rfl⟩ (by obtain ⟨q, h1, h2⟩ := h.rd; exact ⟨q, h1, h2⟩)
theorem FrInv.fits (h : FrInv w0 B Q b bx br d p W) : SFit d p := by
  obtain ⟨hc, -⟩ := h.new
  exact ⟨okLeg_fits h.ok, hc.2.1, hc.2.2.2⟩
/-- A cell of the box that is no list. -/
theorem FrInv.scal (h : FrInv w0 B Q b bx br d p W) {d' : LegD} {k : Nat} {v : Value} (e : LegC d' p = (LegC d p).setIfInBounds k v) (hl : LegIn W d' p) (hf : SFit d' p) (hn : d'.nL = d.nL ∧ d'.nS = d.nS ∧ d'.nB = d.nB ∧ d'.nH = d.nH) : SpInv w0 B Q b bx br d' p (W.setCell ⟨bx, k, none⟩ v) := by
  obtain ⟨n1, n2, n3, n4⟩ := hn
  have tr : ∀ x, LegOff x d p → LegOff x d' p := fun x o => ⟨by rw [n1]; exact o.1, by rw [n2]; exact o.2.1, by rw [n3]; exact o.2.2.1, by rw [n4]; exact o.2.2.2⟩
  exact sp_set h.box e hl hf (fun x hx => tr _ (h.new.low hx)) (tr _ h.offx) h.rd h.gr h.ne
/-- One of the limits is written. -/
theorem FrInv.setL (h : FrInv w0 B Q b bx br d p W) {i : Nat} (hi : i < d.nL) (x : Int) : ∃ g, p.aL = some ⟨g, 0, none⟩ ∧ W.cell? ⟨g, i, none⟩ = some (.int .i64 (d.L i)) ∧ W.frozen? ⟨g, i, none⟩ = false ∧
    SpInv w0 B Q b bx br { d with L := fun j => if j = i then x else d.L j } p (W.setCell ⟨g, i, none⟩ (.int .i64 x)) := by
  have hn := h.new
  obtain ⟨hc, b1, b2, b3, b4, q1, q2, q3, q4, q5, h1, h2, h3, h4⟩ := h.new
  obtain ⟨g, ha, r1, r2, c, f, n⟩ := h1.setAt hi x
  have gs := grown_set W ⟨g, i, none⟩ (.int .i64 x)
  have hgx : g ≠ bx := h.offx.1 (by omega) _ ha
  have hne := h.ne
  refine ⟨g, ha, c, f, ?_, ⟨n.nums, ?_, ?_, ?_⟩, h.fits, fun x hx => hn.low hx, h.offx, h.rd.far gs (fun q e => by cases e; show b < g; omega), gr_set h.gr _ _ r1, h.ne⟩
  · exact (gs.block bx (lt_heap h.box) (fun e => hgx (by cases e; rfl))).trans h.box
  · exact (h2.far gs (fun q e => by cases e; left; show g < b1; omega)).nums
  · exact (h3.far gs (fun q e => by cases e; left; show g < b2; omega)).nums
  · exact (h4.far gs (fun q e => by cases e; left; show g < b3; omega)).holds
/-- One of the sold is written. -/
theorem FrInv.setS (h : FrInv w0 B Q b bx br d p W) {i : Nat} (hi : i < d.nS) (x : Int) : ∃ g, p.aS = some ⟨g, 0, none⟩ ∧ W.cell? ⟨g, i, none⟩ = some (.int .i64 (d.S i)) ∧ W.frozen? ⟨g, i, none⟩ = false ∧
    SpInv w0 B Q b bx br { d with S := fun j => if j = i then x else d.S j } p (W.setCell ⟨g, i, none⟩ (.int .i64 x)) := by
  have hn := h.new
  obtain ⟨hc, b1, b2, b3, b4, q1, q2, q3, q4, q5, h1, h2, h3, h4⟩ := h.new
  obtain ⟨g, ha, r1, r2, c, f, n⟩ := h2.setAt hi x
  have gs := grown_set W ⟨g, i, none⟩ (.int .i64 x)
  have hgx : g ≠ bx := h.offx.2.1 (by omega) _ ha
  have hne := h.ne
  refine ⟨g, ha, c, f, ?_, ⟨?_, n.nums, ?_, ?_⟩, h.fits, fun x hx => hn.low hx, h.offx, h.rd.far gs (fun q e => by cases e; show b < g; omega), gr_set h.gr _ _ (by show _ ≤ g; omega), h.ne⟩
  · exact (gs.block bx (lt_heap h.box) (fun e => hgx (by cases e; rfl))).trans h.box
  · exact (h1.far gs (fun q e => by cases e; right; show b1 ≤ g; omega)).nums
  · exact (h3.far gs (fun q e => by cases e; left; show g < b2; omega)).nums
  · exact (h4.far gs (fun q e => by cases e; left; show g < b3; omega)).holds
/-- The first limit is cut off. -/
theorem FrInv.cutL (h : FrInv w0 B Q b bx br d p W) : ∃ g, p.aL = some ⟨g, 0, none⟩ ∧ d.nL = 3 ∧ 3 ≤ p.cL ∧
    SpInv w0 B Q b bx br { d with nL := 2, L := fun j => d.L (j + 1) } { p with aL := some ⟨g, 1, none⟩, cL := p.cL - 1 } (W.setCell ⟨bx, 6, none⟩ (.slice (some ⟨g, 1, none⟩) 2 (p.cL - 1))) := by
  have hn := h.new
  have h3 : d.nL = 3 := h.ok.2.1.2.1
  obtain ⟨hc, b1, b2, b3, b4, q1, q2, q3, q4, q5, h1, -, -, -⟩ := h.new
  have hl := hn.leg
  rcases h1 with h1 | ⟨g, ha, r1, r2, r3, r4⟩
  · omega
  · have hgx : g ≠ bx := h.offx.1 (by omega) _ ha
    have hne := h.ne
    have tr : ∀ x, g ≠ x → LegOff x d p → LegOff x { d with nL := 2, L := fun j => d.L (j + 1) } { p with aL := some ⟨g, 1, none⟩, cL := p.cL - 1 } := fun x k o => ⟨fun _ y hy => by cases hy; exact k, o.2.1, o.2.2.1, o.2.2.2⟩
    have hfit := h.fits
    refine ⟨g, ha, h3, by omega, sp_set h.box rfl ⟨.inr ⟨g, 1, rfl, r3, fun i hi => ?_⟩, hl.2.1, hl.2.2.1, hl.2.2.2⟩ ⟨⟨hfit.1.1, hfit.1.2.1, hfit.1.2.2.1, by show 2 ≤ 1048576; omega, hfit.1.2.2.2.2⟩, hfit.2⟩ (fun x hx => tr x (by omega) (hn.low hx)) (tr bx hgx h.offx) h.rd h.gr h.ne⟩
    have := (r4 (i + 1) (by rw [h3]; show i + 1 < 3; have : i < 2 := hi; omega)).1
    rw [Nat.add_comm 1 i]; exact this
theorem newsI_snoc (z : Nat → Int) (n : Nat) (x : Int) : newsI z n ++ [.int .i64 x] = newsI (snocF z n x) (n + 1) := nl_snoc z n x
theorem newsI_at (z : Nat → Int) {n i : Nat} (h : i < n) : (newsI z n)[i]? = some (.int .i64 (z i)) := by simp [newsI, h]
/-- A worth more. -/
theorem FrInv.appB (h : FrInv w0 B Q b bx br d p W) {x : Int} {v : Value} (ho : W'.ownsRow w0.heap.size 3 1 v (d.nB + 1) (newsI d.B d.nB ++ [.int .i64 x])) (hg : W.grownBy W' (Value.ownBlock (.slice p.aB d.nB p.cB)))
    (ha : v.ownBlock = Value.ownBlock (.slice p.aB d.nB p.cB) ∨ v.ownBlock = some W.heap.size) (hxW : bx < W.heap.size) :
    ∃ a c, v = .slice a (d.nB + 1) c ∧ W'.cell? ⟨bx, 8, none⟩ = some (.slice p.aB d.nB p.cB) ∧ W'.frozen? ⟨bx, 8, none⟩ = false ∧
      SpInv w0 B Q b bx br { d with nB := d.nB + 1, B := snocF d.B d.nB x } { p with aB := a, cB := c } (W'.setCell ⟨bx, 8, none⟩ (.slice a (d.nB + 1) c)) := by
  have hne := h.ne
  have hn := h.new
  have hnB : 1 ≤ d.nB := by have := h.ok.2.1.2.2.2.2.1.1; omega
  have hfit := h.fits
  have h4 := h.ok.2.1.2.2.2.2.1.2
  obtain ⟨hc, b1, b2, b3, b4, q1, q2, q3, q4, q5, h1, h2, h3, h4'⟩ := h.new
  obtain ⟨gB, eB, r1, r2, r3, -⟩ : ∃ g, p.aB = some ⟨g, 0, none⟩ ∧ b2 ≤ g ∧ g < b3 ∧ g < W.heap.size ∧ True := by
    rcases h3 with h3 | ⟨g, e1, e2, e3, e4, -⟩
    · omega
    · exact ⟨g, e1, e2, e3, e4, trivial⟩
  rw [eB] at hg ha
  have hg' : W.grownBy W' (some gB) := hg
  have ha' : v.ownBlock = some gB ∨ v.ownBlock = some W.heap.size := ha
  rw [newsI_snoc] at ho
  obtain ⟨a, c, rfl, hcc, n⟩ := own_nums (z := snocF d.B d.nB x) ho (fun i hi => newsI_at _ hi)
  have hgx : gB ≠ bx := h.offx.2.2.1 hnB _ eB
  have hbox : LegBox W' bx d p := (hg'.block bx (lt_heap h.box) (fun e => hgx (by cases e; rfl))).trans h.box
  have offn : ∀ y, y ≠ gB → y ≠ W.heap.size → Off y a := fun y k1 k2 q hq e => by
    subst hq
    rcases n with n | ⟨g, e1, -⟩
    · omega
    · cases e1
      rcases ha' with e2 | e2
      · have : g = gB := by cases e2; rfl
        exact k1 (by rw [← e, ← this])
      · have : g = W.heap.size := by cases e2; rfl
        exact k2 (by rw [← e, ← this])
  have hbW := h.rd.lt
  have hbrW : br < W.heap.size := by omega
  have tr : ∀ y, y ≠ gB → y ≠ W.heap.size → LegOff y d p → LegOff y { d with nB := d.nB + 1, B := snocF d.B d.nB x } { p with aB := a, cB := c } := fun y k1 k2 o => ⟨o.1, o.2.1, fun _ => offn y k1 k2, o.2.2.2⟩
  refine ⟨a, c, rfl, hbox.c8, LegBox.fr hbox 8, sp_set hbox rfl ⟨?_, ?_, n.nums, ?_⟩ ⟨⟨hfit.1.1, hfit.1.2.1, hfit.1.2.2.1, hfit.1.2.2.2.1, hfit.1.2.2.2.2.1, by show d.nB + 1 ≤ 1048576; omega, hfit.1.2.2.2.2.2.2⟩, hfit.2⟩
    (fun y hy => tr y (by omega) (by have := h.gr.size; omega) (hn.low hy)) (tr bx (Ne.symm hgx) (by omega) h.offx) (h.rd.far hg' (fun k e => by cases e; omega)) ?_ hne⟩
  · exact (h1.far hg' (fun q e => by cases e; right; omega)).nums
  · exact (h2.far hg' (fun q e => by cases e; right; omega)).nums
  · exact (h4'.far hg' (fun q e => by cases e; left; omega)).holds
  · exact ⟨hg'.os.trans h.gr.os, hg'.tape.trans h.gr.tape, hg'.output.trans h.gr.output, Nat.le_trans h.gr.size hg'.size, fun k hk hr => (hg'.block k (Nat.lt_of_lt_of_le hk h.gr.size) (fun e => by have e' : k = gB := (by cases e; rfl); omega)).trans (h.gr.block k hk hr)⟩
/-- What is held: one more at its end. -/
def endN (d : LegD) (t c s : Int) : List Nd := ndsOf d.t d.c d.s d.nH ++ [⟨0, t, c, s⟩]
theorem endN_len (d : LegD) (t c s : Int) : (endN d t c s).length = d.nH + 1 := by simp [endN, ndsOf_len]
def endD (d : LegD) (t c s : Int) : LegD := { d with nH := d.nH + 1, t := tN (endN d t c s), c := cN (endN d t c s), s := sN (endN d t c s) }
/-- A hold more. -/
theorem FrInv.appH (h : FrInv w0 B Q b bx br d p W) {t c s : Int} {v : Value} (ho : W'.ownsRow w0.heap.size 58 3 v (d.nH + 1) (flatN (ndsOf d.t d.c d.s d.nH) ++ [.int .i64 t, .int .i64 c, .int .i64 s])) (hg : W.grownBy W' (Value.ownBlock (.slice p.aH d.nH p.cH)))
    (ha : v.ownBlock = Value.ownBlock (.slice p.aH d.nH p.cH) ∨ v.ownBlock = some W.heap.size) :
    ∃ a k, v = .slice a (d.nH + 1) k ∧ W'.cell? ⟨bx, 9, none⟩ = some (.slice p.aH d.nH p.cH) ∧ W'.frozen? ⟨bx, 9, none⟩ = false ∧
      SpInv w0 B Q b bx br (endD d t c s) { p with aH := a, cH := k } (W'.setCell ⟨bx, 9, none⟩ (.slice a (d.nH + 1) k)) := by
  have hne := h.ne
  have hn := h.new
  have hfit := h.fits
  have h6 := h.ok.2.2.1.1
  have hbW := h.rd.lt
  have hbx := lt_heap h.box
  have hleg := hn.leg
  have ho2 : W'.ownsRow w0.heap.size 58 3 v (endN d t c s).length (flatN (endN d t c s)) := by
    rw [endN_len]; unfold endN; rw [flatN_app]; exact ho
  obtain ⟨a, k, rfl, hcc, n⟩ := own_holdsR ho2
  rw [endN_len] at *
  obtain ⟨x, gx, oL, oS, oB, xb, x0, hx⟩ : ∃ x, W.grownBy W' (some x) ∧ (0 < d.nL → Off x p.aL) ∧ (0 < d.nS → Off x p.aS) ∧ (0 < d.nB → Off x p.aB) ∧ x ≠ bx ∧ w0.heap.size ≤ x ∧ ∀ g, a = some ⟨g, 0, none⟩ → g = x ∨ g = W.heap.size := by
    cases hr : Value.ownBlock (.slice p.aH d.nH p.cH) with
    | none =>
      rw [hr] at hg ha
      have o := hleg.off_new (Nat.le_refl W.heap.size)
      refine ⟨W.heap.size, ⟨hg.os, hg.tape, hg.output, hg.size, fun k hk _ => hg.block k hk (by simp)⟩, o.1, o.2.1, o.2.2.1, by omega, by have := h.gr.size; omega, fun g e => ?_⟩
      subst e
      rcases ha with e | e
      · cases e
      · right; cases e; rfl
    | some x =>
      rw [hr] at hg ha
      obtain ⟨o1, o2, o3⟩ := h.apart x hr
      refine ⟨x, hg, o1, o2, o3, h.offh x hr, (h.oH.lt x hr).1, fun g e => ?_⟩
      subst e
      rcases ha with e | e
      · left; cases e; rfl
      · right; cases e; rfl
  have hbox : LegBox W' bx d p := (gx.block bx hbx (fun e => xb (by cases e; rfl))).trans h.box
  have offn : ∀ y, y ≠ x → y ≠ W.heap.size → Off y a := fun y k1 k2 q hq e => by
    rcases n with n | ⟨g, e1, -⟩
    · omega
    · have := hx g e1
      rw [hq] at e1; cases e1
      dsimp only at e
      omega
  have tr : ∀ y, y ≠ x → y ≠ W.heap.size → LegOff y d p → LegOff y (endD d t c s) { p with aH := a, cH := k } := fun y k1 k2 o => ⟨o.1, o.2.1, o.2.2.1, fun _ => offn y k1 k2⟩
  refine ⟨a, k, rfl, hbox.c9, LegBox.fr hbox 9, sp_set hbox rfl ⟨hleg.1.farX oL gx, hleg.2.1.farX oS gx, hleg.2.2.1.farX oB gx, n.holds⟩ ⟨⟨hfit.1.1, hfit.1.2.1, hfit.1.2.2.1, hfit.1.2.2.2.1, hfit.1.2.2.2.2.1, hfit.1.2.2.2.2.2.1, by show d.nH + 1 ≤ 1048576; omega⟩, hfit.2.1, hcc⟩
    (fun y hy => tr y (by omega) (by have := h.gr.size; omega) (hn.low hy)) (tr bx (Ne.symm xb) (by omega) h.offx) (h.rd.far gx (fun k e => by cases e; omega)) ?_ hne⟩
  exact ⟨gx.os.trans h.gr.os, gx.tape.trans h.gr.tape, gx.output.trans h.gr.output, Nat.le_trans h.gr.size gx.size, fun k hk hr => (gx.block k (Nat.lt_of_lt_of_le hk h.gr.size) (fun e => by have e' : k = x := (by cases e; rfl); omega)).trans (h.gr.block k hk hr)⟩
/-- What is handed back: any leg. -/
def DrawnAny (B Q b : Nat) (w : World) (e : Ending) (w' : World) : Prop := ∃ d p', e = .returned (LegV d p') ∧ Hid (SFit d p') ∧ LegIn w' d p' ∧ LegOff b d p' ∧ (∀ x, x < w.heap.size → LegOff x d p') ∧ RdTo B Q b w' ∧ w.grownBy w' (some b)
end
end Go.Proofs.YtdaccpffdnbkiaaGreatDoor

namespace Go.Proofs.YtdaccpffdnbkiaaGreatDoor
open Go.RowKit
set_option linter.unusedVariables false
set_option linter.unusedSimpArgs false

set_option maxHeartbeats 1000000 in
theorem wsIntsS (a a' : Option Addr) (len cap cap' : Nat) (z : Nat → Int) (w : World) (h : Nums w a len z) (h' : Nums w a' len z) (hl : len ≤ 1048576) :
    Calls Tryz.prog 32 #[.slice a len cap, .slice a' len cap'] w fun e w' => e = .returned (.bool true) ∧ Drew w w' := by
  go_enter Tryz.func32, Tryz.ntmps32
  go_wp2_with fail
  go_loopw [5] (fun i wr => ∃ k : Nat, k ≤ len ∧ i = .int .i64 k ∧ ∃ q, wr = w.drewN q) (fun i _ => len - (intOf i).toNat)
  case atStart => exact ⟨0, Nat.zero_le _, rfl, 0, rfl⟩
  case round =>
    obtain ⟨k, hk, rfl, q, rfl⟩ := hrel
    rcases Nat.lt_or_ge k len with hlt | hge
    · rcases h with hc | ⟨b, off, rfl, hbl, hcell⟩
      · omega
      rcases h' with hc' | ⟨b', off', rfl, hbl', hcell'⟩
      · omega
      have c1 := hcell k hlt
      have c2 := hcell' k hlt
      clear hcell hcell'
      generalize z k = s at *
      have k1 : (k : Int) < len := by omega
      have k0 : (0 : Int) ≤ k := by omega
      go_wp2_with fail
      go_quiet (fail)
      go_wp2
      go_roundw
      case rel => exact ⟨k + 1, by omega, by go_num, _, rfl⟩
      case measure => simp [intOf]; omega
    · obtain rfl : k = len := by omega
      go_wp2
      go_ret
      exact ⟨rfl, q, rfl⟩
set_option maxHeartbeats 4000000 in
theorem wsLegS (d : LegD) (p q : LegP) (w : World) (h : LegIn w d p) (h' : LegIn w d q) (hf : Fits d) :
    Calls Tryz.prog 11 #[LegV d p, LegV d q] w fun e w' => e = .returned (.bool true) ∧ Below w.heap.size w w' := by
  obtain ⟨nm, fr, dst, dep, arr, cap, nL, L, nS, S, nB, B, nH, t, c, s⟩ := d
  obtain ⟨aL, cL, aS, cS, aB, cB, aH, cH⟩ := p
  obtain ⟨bL, kL, bS, kS, bB, kB, bH, kH⟩ := q
  obtain ⟨f1, f2, f3, f4, f5, f6, f7⟩ := hf
  obtain ⟨i1, i2, i3, i4⟩ := h
  obtain ⟨j1, j2, j3, j4⟩ := h'
  dsimp only at f1 f2 f3 f4 f5 f6 f7 i1 i2 i3 i4 j1 j2 j3 j4
  have I1 := Lib.hid i1
  have I2 := Lib.hid i2
  have I3 := Lib.hid i3
  have I4 := Lib.hid i4
  have J1 := Lib.hid j1
  have J2 := Lib.hid j2
  have J3 := Lib.hid j3
  have J4 := Lib.hid j4
  clear i1 i2 i3 i4 j1 j2 j3 j4
  unfold LegV
  dsimp only
  have hA : Below w.heap.size w ((w.alloc (.cells #[Value.string nm, Value.string fr, Value.string dst, Value.int IntKind.i64 dep, Value.int IntKind.i64 arr, Value.int IntKind.i64 cap, Value.slice aL nL cL, Value.slice aS nS cS, Value.slice aB nB cB, Value.slice aH nH cH] 25)).alloc (.cells #[Value.string nm, Value.string fr, Value.string dst, Value.int IntKind.i64 dep, Value.int IntKind.i64 arr, Value.int IntKind.i64 cap, Value.slice bL nL kL, Value.slice bS nS kS, Value.slice bB nB kB, Value.slice bH nH kH] 25)) := ((Below.refl _ _).alloc (Nat.le_refl _) _).alloc (by simp) _
  have X1 : LegBx ((w.alloc (.cells #[Value.string nm, Value.string fr, Value.string dst, Value.int IntKind.i64 dep, Value.int IntKind.i64 arr, Value.int IntKind.i64 cap, Value.slice aL nL cL, Value.slice aS nS cS, Value.slice aB nB cB, Value.slice aH nH cH] 25)).alloc (.cells #[Value.string nm, Value.string fr, Value.string dst, Value.int IntKind.i64 dep, Value.int IntKind.i64 arr, Value.int IntKind.i64 cap, Value.slice bL nL kL, Value.slice bS nS kS, Value.slice bB nB kB, Value.slice bH nH kH] 25)) w.heap.size 25 ⟨nm, fr, dst, dep, arr, cap, nL, L, nS, S, nB, B, nH, t, c, s⟩ ⟨aL, cL, aS, cS, aB, cB, aH, cH⟩ := (LegBx.new w 25 ⟨nm, fr, dst, dep, arr, cap, nL, L, nS, S, nB, B, nH, t, c, s⟩ ⟨aL, cL, aS, cS, aB, cB, aH, cH⟩).kept ((Below.refl _ _).alloc (Nat.le_refl _) _)
  have X2 : LegBx ((w.alloc (.cells #[Value.string nm, Value.string fr, Value.string dst, Value.int IntKind.i64 dep, Value.int IntKind.i64 arr, Value.int IntKind.i64 cap, Value.slice aL nL cL, Value.slice aS nS cS, Value.slice aB nB cB, Value.slice aH nH cH] 25)).alloc (.cells #[Value.string nm, Value.string fr, Value.string dst, Value.int IntKind.i64 dep, Value.int IntKind.i64 arr, Value.int IntKind.i64 cap, Value.slice bL nL kL, Value.slice bS nS kS, Value.slice bB nB kB, Value.slice bH nH kH] 25)) (w.heap.size + 1) 25 ⟨nm, fr, dst, dep, arr, cap, nL, L, nS, S, nB, B, nH, t, c, s⟩ ⟨bL, kL, bS, kS, bB, kB, bH, kH⟩ := by
    have := LegBx.new (w.alloc (.cells #[Value.string nm, Value.string fr, Value.string dst, Value.int IntKind.i64 dep, Value.int IntKind.i64 arr, Value.int IntKind.i64 cap, Value.slice aL nL cL, Value.slice aS nS cS, Value.slice aB nB cB, Value.slice aH nH cH] 25)) 25 ⟨nm, fr, dst, dep, arr, cap, nL, L, nS, S, nB, B, nH, t, c, s⟩ ⟨bL, kL, bS, kS, bB, kB, bH, kH⟩
    rwa [World.size_alloc] at this
  have HA := Lib.hid hA
  have HX1 := Lib.hid X1
  have HX2 := Lib.hid X2
  clear hA X1 X2
  go_enter Tryz.func11, Tryz.ntmps11
  go_wp2_with fail
  refine (wsIntsS aL bL nL _ _ L _ (I1.out.kept HA.out) (J1.out.kept HA.out) f4).mono ?_
  rintro e w' ⟨rfl, q1, rfl⟩
  go_wp2_with fail
  refine (wsIntsS aS bS nS _ _ S _ (I2.out.kept (belowN HA.out _)) (J2.out.kept (belowN HA.out _)) f5).mono ?_
  rintro e w' ⟨rfl, q2, rfl⟩
  go_wp2_with fail
  refine (wsIntsS aB bB nB _ _ B _ (I3.out.kept (belowN HA.out _)) (J3.out.kept (belowN HA.out _)) f6).mono ?_
  rintro e w' ⟨rfl, q3, rfl⟩
  go_wp2_with fail
  generalize ((w.alloc (.cells #[Value.string nm, Value.string fr, Value.string dst, Value.int IntKind.i64 dep, Value.int IntKind.i64 arr, Value.int IntKind.i64 cap, Value.slice aL nL cL, Value.slice aS nS cS, Value.slice aB nB cB, Value.slice aH nH cH] 25)).alloc (.cells #[Value.string nm, Value.string fr, Value.string dst, Value.int IntKind.i64 dep, Value.int IntKind.i64 arr, Value.int IntKind.i64 cap, Value.slice bL nL kL, Value.slice bS nS kS, Value.slice bB nB kB, Value.slice bH nH kH] 25)) = w1 at *
  go_loopw [5] (fun i wr => ∃ k : Nat, k ≤ nH ∧ i = .int .i64 k ∧ ∃ q, wr = w1.drewN q) (fun i _ => nH - (intOf i).toNat)
  case atStart => exact ⟨0, Nat.zero_le _, rfl, _, rfl⟩
  case round =>
    obtain ⟨k, hk, rfl, q, rfl⟩ := hrel
    have Y1 := HX1.out
    have Y2 := HX2.out
    have y9 := Y1.c9
    have x9 := Y2.c9
    clear Y1 Y2
    dsimp only at y9 x9
    rcases Nat.lt_or_ge k nH with hlt | hge
    · rcases I4.out.kept HA.out with hc | ⟨b, off, rfl, hbl, hcell⟩
      · omega
      rcases J4.out.kept HA.out with hc' | ⟨b', off', rfl, hbl', hcell'⟩
      · omega
      obtain ⟨c1, c2, c3⟩ := hcell k hlt
      obtain ⟨d1, d2, d3⟩ := hcell' k hlt
      clear hcell hcell'
      generalize t k = x at *
      generalize c k = y at *
      generalize s k = z at *
      have k1 : (k : Int) < nH := by omega
      have k0 : (0 : Int) ≤ k := by omega
      go_wp2_with fail
      go_quiet (fail)
      go_wp2
      go_roundw
      case rel => exact ⟨k + 1, by omega, by go_num, _, rfl⟩
      case measure => simp [intOf]; omega
    · obtain rfl : k = nH := by omega
      go_wp2
      go_ret
      exact ⟨rfl, belowN HA.out _⟩
end Go.Proofs.YtdaccpffdnbkiaaGreatDoor

namespace Go.Proofs.YtdaccpffdnbkiaaGreatDoor
open Go.RowKit
set_option linter.unusedVariables false
set_option linter.unusedSimpArgs false

theorem posT_all {t : Nat → Int} {x : Int} : ∀ n, ¬ posT t x n < n → ∀ i, i < n → t i ≠ x
  | 0, _, i, hi => absurd hi (Nat.not_lt_zero _)
  | n + 1, h, i, hi => by
    simp only [posT] at h
    by_cases h1 : posT t x n < n
    · rw [if_pos h1] at h; omega
    · rw [if_neg h1] at h
      by_cases h2 : t n = x
      · rw [if_pos h2] at h; omega
      · rcases Nat.lt_or_ge i n with q | q
        · exact posT_all n h1 i q
        · obtain rfl : i = n := by omega
          exact h2
theorem del_gone {d : LegD} (h : HoldsOk d) {k : Nat} {x : Int} (hk : k < d.nH) (hx : d.t k = x) : ∀ i, i < d.nH - 1 → d.t (sk k i) ≠ x := by
  intro i hi
  unfold sk
  split
  · have := asc_of h (i := i) (j := k) (by assumption) hk; omega
  · have := asc_of h (i := k) (j := i + 1) (by omega) (by omega); omega
theorem drop_gone {d : LegD} (h : HoldsOk d) (x : Int) : ∀ i, i < (dropD d x).nH → (dropD d x).t i ≠ x := by
  unfold dropD
  split
  · rename_i hk
    exact del_gone h hk (posT_has _ hk)
  · rename_i hk
    exact posT_all _ hk
theorem keep_gone {d : LegD} (h : HoldsOk d) (x : Int) : ∀ i, i < (keepD d x).nH → (keepD d x).t i ≠ x := by
  unfold keepD
  split
  · rename_i hk
    exact del_gone h hk (posT_has _ hk)
  · rename_i hk
    exact posT_all _ hk
theorem drop_none {g : LegD} {x : Int} (h : ∀ i, i < g.nH → g.t i ≠ x) : dropD g x = g := by
  unfold dropD
  rw [if_neg (by rw [posT_no _ h]; omega)]
theorem keep_none {g : LegD} {x : Int} (h : ∀ i, i < g.nH → g.t i ≠ x) : keepD g x = g := by
  unfold keepD
  rw [if_neg (by rw [posT_no _ h]; omega)]
theorem drop_S (d : LegD) (x : Int) : (dropD d x).S = d.S ∧ (dropD d x).nS = d.nS ∧ d.nH - 1 ≤ (dropD d x).nH := by
  unfold dropD
  split
  · exact ⟨rfl, rfl, Nat.le_refl _⟩
  · exact ⟨rfl, rfl, Nat.sub_le _ _⟩
theorem post_one {d g a b : LegD} (h : (OkLeg d → a = g) ∧ (¬ OkLeg d → a = zeroD)) (k : (OkLeg d → b = g) ∧ (¬ OkLeg d → b = zeroD)) : a = b := by
  by_cases q : OkLeg d
  · rw [h.1 q, k.1 q]
  · rw [h.2 q, k.2 q]
theorem zero_fits : Fits zeroD := by refine ⟨?_, ?_, ?_, ?_, ?_, ?_, ?_⟩ <;> decide
theorem post_fits {d g a : LegD} (hg : OkLeg d → OkLeg g) (h : (OkLeg d → a = g) ∧ (¬ OkLeg d → a = zeroD)) : Fits a := by
  by_cases q : OkLeg d
  · rw [h.1 q]; exact okLeg_fits (hg q)
  · rw [h.2 q]; exact zero_fits
/-- A leg that was handed back, in whatever memory. -/
def Ls (g : LegD) (W : World) (v : Value) : Prop := ∃ q, v = LegV g q ∧ LegIn W g q
theorem Ls.kept {g : LegD} {W W' : World} {v : Value} (h : Ls g W v) (hb : Below W.heap.size W W') : Ls g W' v := by
  obtain ⟨q, e, hi⟩ := h
  exact ⟨q, e, hi.kept hb⟩
end Go.Proofs.YtdaccpffdnbkiaaGreatDoor

namespace Go.Proofs.YtdaccpffdnbkiaaGreatDoor
open Go.RowKit
set_option linter.unusedVariables false
set_option linter.unusedSimpArgs false

def lastH (t s : Nat → Int) (y : Int) : Nat → Int
  | 0 => 0
  | n + 1 => if t n = y then s n else lastH t s y n
theorem last_pos {t s : Nat → Int} {y : Int} {m : Nat} (h : ∀ i j, i < j → j < m → t i < t j) : ∀ n, n ≤ m → lastH t s y n = if posT t y n < n then s (posT t y n) else 0
  | 0, _ => rfl
  | n + 1, hn => by
    have ih := last_pos (s := s) (y := y) h n (by omega)
    have e : posT t y (n + 1) = if posT t y n < n then posT t y n else if t n = y then n else n + 1 := rfl
    have g : lastH t s y (n + 1) = if t n = y then s n else lastH t s y n := rfl
    rw [g]
    by_cases h1 : posT t y n < n
    · have h2 := posT_has _ h1
      have h3 := h (posT t y n) n h1 (by omega)
      have h4 : t n ≠ y := by omega
      rw [if_pos h1] at e
      rw [if_neg h4, ih, if_pos h1, if_pos (show posT t y (n + 1) < n + 1 by omega), e]
    · rw [if_neg h1] at e
      by_cases h2 : t n = y
      · rw [if_pos h2] at e
        rw [if_pos h2, if_pos (show posT t y (n + 1) < n + 1 by omega), e]
      · rw [if_neg h2] at e
        rw [if_neg h2, ih, if_neg h1, if_neg (show ¬ posT t y (n + 1) < n + 1 by omega)]
theorem keep_sum {d : LegD} (h : OkLeg d) (y : Int) : sumF (fun i => (keepD d y).S i - d.S i) 3 = lastH d.t d.s y d.nH := by
  rw [last_pos (fun i j hij hj => asc_of h.2.2.1 hij hj) d.nH (Nat.le_refl _)]
  unfold keepD
  split
  · rename_i hk
    have hc := (h.2.2.1.2 _ hk).1.2.1
    generalize posT d.t y d.nH = k at *
    simp only [sumF]
    rcases (by omega : d.c k = 0 ∨ d.c k = 1 ∨ d.c k = 2) with e | e | e <;> simp [e] <;> omega
  · simp [sumF]
theorem sold_box {d : LegD} (h : OkLeg d) (i : Nat) (hi : i < 3) : 0 ≤ d.S i ∧ d.S i ≤ 9 := by
  have h1 := h.2.1.2.2.2.1 i hi
  have h2 := h.2.1.1
  omega
theorem sumF_box {f : Nat → Int} (h : ∀ i, i < 3 → -9 ≤ f i ∧ f i ≤ 9) : ∀ n, n ≤ 3 → -9 * n ≤ sumF f n ∧ sumF f n ≤ 9 * n
  | 0, _ => by simp [sumF]
  | n + 1, hn => by
    have ih := sumF_box h n (by omega)
    have := h n (by omega)
    simp only [sumF]
    omega
end Go.Proofs.YtdaccpffdnbkiaaGreatDoor

namespace Go.Proofs.YtdaccpffdnbkiaaGreatDoor
open Go.RowKit
set_option linter.unusedVariables false
set_option linter.unusedSimpArgs false

structure T1 (m bx : Nat) (I : Nat → World → Prop) (S : Nat → World → Value → Prop) (R : LegD → LegP → World → Prop) (k : Nat) (L : Nat → Bool) (f : Nat → Value) (W : World) : Prop where
  inv : L m = false → L (m + 1) = false → I k W
  pre : ∀ i, i < m → L i = true → L m = false → S i W (f i)
  call : L m = true → L (m + 1) = false → ∃ dd q, f m = LegV dd q ∧ R dd q W
  done : L (m + 1) = true → ∃ dd q W0, R dd q W0 ∧ W = W0.setRow bx (LegC dd q)
section
variable {m bx : Nat} {I : Nat → World → Prop} {S : Nat → World → Value → Prop} {R : LegD → LegP → World → Prop} {k : Nat} {L : Nat → Bool} {f : Nat → Value} {W W' : World}
theorem T1.start (h : I 0 W) : T1 m bx I S R 0 (fun _ => false) f W := ⟨fun _ _ => h, fun _ _ a => (by cases a), fun a => (by cases a), fun a => (by cases a)⟩
theorem T1.pre_op (h : T1 m bx I S R k L f W) {i : Nat} {v : Value} (hi : i < m) (hm : L m = false) (hm1 : L (m + 1) = false) (hI : I (k + 1) W') (hS : ∀ j v, S j W v → S j W' v) (hv : S i W' v) : T1 m bx I S R (k + 1) (upd L i true) (upd f i v) W' := by
  have u : ∀ {α : Type} (g : Nat → α) (x : α) (j : Nat), m ≤ j → upd g i x j = g j := fun g x j hj => upd_ne g x (by omega)
  refine ⟨fun _ _ => hI, ?_, ?_, ?_⟩
  · intro j hj hL _
    by_cases e : j = i
    · subst e; rw [upd_self]; exact hv
    · rw [upd_ne _ _ e] at hL ⊢; exact hS _ _ (h.pre j hj hL hm)
  · rw [u _ _ _ (Nat.le_refl _), hm]; exact fun a => by cases a
  · rw [u _ _ _ (by omega), hm1]; exact fun a => by cases a
theorem T1.call_op (h : T1 m bx I S R k L f W) {dd : LegD} {q : LegP} (hm1 : L (m + 1) = false) (hR : R dd q W') : T1 m bx I S R (k + 1) (upd L m true) (upd f m (LegV dd q)) W' := by
  refine ⟨fun a => (by rw [upd_self] at a; cases a), fun _ _ _ a => (by rw [upd_self] at a; cases a), fun _ _ => ⟨dd, q, upd_self _ _ _, hR⟩, ?_⟩
  rw [upd_ne _ _ (by omega), hm1]; exact fun a => by cases a
theorem T1.store_op (h : T1 m bx I S R k L f W) (hm : L m = true) (hm1 : L (m + 1) = false) : ∃ dd q, f m = LegV dd q ∧ R dd q W ∧ ∀ v, T1 m bx I S R (k + 1) (upd L (m + 1) true) (upd f (m + 1) v) (W.setRow bx (LegC dd q)) := by
  obtain ⟨dd, q, h1, h2⟩ := h.call hm hm1
  refine ⟨dd, q, h1, h2, fun v => ⟨fun _ a => (by rw [upd_self] at a; cases a), fun i hi _ a => (by rw [upd_ne _ _ (by omega), hm] at a; cases a), fun _ a => (by rw [upd_self] at a; cases a), fun _ => ⟨dd, q, W, h2, rfl⟩⟩⟩
end
end Go.Proofs.YtdaccpffdnbkiaaGreatDoor
