/-
  A leg that is being drawn: its lists lie in memory of its own, none in another one's.
  'l.Bids = append(l.Bids, l.Bids[len(l.Bids)-1]*r.pick(10)/10)': what holds between its operations.
-/
import Derived.Test.YtdaccpffdnbkiaaGreatDoorRdL
import Derived.Test.YtdaccpffdnbkiaaGreatDoorJ29
import Derived.Test.YtdaccpffdnbkiaaGreatDoorFree
import Derived.Deep.AppendLies
namespace Go.Proofs.YtdaccpffdnbkiaaGreatDoor
open Go.RowKit
set_option linter.unusedVariables false
set_option linter.unusedSimpArgs false

def nl (z : Nat → Int) (n : Nat) : List Value := (List.range n).map fun i => .int .i64 (z i)
theorem nl_len (z : Nat → Int) (n : Nat) : (nl z n).length = n := by simp [nl]
theorem nl_at (z : Nat → Int) {n i : Nat} (h : i < n) : (nl z n)[i]? = some (.int .i64 (z i)) := by simp [nl, h]
def snocF (z : Nat → Int) (n : Nat) (x : Int) : Nat → Int := fun i => if i < n then z i else x
theorem nl_snoc (z : Nat → Int) (n : Nat) (x : Int) : nl z n ++ [.int .i64 x] = nl (snocF z n x) (n + 1) := by
  apply List.ext_getElem?
  intro i
  rcases Nat.lt_trichotomy i n with h | h | h
  · rw [List.getElem?_append_left (by rw [nl_len]; exact h), nl_at _ h, nl_at _ (by omega)]; simp [snocF, h]
  · subst h
    rw [List.getElem?_append_right (by rw [nl_len]; omega), nl_len, nl_at _ (by omega)]; simp [snocF]
  · rw [List.getElem?_eq_none (by simp [nl_len]; omega), List.getElem?_eq_none (by simp [nl_len]; omega)]
def mkD (nm fr to : ByteArray) (dep arr cap : Int) (nL : Nat) (L : Nat → Int) (nB : Nat) (Bz : Nat → Int) : LegD := ⟨nm, fr, to, dep, arr, cap, nL, L, 3, fun _ => 0, nB, Bz, 0, fun _ => 0, fun _ => 0, fun _ => 0⟩
def mkP (gL cL gS gB cB : Nat) : LegP := ⟨some ⟨gL, 0, none⟩, cL, some ⟨gS, 0, none⟩, 3, some ⟨gB, 0, none⟩, cB, none, 0⟩
/-- The reader has come to q at most. -/
def RdTo (B Q b : Nat) (W : World) : Prop := ∃ q, q ≤ Q ∧ Rd B W b q
theorem RdTo.alloc {B Q b : Nat} {W : World} (h : RdTo B Q b W) (o : Obj) : RdTo B Q b (W.alloc o) := by
  obtain ⟨q, h1, h2⟩ := h
  exact ⟨q, h1, rd_alloc h2 o⟩
theorem RdTo.far {B Q b : Nat} {W W' : World} {row : Option Nat} (h : RdTo B Q b W) (hg : W.grownBy W' row) (hr : ∀ k, row = some k → b < k) : RdTo B Q b W' := by
  obtain ⟨q, h1, h2⟩ := h
  exact ⟨q, h1, h2.kept ⟨hg.os, hg.tape, hg.output, hg.size, fun k hk => hg.block k (by have := h2.le; omega) (fun e => by have := hr k e.symm; have := h2.le; omega)⟩ (hg.block b h2.le.2 (fun e => by have := hr b e.symm; omega))⟩
theorem RdTo.mono {B Q Q' b : Nat} {W : World} (h : RdTo B Q b W) (hq : Q ≤ Q') : RdTo B Q' b W := by
  obtain ⟨q, h1, h2⟩ := h
  exact ⟨q, by omega, h2⟩
theorem RdTo.lt {B Q b : Nat} {W : World} (h : RdTo B Q b W) : b < W.heap.size := by
  obtain ⟨q, h1, h2⟩ := h
  exact h2.le.2

structure Young (w0 : World) (B Q b bx : Nat) (nm fr to : ByteArray) (dep arr cap : Int) (nL : Nat) (L : Nat → Int) (nB : Nat) (Bz : Nat → Int) (gL cL gS gB cB : Nat) (W : World) : Prop where
  box : LegBox W bx (mkD nm fr to dep arr cap nL L nB Bz) (mkP gL cL gS gB cB)
  oL : W.ownsRow w0.heap.size 3 1 (.slice (some ⟨gL, 0, none⟩) nL cL) nL (nl L nL)
  oS : W.ownsRow w0.heap.size 3 1 (.slice (some ⟨gS, 0, none⟩) 3 3) 3 (nl (fun _ => 0) 3)
  oB : W.ownsRow w0.heap.size 3 1 (.slice (some ⟨gB, 0, none⟩) nB cB) nB (nl Bz nB)
  ne : (b < w0.heap.size ∧ w0.heap.size ≤ bx) ∧ gL ≠ bx ∧ gS ≠ bx ∧ gB ≠ bx ∧ gL ≠ gS ∧ gL ≠ gB ∧ gS ≠ gB
  rd : RdTo B Q b W
  gr : w0.grownBy W (some b)
section
variable {w0 W W' : World} {B Q b bx : Nat} {nm fr to : ByteArray} {dep arr cap : Int} {nL : Nat} {L : Nat → Int} {nB : Nat} {Bz : Nat → Int} {gL cL gS gB cB : Nat}
theorem lt_own {g n cap base : Nat} {e : TypeId} {size : Nat} {xs : List Value} (h : W.ownsRow base e size (.slice (some ⟨g, 0, none⟩) n cap) n xs) : base ≤ g ∧ g < W.heap.size := h.lt g rfl
theorem Young.far (h : Young w0 B Q b bx nm fr to dep arr cap nL L nB Bz gL cL gS gB cB W) {Q' : Nat} (hg : W.grownBy W' (some b)) (hr : RdTo B Q' b W') : Young w0 B Q' b bx nm fr to dep arr cap nL L nB Bz gL cL gS gB cB W' := by
  have h1 := lt_own h.oL
  have h2 := lt_own h.oS
  have h3 := lt_own h.oB
  have h0 := h.ne.1
  exact ⟨(hg.block bx (lt_heap h.box) (fun e => by have := h.ne.1; cases e; omega)).trans h.box, h.oL.kept hg (.inr (by simp [Value.ownBlock]; omega)), h.oS.kept hg (.inr (by simp [Value.ownBlock]; omega)),
    h.oB.kept hg (.inr (by simp [Value.ownBlock]; omega)), h.ne, hr, grown_trans h.gr hg⟩
theorem Young.alloc (h : Young w0 B Q b bx nm fr to dep arr cap nL L nB Bz gL cL gS gB cB W) (o : Obj) : Young w0 B Q b bx nm fr to dep arr cap nL L nB Bz gL cL gS gB cB (W.alloc o) :=
  h.far (World.grownBy_alloc W o _) (h.rd.alloc o)
theorem Young.L_at (h : Young w0 B Q b bx nm fr to dep arr cap nL L nB Bz gL cL gS gB cB W) {i : Nat} (hi : i < nL) : W.cell? ⟨gL, i, none⟩ = some (.int .i64 (L i)) := (h.oL.cellAt i (by omega)).trans (nl_at L hi)
theorem Young.B_at (h : Young w0 B Q b bx nm fr to dep arr cap nL L nB Bz gL cL gS gB cB W) {i : Nat} (hi : i < nB) : W.cell? ⟨gB, i, none⟩ = some (.int .i64 (Bz i)) := (h.oB.cellAt i (by omega)).trans (nl_at Bz hi)
theorem box_set {W : World} {bx : Nat} {d d' : LegD} {p p' : LegP} (h : LegBox W bx d p) {k : Nat} {v : Value} (e : LegC d' p' = (LegC d p).setIfInBounds k v) : LegBox (W.setCell ⟨bx, k, none⟩ v) bx d' p' := by
  have := set_same (i := k) h v
  rw [← e] at this
  exact this
/-- A limit more. -/
theorem Young.appL (h : Young w0 B Q b bx nm fr to dep arr cap nL L nB Bz gL cL gS gB cB W) {x : Int} {g c : Nat} (ho : W'.ownsRow w0.heap.size 3 1 (.slice (some ⟨g, 0, none⟩) (nL + 1) c) (nL + 1) (nl L nL ++ [.int .i64 x]))
    (hg : W.grownBy W' (some gL)) (ha : g = gL ∨ g = W.heap.size) :
    Young w0 B Q b bx nm fr to dep arr cap (nL + 1) (snocF L nL x) nB Bz g c gS gB cB (W'.setCell ⟨bx, 6, none⟩ (.slice (some ⟨g, 0, none⟩) (nL + 1) c)) := by
  have h1 := lt_own h.oL
  have h2 := lt_own h.oS
  have h3 := lt_own h.oB
  have hbx := lt_heap h.box
  obtain ⟨n1, n2, n3, n4, n5, n6, n7⟩ := h.ne
  have hb := (hg.block bx hbx (fun e => n2 (by cases e; rfl))).trans h.box
  have gs := grown_set W' ⟨bx, 6, none⟩ (.slice (some ⟨g, 0, none⟩) (nL + 1) c)
  have hgx : g ≠ bx := by rcases ha with e | e <;> omega
  have hgN : w0.heap.size ≤ g := by rcases ha with e | e <;> omega
  refine ⟨box_set hb rfl, ?_, (h.oS.kept hg (.inr (by simp [Value.ownBlock]; omega))).kept gs (.inr (by simp [Value.ownBlock]; omega)), (h.oB.kept hg (.inr (by simp [Value.ownBlock]; omega))).kept gs (.inr (by simp [Value.ownBlock]; omega)), ⟨n1, hgx, n3, n4, by omega, by omega, n7⟩, (h.rd.far hg (fun k e => by cases e; omega)).far gs (fun k e => by cases e; show b < bx; omega), ?_⟩
  · rw [← nl_snoc]; exact ho.kept gs (.inr (by simp [Value.ownBlock]; omega))
  · refine ⟨gs.os.trans (hg.os.trans h.gr.os), gs.tape.trans (hg.tape.trans h.gr.tape), gs.output.trans (hg.output.trans h.gr.output), Nat.le_trans h.gr.size (Nat.le_trans hg.size gs.size), fun k hk hr => ?_⟩
    have hk2 : k < W.heap.size := Nat.lt_of_lt_of_le hk h.gr.size
    have e1 := gs.block k (Nat.lt_of_lt_of_le hk2 hg.size) (fun e => by have e' : k = bx := (by cases e; rfl); omega)
    have e2 := hg.block k hk2 (fun e => by cases e; omega)
    exact e1.trans (e2.trans (h.gr.block k hk hr))
/-- A worth more. -/
theorem Young.appB (h : Young w0 B Q b bx nm fr to dep arr cap nL L nB Bz gL cL gS gB cB W) {x : Int} {g c : Nat} (ho : W'.ownsRow w0.heap.size 3 1 (.slice (some ⟨g, 0, none⟩) (nB + 1) c) (nB + 1) (nl Bz nB ++ [.int .i64 x]))
    (hg : W.grownBy W' (some gB)) (ha : g = gB ∨ g = W.heap.size) :
    Young w0 B Q b bx nm fr to dep arr cap nL L (nB + 1) (snocF Bz nB x) gL cL gS g c (W'.setCell ⟨bx, 8, none⟩ (.slice (some ⟨g, 0, none⟩) (nB + 1) c)) := by
  have h1 := lt_own h.oL
  have h2 := lt_own h.oS
  have h3 := lt_own h.oB
  have hbx := lt_heap h.box
  obtain ⟨n1, n2, n3, n4, n5, n6, n7⟩ := h.ne
  have hb := (hg.block bx hbx (fun e => n4 (by cases e; rfl))).trans h.box
  have gs := grown_set W' ⟨bx, 8, none⟩ (.slice (some ⟨g, 0, none⟩) (nB + 1) c)
  have hgx : g ≠ bx := by rcases ha with e | e <;> omega
  have hgN : w0.heap.size ≤ g := by rcases ha with e | e <;> omega
  refine ⟨box_set hb rfl, (h.oL.kept hg (.inr (by simp [Value.ownBlock]; omega))).kept gs (.inr (by simp [Value.ownBlock]; omega)), (h.oS.kept hg (.inr (by simp [Value.ownBlock]; omega))).kept gs (.inr (by simp [Value.ownBlock]; omega)), ?_, ⟨n1, n2, n3, hgx, n5, by omega, by omega⟩, (h.rd.far hg (fun k e => by cases e; omega)).far gs (fun k e => by cases e; show b < bx; omega), ?_⟩
  · rw [← nl_snoc]; exact ho.kept gs (.inr (by simp [Value.ownBlock]; omega))
  · refine ⟨gs.os.trans (hg.os.trans h.gr.os), gs.tape.trans (hg.tape.trans h.gr.tape), gs.output.trans (hg.output.trans h.gr.output), Nat.le_trans h.gr.size (Nat.le_trans hg.size gs.size), fun k hk hr => ?_⟩
    have hk2 : k < W.heap.size := Nat.lt_of_lt_of_le hk h.gr.size
    have e1 := gs.block k (Nat.lt_of_lt_of_le hk2 hg.size) (fun e => by have e' : k = bx := (by cases e; rfl); omega)
    have e2 := hg.block k hk2 (fun e => by cases e; omega)
    exact e1.trans (e2.trans (h.gr.block k hk hr))
theorem own_numsY {base g n c : Nat} {z : Nat → Int} (h : W.ownsRow base 3 1 (.slice (some ⟨g, 0, none⟩) n c) n (nl z n)) : Nums W (some ⟨g, 0, none⟩) n z :=
  .inr ⟨g, 0, rfl, (lt_own h).2, fun i hi => by rw [Nat.zero_add]; exact (h.cellAt i (by omega)).trans (nl_at z hi)⟩
/-- The slice lies in no cell of block b. -/
def Off (b : Nat) (a : Option Addr) : Prop := ∀ x, a = some x → x.block ≠ b
def LegOff (x : Nat) (d : LegD) (p : LegP) : Prop := (0 < d.nL → Off x p.aL) ∧ (0 < d.nS → Off x p.aS) ∧ (0 < d.nB → Off x p.aB) ∧ (0 < d.nH → Off x p.aH)
end
end Go.Proofs.YtdaccpffdnbkiaaGreatDoor

namespace Go.Proofs.YtdaccpffdnbkiaaGreatDoor
open Go.RowKit
set_option linter.unusedVariables false
set_option linter.unusedSimpArgs false

def cstB (b bx gB cB j : Nat) (l : Int) (i : Nat) : Value := match i with
  | 0 => .pointer (some ⟨bx, 8, none⟩)
  | 1 => .slice (some ⟨gB, 0, none⟩) j cB
  | 2 => .pointer (some ⟨bx, 8, none⟩)
  | 3 => .slice (some ⟨gB, 0, none⟩) j cB
  | 4 => .pointer (some ⟨bx, 8, none⟩)
  | 5 => .slice (some ⟨gB, 0, none⟩) j cB
  | 6 => .int .i64 (j : Int)
  | 7 => .int .i64 ((j - 1 : Nat) : Int)
  | 8 => .pointer (some ⟨gB, j - 1, none⟩)
  | 9 => .int .i64 l
  | 10 => .pointer (some ⟨b, 0, none⟩)
  | 16 => .pointer (some ⟨bx, 8, none⟩)
  | _ => undef
def isC (i : Nat) : Bool := decide (i ≤ 10) || decide (i = 16)
structure JB (Y : Nat → Nat → (Nat → Int) → Nat → Nat → World → Prop) (N Q b bx gB cB j : Nat) (Bz : Nat → Int) (l : Int) (L : Nat → Bool) (f : Nat → Value) (W : World) : Prop where
  y0 : L 11 = false → L 15 = false → L 17 = false → Y Q j Bz gB cB W
  y1 : L 11 = true → L 15 = false → L 17 = false → Y (Q + 1) j Bz gB cB W
  c : ∀ i, isC i = true → L i = true → f i = cstB b bx gB cB j l i
  e11 : L 11 = true → ∃ x : Int, 0 ≤ x ∧ x ≤ 9 ∧ f 11 = .int .i64 x
  e12 : L 12 = true → ∃ x : Int, 0 ≤ x ∧ x ≤ 9 ∧ f 12 = .int .i64 (l * x)
  e13 : L 13 = true → ∃ z : Int, 0 ≤ z ∧ z ≤ l ∧ f 13 = .int .i64 z
  e14 : L 14 = true → L 15 = false → ∃ (g : Nat) (z : Int), 0 ≤ z ∧ z ≤ l ∧ f 14 = .slice (some ⟨g, 0, none⟩) 1 1 ∧ W.heap[g]? = some (.cells #[.int .i64 z] 3 (0, 0))
  e15 : L 15 = true → L 17 = false → ∃ (Wp : World) (g cc : Nat) (z : Int), 0 ≤ z ∧ z ≤ l ∧ f 15 = .slice (some ⟨g, 0, none⟩) (j + 1) cc ∧ Y (Q + 1) j Bz gB cB Wp ∧
    W.ownsRow N 3 1 (.slice (some ⟨g, 0, none⟩) (j + 1) cc) (j + 1) (nl Bz j ++ [.int .i64 z]) ∧ Wp.grownBy W (some gB) ∧ (g = gB ∨ g = Wp.heap.size)
  e17 : L 17 = true → ∃ (g cc : Nat) (z : Int), 0 ≤ z ∧ z ≤ l ∧ Y (Q + 1) (j + 1) (snocF Bz j z) g cc W
section
variable {Y : Nat → Nat → (Nat → Int) → Nat → Nat → World → Prop} {N Q b bx gB cB j : Nat} {Bz : Nat → Int} {l : Int} {L : Nat → Bool} {f : Nat → Value} {W W' : World}
theorem JB.start {f : Nat → Value} (h : Y Q j Bz gB cB W) : JB Y N Q b bx gB cB j Bz l (fun _ => false) f W :=
  ⟨fun _ _ _ => h, fun a => (by cases a), fun _ _ a => (by cases a), fun a => (by cases a), fun a => (by cases a), fun a => (by cases a), fun a => (by cases a), fun a => (by cases a), fun a => (by cases a)⟩
theorem JB.young (h : JB Y N Q b bx gB cB j Bz l L f W) (h15 : L 15 = false) (h17 : L 17 = false) : ∃ Q', Y Q' j Bz gB cB W := by
  cases h11 : L 11 with
  | false => exact ⟨_, h.y0 h11 h15 h17⟩
  | true => exact ⟨_, h.y1 h11 h15 h17⟩
theorem JB.const (h : JB Y N Q b bx gB cB j Bz l L f W) {i : Nat} {v : Value} (hi : isC i = true) (hv : v = cstB b bx gB cB j l i) : JB Y N Q b bx gB cB j Bz l (upd L i true) (upd f i v) W := by
  have hi' : i ≤ 10 ∨ i = 16 := by simpa [isC] using hi
  have u : ∀ {α : Type} (g : Nat → α) (x : α) (q : Nat), 10 < q → q ≠ 16 → upd g i x q = g q := fun g x q h1 h2 => upd_ne g x (by omega)
  refine ⟨?_, ?_, ?_, ?_, ?_, ?_, ?_, ?_, ?_⟩
  · rw [u _ _ 11 (by decide) (by decide), u _ _ 15 (by decide) (by decide), u _ _ 17 (by decide) (by decide)]; exact h.y0
  · rw [u _ _ 11 (by decide) (by decide), u _ _ 15 (by decide) (by decide), u _ _ 17 (by decide) (by decide)]; exact h.y1
  · intro q hq hL
    by_cases e : q = i
    · subst e; rw [upd_self, hv]
    · rw [upd_ne _ _ e] at hL ⊢; exact h.c q hq hL
  · rw [u _ _ 11 (by decide) (by decide), u _ _ 11 (by decide) (by decide)]; exact h.e11
  · rw [u _ _ 12 (by decide) (by decide), u _ _ 12 (by decide) (by decide)]; exact h.e12
  · rw [u _ _ 13 (by decide) (by decide), u _ _ 13 (by decide) (by decide)]; exact h.e13
  · rw [u _ _ 14 (by decide) (by decide), u _ _ 15 (by decide) (by decide), u _ _ 14 (by decide) (by decide)]; exact h.e14
  · rw [u _ _ 15 (by decide) (by decide), u _ _ 17 (by decide) (by decide), u _ _ 15 (by decide) (by decide)]; exact h.e15
  · rw [u _ _ 17 (by decide) (by decide)]; exact h.e17
theorem ne_c {i q : Nat} (hq : isC q = true) (hi : isC i = false) : q ≠ i := fun e => by subst e; rw [hq] at hi; cases hi
theorem JB.op11 (h : JB Y N Q b bx gB cB j Bz l L f W) {x : Int} (h14 : L 14 = false) (h15 : L 15 = false) (h17 : L 17 = false) (x0 : 0 ≤ x) (x1 : x ≤ 9) (hY : Y (Q + 1) j Bz gB cB W') :
    JB Y N Q b bx gB cB j Bz l (upd L 11 true) (upd f 11 (.int .i64 x)) W' := by
  have u : ∀ {α : Type} (g : Nat → α) (x : α) (q : Nat), q ≠ 11 → upd g 11 x q = g q := fun g x q h1 => upd_ne g x h1
  refine ⟨fun a => (by rw [upd_self] at a; cases a), fun _ _ _ => hY, ?_, fun _ => ⟨x, x0, x1, upd_self _ _ _⟩, ?_, ?_, ?_, ?_, ?_⟩
  · intro q hq hL
    rw [u _ _ _ (ne_c hq rfl)] at hL ⊢; exact h.c q hq hL
  · rw [u _ _ 12 (by decide), u _ _ 12 (by decide)]; exact h.e12
  · rw [u _ _ 13 (by decide), u _ _ 13 (by decide)]; exact h.e13
  · rw [u _ _ 14 (by decide), h14]; exact fun a => by cases a
  · rw [u _ _ 15 (by decide), h15]; exact fun a => by cases a
  · rw [u _ _ 17 (by decide), h17]; exact fun a => by cases a
theorem JB.op12 (h : JB Y N Q b bx gB cB j Bz l L f W) {x : Int} (x0 : 0 ≤ x) (x1 : x ≤ 9) : JB Y N Q b bx gB cB j Bz l (upd L 12 true) (upd f 12 (.int .i64 (l * x))) W := by
  have u : ∀ {α : Type} (g : Nat → α) (x : α) (q : Nat), q ≠ 12 → upd g 12 x q = g q := fun g x q h1 => upd_ne g x h1
  refine ⟨?_, ?_, ?_, ?_, fun _ => ⟨x, x0, x1, upd_self _ _ _⟩, ?_, ?_, ?_, ?_⟩
  · rw [u _ _ 11 (by decide), u _ _ 15 (by decide), u _ _ 17 (by decide)]; exact h.y0
  · rw [u _ _ 11 (by decide), u _ _ 15 (by decide), u _ _ 17 (by decide)]; exact h.y1
  · intro q hq hL
    rw [u _ _ _ (ne_c hq rfl)] at hL ⊢; exact h.c q hq hL
  · rw [u _ _ 11 (by decide), u _ _ 11 (by decide)]; exact h.e11
  · rw [u _ _ 13 (by decide), u _ _ 13 (by decide)]; exact h.e13
  · rw [u _ _ 14 (by decide), u _ _ 15 (by decide), u _ _ 14 (by decide)]; exact h.e14
  · rw [u _ _ 15 (by decide), u _ _ 17 (by decide), u _ _ 15 (by decide)]; exact h.e15
  · rw [u _ _ 17 (by decide)]; exact h.e17
theorem JB.op13 (h : JB Y N Q b bx gB cB j Bz l L f W) {x : Int} (x0 : 0 ≤ x) (x1 : x ≤ l) : JB Y N Q b bx gB cB j Bz l (upd L 13 true) (upd f 13 (.int .i64 x)) W := by
  have u : ∀ {α : Type} (g : Nat → α) (x : α) (q : Nat), q ≠ 13 → upd g 13 x q = g q := fun g x q h1 => upd_ne g x h1
  refine ⟨?_, ?_, ?_, ?_, ?_, fun _ => ⟨x, x0, x1, upd_self _ _ _⟩, ?_, ?_, ?_⟩
  · rw [u _ _ 11 (by decide), u _ _ 15 (by decide), u _ _ 17 (by decide)]; exact h.y0
  · rw [u _ _ 11 (by decide), u _ _ 15 (by decide), u _ _ 17 (by decide)]; exact h.y1
  · intro q hq hL
    rw [u _ _ _ (ne_c hq rfl)] at hL ⊢; exact h.c q hq hL
  · rw [u _ _ 11 (by decide), u _ _ 11 (by decide)]; exact h.e11
  · rw [u _ _ 12 (by decide), u _ _ 12 (by decide)]; exact h.e12
  · rw [u _ _ 14 (by decide), u _ _ 15 (by decide), u _ _ 14 (by decide)]; exact h.e14
  · rw [u _ _ 15 (by decide), u _ _ 17 (by decide), u _ _ 15 (by decide)]; exact h.e15
  · rw [u _ _ 17 (by decide)]; exact h.e17
theorem JB.op14 (h : JB Y N Q b bx gB cB j Bz l L f W) {z : Int} (h15 : L 15 = false) (h17 : L 17 = false) (z0 : 0 ≤ z) (z1 : z ≤ l)
    (hYa : ∀ Q' W o, Y Q' j Bz gB cB W → Y Q' j Bz gB cB (W.alloc o)) :
    JB Y N Q b bx gB cB j Bz l (upd L 14 true) (upd f 14 (.slice (some ⟨W.heap.size, 0, none⟩) 1 1)) (W.alloc (.cells #[.int .i64 z] 3)) := by
  have u : ∀ {α : Type} (g : Nat → α) (x : α) (q : Nat), q ≠ 14 → upd g 14 x q = g q := fun g x q h1 => upd_ne g x h1
  refine ⟨?_, ?_, ?_, ?_, ?_, ?_, fun _ _ => ⟨W.heap.size, z, z0, z1, upd_self _ _ _, heap_alloc_new W _⟩, ?_, ?_⟩
  · rw [u _ _ 11 (by decide), u _ _ 15 (by decide), u _ _ 17 (by decide)]; exact fun a b c => hYa _ _ _ (h.y0 a b c)
  · rw [u _ _ 11 (by decide), u _ _ 15 (by decide), u _ _ 17 (by decide)]; exact fun a b c => hYa _ _ _ (h.y1 a b c)
  · intro q hq hL
    rw [u _ _ _ (ne_c hq rfl)] at hL ⊢; exact h.c q hq hL
  · rw [u _ _ 11 (by decide), u _ _ 11 (by decide)]; exact h.e11
  · rw [u _ _ 12 (by decide), u _ _ 12 (by decide)]; exact h.e12
  · rw [u _ _ 13 (by decide), u _ _ 13 (by decide)]; exact h.e13
  · rw [u _ _ 15 (by decide), h15]; exact fun a => by cases a
  · rw [u _ _ 17 (by decide), h17]; exact fun a => by cases a
theorem JB.op15 (h : JB Y N Q b bx gB cB j Bz l L f W) {z : Int} {g cc : Nat} (h11 : L 11 = true) (h15 : L 15 = false) (h17 : L 17 = false) (z0 : 0 ≤ z) (z1 : z ≤ l)
    (ho : W'.ownsRow N 3 1 (.slice (some ⟨g, 0, none⟩) (j + 1) cc) (j + 1) (nl Bz j ++ [.int .i64 z])) (hg : W.grownBy W' (some gB)) (ha : g = gB ∨ g = W.heap.size) :
    JB Y N Q b bx gB cB j Bz l (upd L 15 true) (upd f 15 (.slice (some ⟨g, 0, none⟩) (j + 1) cc)) W' := by
  have u : ∀ {α : Type} (g : Nat → α) (x : α) (q : Nat), q ≠ 15 → upd g 15 x q = g q := fun g x q h1 => upd_ne g x h1
  refine ⟨fun _ a => (by rw [upd_self] at a; cases a), fun _ a => (by rw [upd_self] at a; cases a), ?_, ?_, ?_, ?_, fun _ a => (by rw [upd_self] at a; cases a), fun _ _ => ⟨W, g, cc, z, z0, z1, upd_self _ _ _, h.y1 h11 h15 h17, ho, hg, ha⟩, ?_⟩
  · intro q hq hL
    rw [u _ _ _ (ne_c hq rfl)] at hL ⊢; exact h.c q hq hL
  · rw [u _ _ 11 (by decide), u _ _ 11 (by decide)]; exact h.e11
  · rw [u _ _ 12 (by decide), u _ _ 12 (by decide)]; exact h.e12
  · rw [u _ _ 13 (by decide), u _ _ 13 (by decide)]; exact h.e13
  · rw [u _ _ 17 (by decide), h17]; exact fun a => by cases a
theorem JB.op17 (h : JB Y N Q b bx gB cB j Bz l L f W) {z : Int} {g cc : Nat} {v : Value} (h11 : L 11 = true) (h15 : L 15 = true) (z0 : 0 ≤ z) (z1 : z ≤ l) (hY : Y (Q + 1) (j + 1) (snocF Bz j z) g cc W') :
    JB Y N Q b bx gB cB j Bz l (upd L 17 true) (upd f 17 v) W' := by
  have u : ∀ {α : Type} (g : Nat → α) (x : α) (q : Nat), q ≠ 17 → upd g 17 x q = g q := fun g x q h1 => upd_ne g x h1
  refine ⟨fun _ _ a => (by rw [upd_self] at a; cases a), fun _ _ a => (by rw [upd_self] at a; cases a), ?_, ?_, ?_, ?_, ?_, fun _ a => (by rw [upd_self] at a; cases a), fun _ => ⟨g, cc, z, z0, z1, hY⟩⟩
  · intro q hq hL
    rw [u _ _ _ (ne_c hq rfl)] at hL ⊢; exact h.c q hq hL
  · rw [u _ _ 11 (by decide), u _ _ 11 (by decide)]; exact h.e11
  · rw [u _ _ 12 (by decide), u _ _ 12 (by decide)]; exact h.e12
  · rw [u _ _ 13 (by decide), u _ _ 13 (by decide)]; exact h.e13
  · rw [u _ _ 15 (by decide), h15]; exact fun _ a => by cases a
end
end Go.Proofs.YtdaccpffdnbkiaaGreatDoor
