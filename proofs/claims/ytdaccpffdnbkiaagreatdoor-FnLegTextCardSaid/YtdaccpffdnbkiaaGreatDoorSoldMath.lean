/-
  A leg of which some seats are sold and held, as it is drawn: what holds between the steps.
-/
import Derived.Test.YtdaccpffdnbkiaaGreatDoorDrawLeg
import Derived.Test.YtdaccpffdnbkiaaGreatDoorJ29
import Derived.Test.YtdaccpffdnbkiaaGreatDoorJ31
import Derived.Test.YtdaccpffdnbkiaaGreatDoorCall2
namespace Go.Proofs.YtdaccpffdnbkiaaGreatDoor
open Go.RowKit
set_option linter.unusedVariables false
set_option linter.unusedSimpArgs false

theorem Nums.farX {W W' : World} {a : Option Addr} {n x : Nat} {z : Nat → Int} (h : Nums W a n z) (ho : 0 < n → Off x a) (hg : W.grownBy W' (some x)) : Nums W' a n z := by
  rcases h with h | ⟨b, off, h1, h2, h3⟩
  · exact .inl h
  · rcases Nat.eq_zero_or_pos n with h0 | h0
    · exact .inl h0
    · have hne : b ≠ x := ho h0 _ h1
      have e := hg.block b h2 (fun e => hne (by cases e; rfl))
      exact .inr ⟨b, off, h1, Nat.lt_of_lt_of_le h2 hg.size, fun i hi => (World.cell?_of_block (a := ⟨b, off + i, none⟩) e).trans (h3 i hi)⟩
theorem Holds.farX {W W' : World} {a : Option Addr} {n x : Nat} {t c s : Nat → Int} (h : Holds W a n t c s) (ho : 0 < n → Off x a) (hg : W.grownBy W' (some x)) : Holds W' a n t c s := by
  rcases h with h | ⟨b, off, h1, h2, h3⟩
  · exact .inl h
  · rcases Nat.eq_zero_or_pos n with h0 | h0
    · exact .inl h0
    · have hne : b ≠ x := ho h0 _ h1
      have e := hg.block b h2 (fun e => hne (by cases e; rfl))
      exact .inr ⟨b, off, h1, Nat.lt_of_lt_of_le h2 hg.size, fun i hi => ⟨(World.cell?_of_block (a := ⟨b, off + i * 3, none⟩) e).trans (h3 i hi).1, (World.cell?_of_block (a := ⟨b, off + i * 3 + 1, none⟩) e).trans (h3 i hi).2.1, (World.cell?_of_block (a := ⟨b, off + i * 3 + 2, none⟩) e).trans (h3 i hi).2.2⟩⟩
theorem LegIn.farX {W W' : World} {d : LegD} {p : LegP} {x : Nat} (h : LegIn W d p) (ho : LegOff x d p) (hg : W.grownBy W' (some x)) : LegIn W' d p := ⟨h.1.farX ho.1 hg, h.2.1.farX ho.2.1 hg, h.2.2.1.farX ho.2.2.1 hg, h.2.2.2.farX ho.2.2.2 hg⟩
theorem nums_lt {W : World} {a : Option Addr} {n : Nat} {z : Nat → Int} (h : Nums W a n z) (h0 : 0 < n) : ∀ x, a = some x → x.block < W.heap.size := by
  rcases h with h | ⟨b, off, h1, h2, h3⟩
  · omega
  · intro x hx; rw [h1] at hx; cases hx; exact h2
theorem holds_lt {W : World} {a : Option Addr} {n : Nat} {t c s : Nat → Int} (h : Holds W a n t c s) (h0 : 0 < n) : ∀ x, a = some x → x.block < W.heap.size := by
  rcases h with h | ⟨b, off, h1, h2, h3⟩
  · omega
  · intro x hx; rw [h1] at hx; cases hx; exact h2
theorem LegIn.off_new {W : World} {d : LegD} {p : LegP} {x : Nat} (h : LegIn W d p) (hx : W.heap.size ≤ x) : LegOff x d p :=
  ⟨fun h0 y hy => by have := nums_lt h.1 h0 y hy; omega, fun h0 y hy => by have := nums_lt h.2.1 h0 y hy; omega, fun h0 y hy => by have := nums_lt h.2.2.1 h0 y hy; omega, fun h0 y hy => by have := holds_lt h.2.2.2 h0 y hy; omega⟩
/-- Each list lies below N, or from lo on, ahead of hi. -/
def LegAt (N lo hi : Nat) (d : LegD) (p : LegP) : Prop :=
  (0 < d.nL → ∀ x, p.aL = some x → x.block < N ∨ (lo ≤ x.block ∧ x.block < hi)) ∧ (0 < d.nS → ∀ x, p.aS = some x → x.block < N ∨ (lo ≤ x.block ∧ x.block < hi)) ∧
  (0 < d.nB → ∀ x, p.aB = some x → x.block < N ∨ (lo ≤ x.block ∧ x.block < hi)) ∧ (0 < d.nH → ∀ x, p.aH = some x → x.block < N ∨ (lo ≤ x.block ∧ x.block < hi))
theorem LegAt.off {N lo hi y : Nat} {d : LegD} {p : LegP} (h : LegAt N lo hi d p) (hy : N ≤ y) (hd : y < lo ∨ hi ≤ y) : LegOff y d p :=
  ⟨fun h0 x hx e => by have := h.1 h0 x hx; omega, fun h0 x hx e => by have := h.2.1 h0 x hx; omega, fun h0 x hx e => by have := h.2.2.1 h0 x hx; omega, fun h0 x hx e => by have := h.2.2.2 h0 x hx; omega⟩
/-- Two legs alike but for what is sold and held. -/
def Like (d d' : LegD) : Prop := d'.nL = d.nL ∧ d'.nS = d.nS ∧ d'.nB = d.nB
theorem LegOff.moved {x : Nat} {w : World} {d d' : LegD} {p p' : LegP} (h : LegOff x d p) (hl : Like d d') (hm : Moved w d'.nH p p') (hH : p'.aH = p.aH → d.nH = 0 → d'.nH = 0 ∨ NewAt w p'.aH) (hx : x < w.heap.size) : LegOff x d' p' := by
  obtain ⟨m1, m2, m3, m4⟩ := hm
  obtain ⟨l1, l2, l3⟩ := hl
  refine ⟨fun h0 => by rw [m1]; exact h.1 (by omega), fun h0 => ?_, fun h0 => by rw [m2]; exact h.2.2.1 (by omega), fun h0 => ?_⟩
  · rcases m3 with m | m
    · rw [m]; exact h.2.1 (by omega)
    · exact fun y hy => by have := m y hy; omega
  · rcases m4 with m | m | m
    · rcases Nat.eq_zero_or_pos d.nH with q | q
      · rcases hH m q with r | r
        · omega
        · exact fun y hy => by have := r y hy; omega
      · rw [m]; exact h.2.2.2 q
    · omega
    · exact fun y hy => by have := m y hy; omega
theorem LegAt.moved {N : Nat} {w W' : World} {d d' : LegD} {p p' : LegP} (h : LegAt N 0 0 d p) (hl : Like d d') (hm : Moved w d'.nH p p') (hH : p'.aH = p.aH → d.nH = 0 → d'.nH = 0 ∨ NewAt w p'.aH) (hi : LegIn W' d' p') : LegAt N w.heap.size W'.heap.size d' p' := by
  obtain ⟨m1, m2, m3, m4⟩ := hm
  obtain ⟨l1, l2, l3⟩ := hl
  have key : ∀ {x : Addr}, (x.block < N ∨ (0 ≤ x.block ∧ x.block < 0)) → x.block < N ∨ (w.heap.size ≤ x.block ∧ x.block < W'.heap.size) := fun h => by omega
  refine ⟨fun h0 x hx => key (h.1 (by omega) x (by rw [← m1]; exact hx)), fun h0 x hx => ?_, fun h0 x hx => key (h.2.2.1 (by omega) x (by rw [← m2]; exact hx)), fun h0 x hx => ?_⟩
  · rcases m3 with m | m
    · exact key (h.2.1 (by omega) x (by rw [← m]; exact hx))
    · exact .inr ⟨m x hx, nums_lt hi.2.1 h0 x hx⟩
  · rcases m4 with m | m | m
    · rcases Nat.eq_zero_or_pos d.nH with q | q
      · rcases hH m q with r | r
        · omega
        · exact .inr ⟨r x hx, holds_lt hi.2.2.2 h0 x hx⟩
      · exact key (h.2.2.2 q x (by rw [← m]; exact hx))
    · omega
    · exact .inr ⟨m x hx, holds_lt hi.2.2.2 h0 x hx⟩
theorem LegIn.at0 {W : World} {d : LegD} {p : LegP} {N : Nat} (h : LegIn W d p) (hN : W.heap.size ≤ N) : LegAt N 0 0 d p :=
  ⟨fun h0 x hx => .inl (by have := nums_lt h.1 h0 x hx; omega), fun h0 x hx => .inl (by have := nums_lt h.2.1 h0 x hx; omega), fun h0 x hx => .inl (by have := nums_lt h.2.2.1 h0 x hx; omega), fun h0 x hx => .inl (by have := holds_lt h.2.2.2 h0 x hx; omega)⟩

structure SoldInv (w0 : World) (B Q b bx : Nat) (d : LegD) (p : LegP) (W : World) : Prop where
  box : LegBox W bx d p
  leg : LegIn W d p
  ok : OkLeg d
  cap : d.nH ≤ p.cH
  offb : LegOff b d p
  offx : LegOff bx d p
  rd : RdTo B Q b W
  gr : w0.grownBy W (some b)
  ne : b < w0.heap.size ∧ w0.heap.size ≤ bx
section
variable {w0 W W' : World} {B Q Q' b bx : Nat} {d : LegD} {p : LegP}
theorem SoldInv.far (h : SoldInv w0 B Q b bx d p W) (hg : W.grownBy W' (some b)) (hr : RdTo B Q' b W') : SoldInv w0 B Q' b bx d p W' :=
  ⟨(hg.block bx (lt_heap h.box) (fun e => by have := h.ne; have e' : bx = b := (by cases e; rfl); omega)).trans h.box, h.leg.farX h.offb hg, h.ok, h.cap, h.offb, h.offx, hr, grown_trans h.gr hg, h.ne⟩
theorem SoldInv.mono (h : SoldInv w0 B Q b bx d p W) (hq : Q ≤ Q') : SoldInv w0 B Q' b bx d p W := ⟨h.box, h.leg, h.ok, h.cap, h.offb, h.offx, h.rd.mono hq, h.gr, h.ne⟩
theorem SoldInv.drew (h : SoldInv w0 B Q b bx d p W) : SoldInv w0 B Q b bx d p W.drew := h.far ⟨rfl, rfl, rfl, Nat.le_refl _, fun _ _ _ => rfl⟩ (by obtain ⟨q, h1, h2⟩ := h.rd; exact ⟨q, h1, h2⟩)
theorem grown_below {W W' : World} (h : Below W.heap.size W W') (x : Nat) : W.grownBy W' (some x) := ⟨h.os, h.tape, h.output, h.size, fun k hk _ => h.block k hk⟩
theorem RdTo.below {B Q b : Nat} {W W' : World} (h : RdTo B Q b W) (hb : Below W.heap.size W W') : RdTo B Q b W' := by
  obtain ⟨q, h1, h2⟩ := h
  exact ⟨q, h1, h2.kept (hb.mono (by have := h2.le; omega)) (hb.block b h2.le.2)⟩
theorem SoldInv.below (h : SoldInv w0 B Q b bx d p W) (hb : Below W.heap.size W W') : SoldInv w0 B Q b bx d p W' := h.far (grown_below hb b) (h.rd.below hb)
/-- Another leg is laid into the box. -/
theorem SoldInv.put (h : SoldInv w0 B Q b bx d p W) {d' : LegD} {p' : LegP} (hin : LegIn W d' p') (hok : OkLeg d') (hc : d'.nH ≤ p'.cH) (hb : LegOff b d' p') (hx : LegOff bx d' p') : SoldInv w0 B Q b bx d' p' (W.setRow bx (LegC d' p')) := by
  have gr := grown_setRow W bx (LegC d' p')
  have hne := h.ne
  refine ⟨setRow_heap W bx _ _ _ _ h.box, hin.farX hx gr, hok, hc, hb, hx, h.rd.far gr (fun k e => by cases e; omega), ?_, hne⟩
  exact ⟨gr.os.trans h.gr.os, gr.tape.trans h.gr.tape, gr.output.trans h.gr.output, Nat.le_trans h.gr.size gr.size, fun k hk hr => (gr.block k (Nat.lt_of_lt_of_le hk h.gr.size) (fun e => by have e' : k = bx := (by cases e; rfl); omega)).trans (h.gr.block k hk hr)⟩
/-- A block that was made since is written: of what is known nothing turns. -/
theorem SoldInv.row (h : SoldInv w0 B Q b bx d p W) {y : Nat} (cs : Array Value) (hy : bx < y) (ho : LegOff y d p) : SoldInv w0 B Q b bx d p (W.setRow y cs) := by
  have gr := grown_setRow W y cs
  have hne := h.ne
  refine ⟨(gr.block bx (lt_heap h.box) (fun e => by have e' : bx = y := (by cases e; rfl); omega)).trans h.box, h.leg.farX ho gr, h.ok, h.cap, h.offb, h.offx, h.rd.far gr (fun k e => by cases e; omega), ?_, hne⟩
  exact ⟨gr.os.trans h.gr.os, gr.tape.trans h.gr.tape, gr.output.trans h.gr.output, Nat.le_trans h.gr.size gr.size, fun k hk hr => (gr.block k (Nat.lt_of_lt_of_le hk h.gr.size) (fun e => by have e' : k = y := (by cases e; rfl); omega)).trans (h.gr.block k hk hr)⟩
end
theorem okFresh {nm fr dst : ByteArray} {dep : Int} {d : LegD} (h : Fresh nm fr dst dep d) (h1 : nameB nm.data.toList = true) (h2 : nameB fr.data.toList = true) (h3 : nameB dst.data.toList = true) (h4 : fr ≠ dst) (h5 : 0 ≤ dep ∧ dep ≤ 9000) : OkLeg d := by
  obtain ⟨arr, cap, L, nB, Bz, rfl, ha, hc, hL, hn, hB⟩ := h
  refine ⟨⟨h1, h2, h3, h4, ⟨h5.1, by show dep ≤ 9999; omega⟩, ⟨ha.1, by show arr ≤ 9999; omega⟩⟩, ⟨⟨hc.1, by show cap ≤ 9; omega⟩, rfl, rfl, fun i _ => ⟨Int.le_refl _, by show (0 : Int) ≤ cap; omega⟩, ⟨by show 1 ≤ (nB : Int); omega, by show (nB : Int) ≤ 4; omega⟩, fun i hi => ?_, hL.1, fun i hi => ?_⟩,
    ⟨by show 0 ≤ 6; omega, fun i hi => absurd hi (Nat.not_lt_zero _)⟩, fun q hq => ?_⟩
  · have := hB i hi
    refine ⟨this.1.1, ?_⟩
    split
    · have := this.1.2; show Bz i ≤ 1000000000; omega
    · exact this.2 (by omega)
  · have := hL.2 i hi
    refine ⟨this.1.1, ?_⟩
    split
    · exact this.1.2
    · exact this.2 (by omega)
  · have := (hL.2 q hq).1.1
    unfold fitK leftB usedB backB
    show 0 ≤ L q - (sumS (fun _ => 0) q (3 - q) + 0) ∧ (0 : Int) ≤ 0
    rcases (by omega : q = 0 ∨ q = 1 ∨ q = 2) with rfl | rfl | rfl <;> simp [sumS] <;> omega
end Go.Proofs.YtdaccpffdnbkiaaGreatDoor
