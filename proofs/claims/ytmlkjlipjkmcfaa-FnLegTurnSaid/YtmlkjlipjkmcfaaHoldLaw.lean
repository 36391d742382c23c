/-
  What is held more: the facts that the laws on it ask for.
-/
import Derived.Test.YtmlkjlipjkmcfaaDrawHold
import Derived.Test.YtmlkjlipjkmcfaaDropFit
namespace Go.Proofs.Ytmlkjlipjkmcfaa
open Go.RowKit
set_option linter.unusedVariables false
set_option linter.unusedSimpArgs false

/- A leg and what is to be held are laid into two new blocks. -/
section
variable (w : World) (d : LegD) (p : LegP) (t c s : Int)
def two0 : World := (w.alloc (.cells #[.string ⟨#[]⟩, .string ⟨#[]⟩, .string ⟨#[]⟩, .int .i64 0, .int .i64 0, .int .i64 0, .slice none 0 0, .slice none 0 0, .slice none 0 0, .slice none 0 0] 31)).alloc (.cells #[.int .i64 0, .int .i64 0, .int .i64 0] 35)
def two1 : World := (two0 w).setRow w.heap.size (LegC d p)
def two2 : World := (two1 w d p).setRow (w.heap.size + 1) (HoldC t c s)
theorem two0_leg : (two0 w).heap[w.heap.size]? = some (.cells #[.string ⟨#[]⟩, .string ⟨#[]⟩, .string ⟨#[]⟩, .int .i64 0, .int .i64 0, .int .i64 0, .slice none 0 0, .slice none 0 0, .slice none 0 0, .slice none 0 0] 31 (0, 0)) :=
  (((Below.refl _ _).alloc (Nat.le_refl _) _).block _ (by simp)).trans (heap_alloc_new w _)
theorem two0_hold : (two0 w).heap[w.heap.size + 1]? = some (.cells #[.int .i64 0, .int .i64 0, .int .i64 0] 35 (0, 0)) := by
  have := heap_alloc_new (w.alloc (.cells #[.string ⟨#[]⟩, .string ⟨#[]⟩, .string ⟨#[]⟩, .int .i64 0, .int .i64 0, .int .i64 0, .slice none 0 0, .slice none 0 0, .slice none 0 0, .slice none 0 0] 31)) (.cells #[.int .i64 0, .int .i64 0, .int .i64 0] 35)
  rw [World.size_alloc] at this
  exact this
theorem two1_hold : (two1 w d p).heap[w.heap.size + 1]? = some (.cells #[.int .i64 0, .int .i64 0, .int .i64 0] 35 (0, 0)) :=
  ((grown_setRow (two0 w) w.heap.size (LegC d p)).block _ (lt_heap (two0_hold w)) (fun e => by have e' := Option.some.inj e; omega)).trans (two0_hold w)
theorem two2_leg : LegBx (two2 w d p t c s) w.heap.size 31 d p := by
  have h1 : (two1 w d p).heap[w.heap.size]? = some (.cells (LegC d p) 31 (0, 0)) := setRow_heap (two0 w) w.heap.size _ _ _ _ (two0_leg w)
  exact ((grown_setRow (two1 w d p) (w.heap.size + 1) (HoldC t c s)).block _ (lt_heap h1) (fun e => by have e' := Option.some.inj e; omega)).trans h1
theorem two2_hold : (two2 w d p t c s).heap[w.heap.size + 1]? = some (.cells (HoldC t c s) 35 (0, 0)) := setRow_heap (two1 w d p) (w.heap.size + 1) _ _ _ _ (two1_hold w d p)
theorem two2_below : Below w.heap.size w (two2 w d p t c s) := by
  have h0 : Below w.heap.size w (two0 w) := ((Below.refl _ _).alloc (Nat.le_refl _) _).alloc (by simp) _
  have h1 : Below w.heap.size w (two1 w d p) := h0.grown (grown_setRow _ _ _) h0.size (fun k e => by cases e; exact Nat.le_refl _)
  exact h1.grown (grown_setRow _ _ _) h1.size (fun k e => by cases e; omega)
end
theorem bid_top {d : LegD} {b : Int} (hb : IsBid d b) : b ≤ 1000000000 := by
  by_cases ho : OkLeg d
  · rw [hb.1 ho]
    have h2 := ho.room0 1 (by omega)
    have hn := ho.2.1.2.2.2.2.1.1
    unfold bidB
    exact (falls_top ho.2.1.2.2.2.2.2.1 _ (by omega)).2
  · rw [hb.2 ho]; omega
theorem worth {d g1 g2 g3 : LegD} {t c s b : Int} {x1 x2 x3 : Bool} (hb : IsBid d b) (h1 : HoldIs d t c s b g1 x1) (h2 : HoldIs d t c s (b - 1) g2 x2) (h3 : HoldIs d t c s 1000000000 g3 x3) :
    x3 = x1 ∧ (s < 0 → x2 = x1) ∧ (0 ≤ s → x2 = false) := by
  by_cases ho : OkLeg d
  · have e := hb.1 ho
    have ht := bid_top hb
    obtain ⟨i1, -, -⟩ := h1.2 ho
    obtain ⟨i2, -, -⟩ := h2.2 ho
    obtain ⟨i3, -, -⟩ := h3.2 ho
    have key : ∀ {x y : Bool} {P Q : Prop}, (x = true ↔ P) → (y = true ↔ Q) → (P ↔ Q) → x = y := by
      intro x y P Q hx hy hpq
      cases x <;> cases y
      · rfl
      · have := hx.2 (hpq.2 (hy.1 rfl)); cases this
      · have := hy.2 (hpq.1 (hx.1 rfl)); cases this
      · rfl
    refine ⟨key i3 i1 ?_, fun hs => key i2 i1 ?_, fun hs => ?_⟩
    · unfold CanPut CanH
      constructor
      · rintro ⟨q1, q2, q3, q4, q5⟩
        exact ⟨q1, q2, q3, q4, fun h => ⟨(q5 h).1, by omega⟩⟩
      · rintro ⟨q1, q2, q3, q4, q5⟩
        exact ⟨q1, q2, q3, q4, fun h => ⟨(q5 h).1, by omega⟩⟩
    · unfold CanPut CanH
      constructor
      · rintro ⟨q1, q2, q3, q4, q5⟩
        exact ⟨q1, q2, q3, q4, fun h => by omega⟩
      · rintro ⟨q1, q2, q3, q4, q5⟩
        exact ⟨q1, q2, q3, q4, fun h => by omega⟩
    · cases x2 with
      | false => rfl
      | true =>
        have q := (i2.1 rfl).2.2.2.2 hs
        omega
  · rw [(h1.1 ho).2, (h2.1 ho).2, (h3.1 ho).2]
    exact ⟨rfl, fun _ => rfl, fun _ => rfl⟩
theorem hold_fits {d g : LegD} {t c s sh : Int} {x : Bool} (hf : Fits d) (h : HoldIs d t c s sh g x) : Fits g := fits_ofHold hf h
/-- What was held is let go again: the leg is as it was. -/
theorem drop_put {d : LegD} {k : Nat} {t c s : Int} (hk : HeldAt d t k) (hn : ∀ i, i < d.nH → d.t i ≠ t) : dropD (putD d k t c s) t = d := by
  have hp : posT (putD d k t c s).t t (putD d k t c s).nH = k := by
    have h1 : (putD d k t c s).t k = t := by show putF d.t k t k = t; simp [putF]
    have h2 : ∀ i, i < k → (putD d k t c s).t i ≠ t := fun i hi => by
      show putF d.t k t i ≠ t
      have := hk.2.1 i hi
      simp only [putF, if_pos hi]; omega
    rw [posT_at h1 h2]
    show min k (d.nH + 1) = k
    have := hk.1
    omega
  unfold dropD
  rw [hp, if_pos (show k < (putD d k t c s).nH by have := hk.1; show k < d.nH + 1; omega)]
  have key : ∀ (f : Nat → Int) (x : Int), (fun i => putF f k x (sk k i)) = f := by
    intro f x
    funext i
    unfold sk putF
    by_cases h : i < k
    · rw [if_pos h, if_pos h]
    · rw [if_neg h, if_neg (by omega), if_neg (by omega)]
      rfl
  obtain ⟨nm, fr, dst, dep, arr, cap, nL, L, nS, S, nB, B, nH, dt, dc, ds⟩ := d
  simp only [delH, putD]
  rw [key, key, key]
  rfl
theorem held_room {d : LegD} (ho : OkLeg d) {k : Nat} {t c s sh : Int} (hk : HeldAt d t k) (hc : CanPut d t c s sh) : 
    0 ≤ c ∧ c ≤ 2 ∧ roomN (putD d k t c s) (c.toNat + 1) ≤ roomN d (c.toNat + 1) ∧ roomN d (c.toNat + 1) - max s 0 ≤ roomN (putD d k t c s) (c.toNat + 1) ∧ max s 0 ≤ roomN d (c.toNat + 1) := by
  have h1 := room_put_le d t c s hk.1 (c.toNat + 1)
  obtain ⟨-, -, q3, q4, q5⟩ := hc
  have h2 := ho.room0 (c.toNat + 1) (by have := q3.2.1; omega)
  refine ⟨q3.2.1.1, q3.2.1.2, h1.1, h1.2, ?_⟩
  rcases Int.lt_or_le s 0 with h | h
  · omega
  · have := (q5 h).1; omega
end Go.Proofs.Ytmlkjlipjkmcfaa
