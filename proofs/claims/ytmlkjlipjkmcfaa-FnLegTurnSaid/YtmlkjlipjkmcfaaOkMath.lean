/-
  A leg that is ok stays so: behind what is held more, kept, or let go; and a leg that was just drawn is ok.
-/
import Derived.Test.YtmlkjlipjkmcfaaLegHoldMath
import Derived.Test.YtmlkjlipjkmcfaaLegRoom
namespace Go.Proofs.Ytmlkjlipjkmcfaa
open Go.RowKit
set_option linter.unusedVariables false
set_option linter.unusedSimpArgs false

def sumF (f : Nat → Int) : Nat → Int
  | 0 => 0
  | n + 1 => sumF f n + f n
theorem sumF_congr {f g : Nat → Int} : ∀ (n : Nat), (∀ i, i < n → f i = g i) → sumF f n = sumF g n
  | 0, _ => rfl
  | n + 1, h => by simp only [sumF]; rw [sumF_congr n (fun i hi => h i (by omega)), h n (by omega)]
theorem usedH_sum (c s : Nat → Int) (q : Int) : ∀ n, usedH c s q n = sumF (fun i => if q ≤ c i then max (s i) 0 else 0) n
  | 0 => rfl
  | n + 1 => by simp only [usedH, sumF]; rw [usedH_sum c s q n]
theorem backH_sum (c s : Nat → Int) (q : Int) : ∀ n, backH c s q n = sumF (fun i => if c i = q then max (-(s i)) 0 else 0) n
  | 0 => rfl
  | n + 1 => by simp only [backH, sumF]; rw [backH_sum c s q n]
theorem sumF_ins (f : Nat → Int) (k : Nat) (x : Int) : ∀ n, k ≤ n → sumF (putF f k x) (n + 1) = sumF f n + x
  | 0, h => by
    obtain rfl : k = 0 := by omega
    simp [sumF, putF]
  | n + 1, h => by
    have e : sumF (putF f k x) (n + 1 + 1) = sumF (putF f k x) (n + 1) + putF f k x (n + 1) := rfl
    rw [e]
    rcases Nat.lt_or_ge k (n + 1) with q | q
    · rw [sumF_ins f k x n (by omega)]
      have : putF f k x (n + 1) = f n := by simp [putF, show ¬ n + 1 < k by omega, show ¬ n + 1 = k by omega]
      rw [this]
      simp only [sumF]
      omega
    · obtain rfl : k = n + 1 := by omega
      have h1 : putF f (n + 1) x (n + 1) = x := by simp [putF]
      rw [h1, sumF_congr (g := f) (n + 1) (fun i hi => by simp [putF, hi])]
theorem sumF_del (f : Nat → Int) (k : Nat) : ∀ n, k ≤ n → sumF (fun i => f (sk k i)) n + f k = sumF f (n + 1)
  | 0, h => by
    obtain rfl : k = 0 := by omega
    simp [sumF]
  | n + 1, h => by
    rcases Nat.lt_or_ge k (n + 1) with q | q
    · have ih := sumF_del f k n (by omega)
      have e1 : sumF (fun i => f (sk k i)) (n + 1) = sumF (fun i => f (sk k i)) n + f (sk k n) := rfl
      have e2 : sumF f (n + 1 + 1) = sumF f (n + 1) + f (n + 1) := rfl
      have e3 : sk k n = n + 1 := by simp [sk, show ¬ n < k by omega]
      rw [e1, e2, e3]
      omega
    · obtain rfl : k = n + 1 := by omega
      rw [sumF_congr (g := f) (n + 1) (fun i hi => by simp [sk, hi])]
      rfl
theorem used_put (d : LegD) {k : Nat} (t c s : Int) (hk : k ≤ d.nH) (q : Nat) : usedB (putD d k t c s) q = usedB d q + (if (q : Int) ≤ c then max s 0 else 0) := by
  unfold usedB
  show sumS d.S q (3 - q) + usedH (putF d.c k c) (putF d.s k s) q (d.nH + 1) = _
  rw [usedH_sum, usedH_sum, sumF_congr (g := putF (fun i => if (q : Int) ≤ d.c i then max (d.s i) 0 else 0) k (if (q : Int) ≤ c then max s 0 else 0)) _ (fun i _ => ?_), sumF_ins _ _ _ _ hk]
  · omega
  · unfold putF; split
    · rfl
    · split <;> rfl
theorem back_put (d : LegD) {k : Nat} (t c s : Int) (hk : k ≤ d.nH) (q : Nat) : backB (putD d k t c s) q = backB d q + (if c = (q : Int) then max (-s) 0 else 0) := by
  unfold backB
  show backH (putF d.c k c) (putF d.s k s) q (d.nH + 1) = _
  rw [backH_sum, backH_sum, sumF_congr (g := putF (fun i => if d.c i = (q : Int) then max (-(d.s i)) 0 else 0) k (if c = (q : Int) then max (-s) 0 else 0)) _ (fun i _ => ?_), sumF_ins _ _ _ _ hk]
  unfold putF; split
  · rfl
  · split <;> rfl
theorem usedH_del (d : LegD) {k : Nat} (hk : k < d.nH) (q : Int) : usedH (fun i => d.c (sk k i)) (fun i => d.s (sk k i)) q (d.nH - 1) + (if q ≤ d.c k then max (d.s k) 0 else 0) = usedH d.c d.s q d.nH := by
  have := sumF_del (fun i => if q ≤ d.c i then max (d.s i) 0 else 0) k (d.nH - 1) (by omega)
  rw [usedH_sum, usedH_sum, show d.nH = d.nH - 1 + 1 from by omega]
  exact this
theorem backH_del (d : LegD) {k : Nat} (hk : k < d.nH) (q : Int) : backH (fun i => d.c (sk k i)) (fun i => d.s (sk k i)) q (d.nH - 1) + (if d.c k = q then max (-(d.s k)) 0 else 0) = backH d.c d.s q d.nH := by
  have := sumF_del (fun i => if d.c i = q then max (-(d.s i)) 0 else 0) k (d.nH - 1) (by omega)
  rw [backH_sum, backH_sum, show d.nH = d.nH - 1 + 1 from by omega]
  exact this
theorem room_le (d : LegD) : ∀ (m q : Nat), q ≤ m → roomN d (m + 1) ≤ leftB d q
  | 0, q, h => by
    obtain rfl : q = 0 := by omega
    simp only [roomN]; omega
  | m + 1, q, h => by
    rcases Nat.lt_or_ge q (m + 1) with r | r
    · have := room_le d m q (by omega)
      have e : roomN d (m + 1 + 1) = min (roomN d (m + 1)) (leftB d (m + 1)) := rfl
      omega
    · obtain rfl : q = m + 1 := by omega
      have e : roomN d (m + 1 + 1) = min (roomN d (m + 1)) (leftB d (m + 1)) := rfl
      omega
theorem holds_del {d : LegD} (h : HoldsOk d) {k : Nat} (hk : k < d.nH) (D : LegD) (hn : D.nH = d.nH - 1) (hc : D.cap = d.cap) (ht : D.t = fun i => d.t (sk k i)) (hcc : D.c = fun i => d.c (sk k i)) (hs : D.s = fun i => d.s (sk k i)) : HoldsOk D := by
  refine ⟨by have := h.1; omega, fun i hi => ?_⟩
  rw [ht, hcc, hs, hc]
  have hi2 : sk k i < d.nH := by unfold sk; split <;> omega
  refine ⟨(h.2 _ hi2).1, ?_⟩
  by_cases h0 : i = 0
  · rw [if_pos h0]
    have := (h.2 _ hi2).1.1
    show 0 < d.t (sk k i)
    omega
  · rw [if_neg h0]
    show d.t (sk k (i - 1)) < d.t (sk k i)
    refine asc_of h ?_ hi2
    unfold sk
    split <;> split <;> omega
theorem okLeg_put {d : LegD} (h : OkLeg d) {k : Nat} {t c s share : Int} (hk : HeldAt d t k) (hc : CanPut d t c s share) : OkLeg (putD d k t c s) := by
  obtain ⟨h1, h2, h3, h4⟩ := h
  obtain ⟨c1, c2, c3, c4, c5⟩ := hc
  refine ⟨h1, h2, ⟨by show d.nH + 1 ≤ 6; omega, fun i hi => ?_⟩, fun q hq => ?_⟩
  · have hi' : i < d.nH + 1 := hi
    show Hold1 (putF d.t k t i) (putF d.c k c i) (putF d.s k s i) d.cap ∧ (if i = 0 then 0 else putF d.t k t (i - 1)) < putF d.t k t i
    unfold putF
    rcases Nat.lt_trichotomy i k with r | r | r
    · rw [if_pos r, if_pos r, if_pos r]
      have := h3.2 i (by have := hk.1; omega)
      refine ⟨this.1, ?_⟩
      split
      · have := this.1.1; omega
      · rw [if_pos (by omega)]; exact asc_of h3 (by omega) (by have := hk.1; omega)
    · subst r
      rw [if_neg (by omega), if_pos rfl, if_neg (by omega), if_pos rfl, if_neg (by omega), if_pos rfl]
      refine ⟨c3, ?_⟩
      split
      · have := c3.1; omega
      · rw [if_pos (by omega)]; exact hk.2.1 _ (by omega)
    · rw [if_neg (by omega), if_neg (by omega), if_neg (by omega), if_neg (by omega), if_neg (by omega), if_neg (by omega)]
      have := h3.2 (i - 1) (by omega)
      refine ⟨this.1, ?_⟩
      rw [if_neg (by omega)]
      by_cases e : i - 1 = k
      · rw [if_neg (by omega), if_pos e]
        have h5 := hk.2.2 (by omega)
        have h6 := c2 k (by omega)
        rw [e]; omega
      · rw [if_neg (by omega), if_neg e]
        exact asc_of h3 (by omega) (by omega)
  · have hf := h4 q hq
    have hu := used_put d t c s hk.1 q
    have hb := back_put d t c s hk.1 q
    unfold fitK leftB at hf ⊢
    show 0 ≤ d.L q - usedB (putD d k t c s) q ∧ backB (putD d k t c s) q ≤ d.S q
    rw [hu, hb]
    have hcn : c.toNat = c := Int.toNat_of_nonneg c3.2.1.1
    constructor
    · split
      · rcases Int.lt_or_le s 0 with r | r
        · omega
        · have h5 := (c5 r).1
          have h6 := room_le d c.toNat q (by omega)
          unfold leftB at h6
          omega
      · omega
    · split
      · rename_i e
        rcases Int.lt_or_le s 0 with r | r
        · have h5 := c4 r
          have h6 : c.toNat = q := by omega
          rw [h6] at h5
          omega
        · omega
      · omega
theorem okLeg_del {d : LegD} (h : OkLeg d) {k : Nat} (hk : k < d.nH) : OkLeg (delH d k) := by
  obtain ⟨h1, h2, h3, h4⟩ := h
  refine ⟨h1, h2, holds_del h3 hk _ rfl rfl rfl rfl rfl, fun q hq => ?_⟩
  have hf := h4 q hq
  have hu := usedH_del d hk (q : Int)
  have hb := backH_del d hk (q : Int)
  unfold fitK leftB usedB backB at hf ⊢
  show 0 ≤ d.L q - (sumS d.S q (3 - q) + usedH (fun i => d.c (sk k i)) (fun i => d.s (sk k i)) q (d.nH - 1)) ∧ backH (fun i => d.c (sk k i)) (fun i => d.s (sk k i)) q (d.nH - 1) ≤ d.S q
  split at hu <;> split at hb <;> omega
theorem okLeg_drop {d : LegD} (h : OkLeg d) (txn : Int) : OkLeg (dropD d txn) := by
  unfold dropD
  split
  · exact okLeg_del h (by assumption)
  · exact h
theorem usedH_ge (c s : Nat → Int) (q : Int) {k : Nat} : ∀ n, k < n → (if q ≤ c k then max (s k) 0 else 0) ≤ usedH c s q n
  | 0, h => by omega
  | n + 1, h => by
    have h0 : ∀ n, 0 ≤ usedH c s q n := by
      intro n
      induction n with
      | zero => exact Int.le_refl _
      | succ n ih => simp only [usedH]; split <;> omega
    simp only [usedH]
    rcases Nat.lt_or_ge k n with r | r
    · have := usedH_ge c s q n r
      split <;> split at this <;> omega
    · obtain rfl : k = n := by omega
      have := h0 k
      omega
theorem backH_ge (c s : Nat → Int) (q : Int) {k : Nat} : ∀ n, k < n → (if c k = q then max (-(s k)) 0 else 0) ≤ backH c s q n
  | 0, h => by omega
  | n + 1, h => by
    have h0 : ∀ n, 0 ≤ backH c s q n := by
      intro n
      induction n with
      | zero => exact Int.le_refl _
      | succ n ih => simp only [backH]; split <;> omega
    simp only [backH]
    rcases Nat.lt_or_ge k n with r | r
    · have := backH_ge c s q n r
      split <;> split at this <;> omega
    · obtain rfl : k = n := by omega
      have := h0 k
      omega
theorem okLeg_keep {d : LegD} (h : OkLeg d) (txn : Int) : OkLeg (keepD d txn) := by
  unfold keepD
  split
  rotate_left
  · exact h
  rename_i hk
  generalize posT d.t txn d.nH = k at *
  obtain ⟨h1, h2, h3, h4⟩ := h
  have hK := (h3.2 k hk).1
  obtain ⟨m, hm⟩ := Int.eq_ofNat_of_zero_le hK.2.1.1
  have hm3 : m < 3 := by have := hK.2.1.2; omega
  have hsold := h2.2.2.2.1
  have hcap := h2.1
  have hlim := h2.2.2.2.2.2.2.2
  have s0 := hsold 0 (by omega)
  have s1 := hsold 1 (by omega)
  have s2 := hsold 2 (by omega)
  have fm := h4 m hm3
  have l0 := falls_top hlim m hm3
  have ug := usedH_ge d.c d.s (m : Int) d.nH hk
  have bg := backH_ge d.c d.s (m : Int) d.nH hk
  rw [hm, if_pos (Int.le_refl _)] at ug
  rw [hm, if_pos rfl] at bg
  have hS' : ∀ i : Nat, i < 3 → 0 ≤ (if (i : Int) = d.c k then d.S i + d.s k else d.S i) ∧ (if (i : Int) = d.c k then d.S i + d.s k else d.S i) ≤ d.cap := by
    intro i hi
    split
    · rename_i e
      obtain rfl : i = m := by omega
      unfold fitK leftB usedB backB at fm
      rcases (by omega : i = 0 ∨ i = 1 ∨ i = 2) with rfl | rfl | rfl <;> simp only [sumS] at fm <;> simp at fm <;> simp at ug bg l0 <;> omega
    · exact hsold i hi
  refine ⟨h1, ⟨h2.1, h2.2.1, h2.2.2.1, hS', h2.2.2.2.2⟩, holds_del h3 hk _ rfl rfl rfl rfl rfl, fun q hq => ?_⟩
  have hf := h4 q hq
  have hu := usedH_del d hk (q : Int)
  have hb := backH_del d hk (q : Int)
  unfold fitK leftB usedB backB at hf ⊢
  show 0 ≤ d.L q - (sumS (fun i => if (i : Int) = d.c k then d.S i + d.s k else d.S i) q (3 - q) + usedH (fun i => d.c (sk k i)) (fun i => d.s (sk k i)) q (d.nH - 1)) ∧ backH (fun i => d.c (sk k i)) (fun i => d.s (sk k i)) q (d.nH - 1) ≤ (if (q : Int) = d.c k then d.S q + d.s k else d.S q)
  rw [hm] at hu hb ⊢
  generalize usedH (fun i => d.c (sk k i)) (fun i => d.s (sk k i)) q (d.nH - 1) = U at *
  generalize backH (fun i => d.c (sk k i)) (fun i => d.s (sk k i)) q (d.nH - 1) = V at *
  rcases (by omega : q = 0 ∨ q = 1 ∨ q = 2) with rfl | rfl | rfl <;> rcases (by omega : m = 0 ∨ m = 1 ∨ m = 2) with rfl | rfl | rfl <;> simp only [sumS] at hf ⊢ <;> simp at hu hb hf ⊢ <;> omega
end Go.Proofs.Ytmlkjlipjkmcfaa
