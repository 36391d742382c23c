/-
  What is held more: that there is an answer, and what it does to room and worth.
-/
import Derived.Test.YtmlkjlipjkmcfaaLegHoldMath
import Derived.Test.YtmlkjlipjkmcfaaLegBid
import Derived.Test.YtmlkjlipjkmcfaaOkMath
namespace Go.Proofs.Ytmlkjlipjkmcfaa
open Go.RowKit
set_option linter.unusedVariables false
set_option linter.unusedSimpArgs false

theorem heldAt_ex {d : LegD} (ho : HoldsOk d) (t : Int) : ∃ k, HeldAt d t k := by
  have key : ∀ n, n ≤ d.nH → ∃ k, k ≤ n ∧ (∀ i, i < k → d.t i < t) ∧ (k < n → t ≤ d.t k) := by
    intro n
    induction n with
    | zero => exact fun _ => ⟨0, Nat.le_refl _, fun i hi => absurd hi (Nat.not_lt_zero _), fun h => absurd h (Nat.lt_irrefl _)⟩
    | succ n ih =>
      intro hn
      obtain ⟨k, h1, h2, h3⟩ := ih (by omega)
      rcases Nat.lt_or_ge k n with h | h
      · exact ⟨k, by omega, h2, fun _ => h3 h⟩
      · obtain rfl : k = n := by omega
        rcases Int.lt_or_le (d.t k) t with q | q
        · exact ⟨k + 1, Nat.le_refl _, fun i hi => by
            rcases Nat.lt_or_ge i k with r | r
            · exact h2 i r
            · obtain rfl : i = k := by omega
              exact q, fun h => absurd h (Nat.lt_irrefl _)⟩
        · exact ⟨k, by omega, h2, fun _ => q⟩
  exact key d.nH (Nat.le_refl _)
theorem holdIs_ex (d : LegD) (t c s share : Int) : ∃ g b, HoldIs d t c s share g b := by
  by_cases h : OkLeg d
  · by_cases k : CanPut d t c s share
    · obtain ⟨q, hq⟩ := heldAt_ex h.2.2.1 t
      exact ⟨putD d q t c s, true, fun x => absurd h x, fun _ => ⟨⟨fun _ => k, fun _ => rfl⟩, fun _ => ⟨q, hq, rfl⟩, fun x => (by cases x)⟩⟩
    · exact ⟨d, false, fun x => absurd h x, fun _ => ⟨⟨fun x => (by cases x), fun x => absurd x k⟩, fun x => (by cases x), fun _ => rfl⟩⟩
  · exact ⟨zeroD, false, fun _ => ⟨rfl, rfl⟩, fun x => absurd x h⟩
theorem fits_ofHold {d g : LegD} {t c s share : Int} {b : Bool} (hf : Fits d) (h : HoldIs d t c s share g b) : Fits g := by
  by_cases q : OkLeg d
  · obtain ⟨h1, h2, h3⟩ := h.2 q
    obtain ⟨f1, f2, f3, f4, f5, f6, f7⟩ := hf
    have h6 := q.2.2.1.1
    cases b with
    | false => rw [h3 rfl]; exact ⟨f1, f2, f3, f4, f5, f6, f7⟩
    | true =>
      obtain ⟨k, -, rfl⟩ := h2 rfl
      exact ⟨f1, f2, f3, f4, f5, f6, by show d.nH + 1 ≤ _; omega⟩
  · rw [(h.1 q).1]
    exact ⟨by decide, by decide, by decide, by decide, by decide, by decide, by decide⟩
theorem okLeg_ofHold {d g : LegD} {t c s share : Int} (ho : OkLeg d) (h : HoldIs d t c s share g true) : OkLeg g := by
  obtain ⟨h1, h2, -⟩ := h.2 ho
  obtain ⟨k, hk, rfl⟩ := h2 rfl
  exact okLeg_put ho hk (h1.1 rfl)
theorem falls_mono {z : Nat → Int} {n : Nat} {most : Int} (h : Falls z n most) : ∀ (i j : Nat), i ≤ j → j < n → z j ≤ z i
  | i, 0, hij, hj => by
    obtain rfl : i = 0 := by omega
    exact Int.le_refl _
  | i, j + 1, hij, hj => by
    rcases Nat.lt_or_ge i (j + 1) with r | r
    · have ih := falls_mono h i j (by omega) (by omega)
      have := (h (j + 1) hj).2
      rw [if_neg (by omega)] at this
      have e : j + 1 - 1 = j := by omega
      rw [e] at this
      omega
    · obtain rfl : i = j + 1 := by omega
      exact Int.le_refl _
theorem left_put (d : LegD) {k : Nat} (t c s : Int) (hk : k ≤ d.nH) (q : Nat) : leftB (putD d k t c s) q = leftB d q - (if (q : Int) ≤ c then max s 0 else 0) := by
  have := used_put d t c s hk q
  unfold leftB
  show d.L q - usedB (putD d k t c s) q = _
  omega
theorem room_put_le (d : LegD) {k : Nat} (t c s : Int) (hk : k ≤ d.nH) : ∀ m, roomN (putD d k t c s) m ≤ roomN d m ∧ roomN d m - max s 0 ≤ roomN (putD d k t c s) m
  | 0 => by show d.cap ≤ d.cap ∧ d.cap - max s 0 ≤ d.cap; omega
  | m + 1 => by
    have ih := room_put_le d t c s hk m
    have hl := left_put d t c s hk m
    simp only [roomN]
    split at hl <;> omega
theorem bid_put {d : LegD} (ho : OkLeg d) {k : Nat} {t c s share : Int} (hk : HeldAt d t k) (hc : CanPut d t c s share) : bidB d ≤ bidB (putD d k t c s) := by
  have hg := okLeg_put ho hk hc
  have h1 := room_put_le d t c s hk.1 1
  have h2 := ho.room0 1 (by omega)
  have h3 := hg.room0 1 (by omega)
  have hn := ho.2.1.2.2.2.2.1.1
  unfold bidB
  exact falls_mono ho.2.1.2.2.2.2.2.1 _ _ (show (min (roomN (putD d k t c s) 1) ((d.nB : Int) - 1)).toNat ≤ _ by omega) (by omega)
theorem bid_ge {d : LegD} (ho : OkLeg d) : 0 ≤ bidB d := by
  have h2 := ho.room0 1 (by omega)
  have hn := ho.2.1.2.2.2.2.1.1
  unfold bidB
  exact (falls_top ho.2.1.2.2.2.2.2.1 _ (by omega)).1
/-- What FnLegBid asks of a leg of which one more seat is held. -/
theorem bid_more {d g : LegD} {t c s share : Int} {b b2 : Int} {x : Bool} (h : HoldIs d t c s share g x) (hb : IsBid d b) (hb2 : IsBid g b2) : 0 ≤ b ∧ (x = true → b ≤ b2) := by
  by_cases ho : OkLeg d
  · rw [hb.1 ho]
    refine ⟨bid_ge ho, fun hx => ?_⟩
    subst hx
    have hg := okLeg_ofHold ho h
    rw [hb2.1 hg]
    obtain ⟨h1, h2, -⟩ := h.2 ho
    obtain ⟨k, hk, rfl⟩ := h2 rfl
    exact bid_put ho hk (h1.1 rfl)
  · rw [hb.2 ho]
    exact ⟨Int.le_refl _, fun hx => by have := (h.1 ho).2; rw [hx] at this; cases this⟩
theorem bid_nn {d : LegD} {b : Int} (hb : IsBid d b) : 0 ≤ b := by
  by_cases ho : OkLeg d
  · rw [hb.1 ho]; exact bid_ge ho
  · rw [hb.2 ho]; exact Int.le_refl _
theorem room_le_lim {d : LegD} (ho : OkLeg d) {c : Nat} (hc : c ≤ 2) : roomN d (c + 1) ≤ d.L c := by
  have h1 := room_le d c c (Nat.le_refl _)
  have hu := (usedB_box ho.sized.2.1 ho.sized.2.2.1 c (by omega)).1
  unfold leftB at h1
  omega
theorem room_next (d : LegD) (c : Nat) : roomN d (c + 2) ≤ roomN d (c + 1) := by
  show min (roomN d (c + 1)) (leftB d (c + 1)) ≤ _
  omega
end Go.Proofs.Ytmlkjlipjkmcfaa
