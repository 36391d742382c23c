/-
  What a law on shares draws, and whether two lists are the same.
-/
import Derived.Test.YtnhniglldkmanaaDrawShare
import Derived.Test.YtnhniglldkmanaaMoneyShare
namespace Go.Proofs.Ytnhniglldkmanaa
open Go.RowKit
set_option linter.unusedVariables false

def DrawnS (w : World) (e : Ending) (w' : World) : Prop := ∃ (T : Int) (a : Option Addr) (n cap : Nat) (z : Nat → Int), -1000000000000 ≤ T ∧ T ≤ 1000000000000 ∧ n ≤ 9 ∧ (∀ i, i < n → -1 ≤ z i ∧ z i ≤ 1000001) ∧ e = .returned (.tuple #[.int .i64 T, .slice a n cap]) ∧ Nums w' a n z ∧ Below w.heap.size w w'

set_option maxHeartbeats 1000000 in
theorem drawShare (a0 : Option Addr) (len cap : Nat) (z : List Int) (w : World) (w0 : IsRow .u8 w a0 len cap z) :
    Calls Try.prog 13 #[.slice a0 len cap] w (DrawnS w) := by
  go_enter Try.func13, Try.ntmps13
  go_wp2_with fail
  refine (opened a0 len cap z _ w0).mono ?_
  rintro e w1 ⟨rfl, hr1, hb1, -⟩
  clear w0
  go_wp2_with fail
  refine (drawAmount w.heap.size w.heap.size 0 _ hr1 (by omega)).mono ?_
  rintro e w2 ⟨x, l1, u1, rfl, hr2, hg2⟩
  have hb2 := below_step hb1 hg2
  go_wp2_with fail
  refine (drawWeights w.heap.size _ _ hr2 (by omega)).mono ?_
  rintro e w3 ⟨v, n, p, hn9, rfl, ⟨zs, hzl, hown, hzs, hnil⟩, hr3, -, hb3⟩
  obtain ⟨g, cp, rfl⟩ := own_form hown hnil
  have hN : Hid (Nums w3 (some ⟨g, 0, none⟩) n (fun i => zs.getD i 0)) := by
    refine Or.inr ⟨g, 0, rfl, (hown.lt g rfl).2, fun i hi => ?_⟩
    rw [Nat.zero_add, hown.cellAt i (by omega)]
    have : i < zs.length := by omega
    simp [this]
  have hz : Hid (∀ i, i < n → -1 ≤ zs.getD i 0 ∧ zs.getD i 0 ≤ 1000001) := fun i hi => by
    have : i < zs.length := by omega
    have e : zs.getD i 0 = zs[i] := by simp [this]
    rw [e]; exact hzs _ (List.getElem_mem _)
  have hb := hb2.trans hb3
  clear hown hzs hnil
  go_wp2
  go_ret2
  exact ⟨x, _, n, cp, _, l1, u1, hn9, hz.out, rfl, hN.out, hb⟩

set_option maxHeartbeats 1000000 in
theorem wsSame (a a' : Option Addr) (len cap cap' : Nat) (z : Nat → Int) (w : World) (h : Nums w a len z) (h' : Nums w a' len z) (hl : len ≤ 1048576) :
    Calls Try.prog 7 #[.slice a len cap, .slice a' len cap'] w fun e w' => e = .returned (.bool true) ∧ Drew w w' := by
  go_enter Try.func7, Try.ntmps7
  go_wp2_with fail
  go_loopw [5] (fun i wr => ∃ k : Nat, k ≤ len ∧ i = .int .i64 k ∧ ∃ q, wr = w.drewN q) (fun i _ => len - (intOf i).toNat)
  case atStart => exact ⟨0, Nat.zero_le _, rfl, 0, rfl⟩
  case round =>
    obtain ⟨k, hk, rfl, q, rfl⟩ := hrel
    rcases Nat.lt_or_ge k len with hlt | hge
    · rcases h with hc | ⟨b, off, rfl, hbl, hcell⟩
      · omega
      rcases h' with hc' | ⟨b', off', rfl, hbl', hcell'⟩
      · omega
      have c1 := hcell k hlt
      have c2 := hcell' k hlt
      clear hcell hcell'
      generalize z k = s at *
      have k1 : (k : Int) < len := by omega
      have k0 : (0 : Int) ≤ k := by omega
      go_wp2_with fail
      go_quiet (fail)
      go_wp2
      go_roundw
      case rel => exact ⟨k + 1, by omega, by go_num, _, rfl⟩
      case measure => simp [intOf]; omega
    · obtain rfl : k = len := by omega
      go_wp2
      go_ret
      exact ⟨rfl, q, rfl⟩

theorem absT_neg (T : Int) : absT (-T) = absT T := by unfold absT; split <;> split <;> omega
theorem sok_neg {T : Int} {z : Nat → Int} {n : Nat} (h : SOk T z n) : SOk (-T) z n := ⟨okB_mk (by have := okB_yes h.1; omega), h.2⟩
theorem sok_neg' {T : Int} {z : Nat → Int} {n : Nat} (h : SOk (-T) z n) : SOk T z n := by have := sok_neg h; rwa [Int.neg_neg] at this
theorem share_neg {T : Int} {z : Nat → Int} {n : Nat} {R : Nat → Nat} (i : Nat) : shareV (-T) z n R i = -(shareV T z n R i) := by
  have hc : cutV (-T) z n R i = cutV T z n R i := by unfold cutV; rw [absT_neg]
  unfold shareV
  rw [hc]
  rcases Int.lt_trichotomy T 0 with h | h | h
  · rw [if_neg (by omega), if_pos h]; omega
  · subst h
    have h0 : cutV 0 z n R i = 0 := by
      have a0 : absT 0 = 0 := by unfold absT; simp
      have q0 : shQ 0 z (sumF z n) = fun _ => 0 := by funext j; unfold shQ; simp
      have s0 : ∀ k : Nat, sumF (fun _ => (0 : Int)) k = 0 := fun k => by
        induction k with
        | zero => rfl
        | succ k ih => simp only [sumF, ih]; rfl
      unfold cutV outAt restF
      rw [a0, q0, s0]
      simp [got]
    simp [h0]
  · rw [if_pos (by omega), if_neg (by omega)]
theorem share_bd {T : Int} {z : Nat → Int} {n : Nat} {R : Nat → Nat} (h : SOk T z n) (i : Nat) (hi : i < n) : -1000000000000000001 ≤ shareV T z n R i ∧ shareV T z n R i ≤ 1000000000000000001 := by
  have := cut_bd (R := R) h i hi
  unfold shareV; split <;> omega

end Go.Proofs.Ytnhniglldkmanaa
