/-
  All weights together, 0 if they are not ok: the program and the model.
-/
import Derived.Test.YtnhniglldkmanaaNums
import Derived.Test.YtnhniglldkmanaaShareMath
namespace Go.Proofs.Ytnhniglldkmanaa
open Go.RowKit
set_option linter.unusedVariables false

def WOk (z : Nat → Int) (n : Nat) : Prop := n ≤ 8 ∧ (∀ i, i < n → 0 ≤ z i ∧ z i ≤ 1000000) ∧ sumF z n ≤ 1000000
def WIs (z : Nat → Int) (n : Nat) (s : Int) : Prop := (WOk z n ∧ s = sumF z n) ∨ (¬ WOk z n ∧ s = 0)
theorem WIs.same {z : Nat → Int} {n : Nat} {s t : Int} (h : WIs z n s) (k : WIs z n t) : s = t := by
  rcases h with ⟨h1, h2⟩ | ⟨h1, h2⟩ <;> rcases k with ⟨k1, k2⟩ | ⟨k1, k2⟩
  · exact h2.trans k2.symm
  · exact absurd h1 k1
  · exact absurd k1 h1
  · exact h2.trans k2.symm
theorem WIs.bd {z : Nat → Int} {n : Nat} {s : Int} (h : WIs z n s) : 0 ≤ s ∧ s ≤ 1000000 := by
  rcases h with ⟨⟨h0, h1, h3⟩, h2⟩ | ⟨h1, h2⟩
  · have := sumF_bd n h1; omega
  · omega
theorem zs_step {z : Nat → Int} {k : Nat} (h : ∀ j, j < k → 0 ≤ z j ∧ z j ≤ 1000000) (hk : 0 ≤ z k ∧ z k ≤ 1000000) : Hid (∀ j, j < k + 1 → 0 ≤ z j ∧ z j ≤ 1000000) := by
  intro j hj
  rcases Nat.lt_or_ge j k with h1 | h1
  · exact h j h1
  · obtain rfl : j = k := by omega
    exact hk
def WPost (z : Nat → Int) (n : Nat) (w : World) (e : Ending) (w' : World) : Prop := ∃ s : Int, e = .returned (.int .i64 s) ∧ WIs z n s ∧ w' = w

set_option maxHeartbeats 1000000 in
theorem implWeights (a : Option Addr) (len cap : Nat) (z : Nat → Int) (w : World) (h : Nums w a len z) (hl : len ≤ 1048576) :
    Calls Try.prog 19 #[.slice a len cap] w (WPost z len w) := by
  rcases Nat.lt_or_ge 8 len with h8 | h8
  · clear h
    have hno : WPost z len w (.returned (.int .i64 0)) w := ⟨0, rfl, Or.inr ⟨fun h => by have := h.1; omega, rfl⟩, rfl⟩
    have Hno := Lib.hid hno
    clear hno
    go_enter Try.func19, Try.ntmps19
    go_wp2
    go_ret
    exact Hno.out
  · go_enter Try.func19, Try.ntmps19
    go_wp2_with fail
    go_loopw [11, 3] (fun i v wr => ∃ k : Nat, k ≤ len ∧ i = .int .i64 k ∧ ∃ s : Int, v = .int .i64 s ∧ 0 ≤ s ∧ s ≤ 1000000 * k ∧ Hid (s = sumF z k) ∧ Hid (∀ j, j < k → 0 ≤ z j ∧ z j ≤ 1000000) ∧ wr = w) (fun i _ _ => len - (intOf i).toNat)
    case atStart => exact ⟨0, Nat.zero_le _, rfl, 0, rfl, by omega, by omega, rfl, fun j hj => by omega, rfl⟩
    case round =>
      obtain ⟨k, hk, rfl, s, rfl, s0, s1, hs, hz, rfl⟩ := hrel
      rcases Nat.lt_or_ge k len with hlt | hge
      · rcases h with h | ⟨b, off, rfl, hb, hc⟩
        · omega
        have c1 := hc k hlt
        clear hc
        by_cases hbad : z k < 0 ∨ 1000000 < z k
        · have hno : WPost z len wr (.returned (.int .i64 0)) wr := ⟨0, rfl, Or.inr ⟨fun h => by have := h.2.1 k hlt; omega, rfl⟩, rfl⟩
          have Hno := Lib.hid hno
          clear hno
          rcases Int.lt_or_le (z k) 0 with h1 | h1
          · clear hbad
            go_wp2
            go_ret
            exact Hno.out
          · have h2 : 1000000 < z k := by omega
            clear hbad
            go_wp2
            go_ret
            exact Hno.out
        · obtain ⟨h1, h2⟩ : 0 ≤ z k ∧ z k ≤ 1000000 := by omega
          clear hbad
          go_wp2
          go_roundw
          case rel => exact ⟨k + 1, hlt, by go_num, s + z k, by go_num, by omega, by omega, by have := hs.out; show _ = _; simp only [sumF]; omega, zs_step hz.out ⟨h1, h2⟩, by first | rfl | trivial⟩
          case measure => simp [intOf]; omega
      · obtain rfl : k = len := by omega
        clear h
        rcases Int.lt_or_le 1000000 s with h1 | h1
        · have hno : WPost z k wr (.returned (.int .i64 0)) wr := ⟨0, rfl, Or.inr ⟨fun h => by have := h.2.2; rw [← hs.out] at this; omega, rfl⟩, rfl⟩
          have Hno := Lib.hid hno
          clear hno
          go_wp2
          go_ret
          exact Hno.out
        · go_wp2
          go_ret
          exact ⟨s, rfl, Or.inl ⟨⟨h8, hz.out, by rw [← hs.out]; exact h1⟩, hs.out⟩, rfl⟩

set_option maxHeartbeats 1000000 in
theorem specWeights (a : Option Addr) (len cap : Nat) (z : Nat → Int) (w : World) (h : Nums w a len z) (hl : len ≤ 1048576) :
    Calls Try.prog 23 #[.slice a len cap] w (WPost z len w) := by
  go_enter Try.func23, Try.ntmps23
  go_wp2_with fail
  go_loopw [4, 3] (fun i v wr => ∃ k : Nat, k ≤ len ∧ i = .int .i64 k ∧ ∃ s : Int, v = .int .i64 s ∧ 0 ≤ s ∧ s ≤ 1000000 * k ∧ Hid (s = sumF z k) ∧ Hid (∀ j, j < k → 0 ≤ z j ∧ z j ≤ 1000000) ∧ wr = w) (fun i _ _ => len - (intOf i).toNat)
  case atStart => exact ⟨0, Nat.zero_le _, rfl, 0, rfl, by omega, by omega, rfl, fun j hj => by omega, rfl⟩
  case round =>
    obtain ⟨k, hk, rfl, s, rfl, s0, s1, hs, hz, rfl⟩ := hrel
    rcases Nat.lt_or_ge k len with hlt | hge
    · rcases h with h | ⟨b, off, rfl, hb, hc⟩
      · omega
      have c1 := hc k hlt
      clear hc
      cases hg : (decide (0 ≤ z k) && decide (z k ≤ 1000000)) with
      | false =>
        have hno : WPost z len wr (.returned (.int .i64 0)) wr := ⟨0, rfl, Or.inr ⟨fun h => by have := h.2.1 k hlt; simp at hg; omega, rfl⟩, rfl⟩
        have Hno := Lib.hid hno
        have Hg := Lib.hid hg
        clear hno hg
        go_wp2_with (go_at_call 30; refine (specInB _ _ _ _ false Hg.out).mono ?_; rintro e w' ⟨rfl, rfl⟩)
        go_ret
        exact Hno.out
      | true =>
        have h12 : 0 ≤ z k ∧ z k ≤ 1000000 := by simpa using hg
        have Hg := Lib.hid hg
        clear hg
        obtain ⟨h1, h2⟩ := h12
        go_wp2_with (go_at_call 30; refine (specInB _ _ _ _ true Hg.out).mono ?_; rintro e w' ⟨rfl, rfl⟩)
        go_roundw
        case rel => exact ⟨k + 1, hlt, by go_num, s + z k, by go_num, by omega, by omega, by have := hs.out; show _ = _; simp only [sumF]; omega, zs_step hz.out ⟨h1, h2⟩, by first | rfl | trivial⟩
        case measure => simp [intOf]; omega
    · obtain rfl : k = len := by omega
      clear h
      by_cases hbad : 8 < k ∨ 1000000 < s
      · have hno : WPost z k wr (.returned (.int .i64 0)) wr := ⟨0, rfl, Or.inr ⟨fun h => by have h3 := h.2.2; have := h.1; rw [← hs.out] at h3; omega, rfl⟩, rfl⟩
        have Hno := Lib.hid hno
        clear hno
        rcases Nat.lt_or_ge 8 k with h1 | h1
        · clear hbad
          go_wp2
          go_ret
          exact Hno.out
        · have h2 : 1000000 < s := by omega
          clear hbad
          go_wp2
          go_ret
          exact Hno.out
      · obtain ⟨h1, h2⟩ : k ≤ 8 ∧ s ≤ 1000000 := by omega
        clear hbad
        go_wp2
        go_ret
        exact ⟨s, rfl, Or.inl ⟨⟨h1, hz.out, by rw [← hs.out]; exact h2⟩, hs.out⟩, rfl⟩
end Go.Proofs.Ytnhniglldkmanaa
