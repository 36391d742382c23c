/-
  What so many come to by tiers: the model's answer.
-/
import Derived.Test.YtembapomapcdfaaGreatDoorTiers
import Derived.Test.YtembapomapcdfaaGreatDoorMarks2
namespace Go.Proofs.YtembapomapcdfaaGreatDoor
open Go.RowKit
set_option linter.unusedVariables false

theorem div_big {p x : Int} (hp : 0 < p) (h : 1000000000000 / p < x) : 1000000000000 < x * p := Int.lt_mul_of_ediv_lt hp h
theorem big {f p : Nat → Int} {len : Nat} {n : Int} (h : MOk f p len) (h0 : 0 ≤ n) (h1 : n ≤ 1000000000000) (k : Nat) (hk : k < len) (hb : 1000000000000 < tSum f p len n (k + 1)) : 1000000000000 < tSum f p len n len := by
  have := tSum_mono h h0 h1 (k + 1) (len - (k + 1)) (by omega)
  rw [show k + 1 + (len - (k + 1)) = len from by omega] at this
  omega
def LPost (f p : Nat → Int) (len : Nat) (n : Int) (w : World) (e : Ending) (w' : World) : Prop :=
  ∃ x c : Int, e = .returned (.tuple #[.int .i64 x, .int .i64 c]) ∧ ((c = 0 ∧ x = tSum f p len n len ∧ tSum f p len n len ≤ 1000000000000) ∨ (c = 2 ∧ x = 0 ∧ 1000000000000 < tSum f p len n len)) ∧ Below w.heap.size w w'

set_option maxRecDepth 20000 in
set_option maxHeartbeats 4000000 in
theorem specTiers (n : Int) (a : Option Addr) (len cap : Nat) (f p : Nat → Int) (w : World) (h : Marks w a len f p) (hm : MOk f p len) (n0 : 0 ≤ n) (n1 : n ≤ 1000000000000) :
    Calls Tryz.prog 46 #[.int .i64 n, .slice a len cap] w (LPost f p len n w) := by
  rcases h with h | ⟨bb, off, rfl, HB, hc⟩
  · have := hm.1; omega
  have HC := Lib.hid hc
  have Hm := Lib.hid hm
  have F0 := f_nonneg hm
  have FN := Lib.hid F0
  have l5 : len ≤ 5 := hm.2.1
  clear hm F0 hc
  go_enter Tryz.func46, Tryz.ntmps46
  go_wp2_with fail

  go_loopw [7, 6] (fun i v wr => ∃ k : Nat, k ≤ len ∧ i = .int .i64 k ∧ ∃ s : Int, v = .int .i64 s ∧ 0 ≤ s ∧ s ≤ 1000000000000 ∧ Hid (s = tSum f p len n k) ∧ Below w.heap.size w wr) (fun i _ _ => len - (intOf i).toNat)
  case atStart => exact ⟨0, Nat.zero_le _, rfl, 0, rfl, by omega, by omega, by show _ = _; simp [tSum], Below.refl _ _⟩
  case round =>
    obtain ⟨k, hk, rfl, s, rfl, s0, s1, hs, hbw⟩ := hrel
    rcases Nat.lt_or_ge k len with hlt | hge
    · have tb := Lib.hid (tTerm_bd Hm.out n0 n1 k hlt)
      have d1 : wr.cell? ⟨bb, off + k * 2, none⟩ = some (.int .i64 (f k)) := (hbw.cell (p := ⟨bb, off + k * 2, none⟩) HB).trans (HC.out k hlt).1
      have d2 : wr.cell? ⟨bb, off + k * 2 + 1, none⟩ = some (.int .i64 (p k)) := (hbw.cell (p := ⟨bb, off + k * 2 + 1, none⟩) HB).trans (HC.out k hlt).2
      have fk0 : 0 ≤ f k := FN.out k hlt
      have fk1 : f k ≤ 1000000000 := (Hm.out.2.2.2 k hlt).1
      have pk0 : 0 ≤ p k := (Hm.out.2.2.2 k hlt).2.1
      have pk1 : p k ≤ 1000000 := (Hm.out.2.2.2 k hlt).2.2.1
      rcases Nat.lt_or_ge (k + 1) len with h2 | h2
      · have d3 : wr.cell? ⟨bb, off + (k + 1) * 2, none⟩ = some (.int .i64 (f (k + 1))) := (hbw.cell (p := ⟨bb, off + (k + 1) * 2, none⟩) HB).trans (HC.out (k + 1) h2).1
        have asc : f k < f (k + 1) := by have := (Hm.out.2.2.2 (k + 1) h2).2.2.2 (by omega); simpa using this
        have fn1 : f (k + 1) ≤ 1000000000 := (Hm.out.2.2.2 (k + 1) h2).1
        have k1 : (k : Int) + 1 < len := by omega
        rcases Int.lt_or_le (f (k + 1)) n with h3 | h3
        · have he : Hid (tEnd f len n k = f (k + 1)) := by show _ = _; rw [tEnd, if_pos ⟨h2, h3⟩]
          have ht : Hid (tTerm f p len n k = (f (k + 1) - f k) * p k) := by show _ = _; rw [tTerm, he.out, if_pos (by omega)]
          have t0 : 0 ≤ (f (k + 1) - f k) * p k := by rw [← ht.out]; exact tb.out.1
          have t1 : (f (k + 1) - f k) * p k ≤ 1000000000000000000 := by rw [← ht.out]; exact tb.out.2
          rcases Int.lt_or_le 0 (p k) with hp | hp
          · rcases Int.lt_or_le (1000000000000 / p k) (f (k + 1) - f k) with hd | hd
            · have hbig : 1000000000000 < (f (k + 1) - f k) * p k := div_big hp hd
              go_wp2
              all_goals first
                | (go_ret2; exact ⟨_, _, rfl, Or.inr ⟨rfl, rfl, big Hm.out n0 n1 k hlt (by have := ht.out; have := hs.out; simp only [tSum]; omega)⟩, hbw⟩)
                | (go_roundw; (case rel => exact ⟨k + 1, hlt, by go_num, s + (f (k + 1) - f k) * p k, by go_num, by omega, by omega, by have := ht.out; have := hs.out; show _ = _; simp only [tSum]; omega, hbw⟩); (case measure => simp [intOf]; omega))
            · skip
              go_wp2
              all_goals first
                | (go_ret2; exact ⟨_, _, rfl, Or.inr ⟨rfl, rfl, big Hm.out n0 n1 k hlt (by have := ht.out; have := hs.out; simp only [tSum]; omega)⟩, hbw⟩)
                | (go_roundw; (case rel => exact ⟨k + 1, hlt, by go_num, s + (f (k + 1) - f k) * p k, by go_num, by omega, by omega, by have := ht.out; have := hs.out; show _ = _; simp only [tSum]; omega, hbw⟩); (case measure => simp [intOf]; omega))
          · have hp0 : p k = 0 := by omega
            have hz : (f (k + 1) - f k) * p k = 0 := by rw [hp0, Int.mul_zero]
            have Hp0 := Lib.hid hp0
            clear hp0
            go_wp2
            all_goals first
              | (go_ret2; exact ⟨_, _, rfl, Or.inr ⟨rfl, rfl, big Hm.out n0 n1 k hlt (by have := ht.out; have := hs.out; simp only [tSum]; omega)⟩, hbw⟩)
              | (go_roundw; (case rel => exact ⟨k + 1, hlt, by go_num, s + (f (k + 1) - f k) * p k, by go_num, by omega, by omega, by have := ht.out; have := hs.out; show _ = _; simp only [tSum]; omega, hbw⟩); (case measure => simp [intOf]; omega))
        · have he : Hid (tEnd f len n k = n) := by show _ = _; rw [tEnd, if_neg (by omega)]
          rcases Int.lt_or_le (f k) n with h4 | h4
          · skip
            have ht : Hid (tTerm f p len n k = (n - f k) * p k) := by show _ = _; rw [tTerm, he.out, if_pos (by omega)]
            have t0 : 0 ≤ (n - f k) * p k := by rw [← ht.out]; exact tb.out.1
            have t1 : (n - f k) * p k ≤ 1000000000000000000 := by rw [← ht.out]; exact tb.out.2
            rcases Int.lt_or_le 0 (p k) with hp | hp
            · rcases Int.lt_or_le (1000000000000 / p k) (n - f k) with hd | hd
              · have hbig : 1000000000000 < (n - f k) * p k := div_big hp hd
                go_wp2
                all_goals first
                  | (go_ret2; exact ⟨_, _, rfl, Or.inr ⟨rfl, rfl, big Hm.out n0 n1 k hlt (by have := ht.out; have := hs.out; simp only [tSum]; omega)⟩, hbw⟩)
                  | (go_roundw; (case rel => exact ⟨k + 1, hlt, by go_num, s + (n - f k) * p k, by go_num, by omega, by omega, by have := ht.out; have := hs.out; show _ = _; simp only [tSum]; omega, hbw⟩); (case measure => simp [intOf]; omega))
              · skip
                go_wp2
                all_goals first
                  | (go_ret2; exact ⟨_, _, rfl, Or.inr ⟨rfl, rfl, big Hm.out n0 n1 k hlt (by have := ht.out; have := hs.out; simp only [tSum]; omega)⟩, hbw⟩)
                  | (go_roundw; (case rel => exact ⟨k + 1, hlt, by go_num, s + (n - f k) * p k, by go_num, by omega, by omega, by have := ht.out; have := hs.out; show _ = _; simp only [tSum]; omega, hbw⟩); (case measure => simp [intOf]; omega))
            · have hp0 : p k = 0 := by omega
              have hz : (n - f k) * p k = 0 := by rw [hp0, Int.mul_zero]
              have Hp0 := Lib.hid hp0
              clear hp0
              go_wp2
              all_goals first
                | (go_ret2; exact ⟨_, _, rfl, Or.inr ⟨rfl, rfl, big Hm.out n0 n1 k hlt (by have := ht.out; have := hs.out; simp only [tSum]; omega)⟩, hbw⟩)
                | (go_roundw; (case rel => exact ⟨k + 1, hlt, by go_num, s + (n - f k) * p k, by go_num, by omega, by omega, by have := ht.out; have := hs.out; show _ = _; simp only [tSum]; omega, hbw⟩); (case measure => simp [intOf]; omega))
          · skip
            have ht : Hid (tTerm f p len n k = 0) := by show _ = _; rw [tTerm, he.out, if_neg (by omega)]
            go_wp2
            all_goals first
              | (go_ret2; exact ⟨_, _, rfl, Or.inr ⟨rfl, rfl, big Hm.out n0 n1 k hlt (by have := ht.out; have := hs.out; simp only [tSum]; omega)⟩, hbw⟩)
              | (go_roundw; (case rel => exact ⟨k + 1, hlt, by go_num, s, by go_num, by omega, by omega, by have := ht.out; have := hs.out; show _ = _; simp only [tSum]; omega, hbw⟩); (case measure => simp [intOf]; omega))
      · have he : Hid (tEnd f len n k = n) := by show _ = _; rw [tEnd, if_neg (by omega)]
        have k1 : ¬ (k : Int) + 1 < len := by omega
        rcases Int.lt_or_le (f k) n with h4 | h4
        · skip
          have ht : Hid (tTerm f p len n k = (n - f k) * p k) := by show _ = _; rw [tTerm, he.out, if_pos (by omega)]
          have t0 : 0 ≤ (n - f k) * p k := by rw [← ht.out]; exact tb.out.1
          have t1 : (n - f k) * p k ≤ 1000000000000000000 := by rw [← ht.out]; exact tb.out.2
          rcases Int.lt_or_le 0 (p k) with hp | hp
          · rcases Int.lt_or_le (1000000000000 / p k) (n - f k) with hd | hd
            · have hbig : 1000000000000 < (n - f k) * p k := div_big hp hd
              go_wp2
              all_goals first
                | (go_ret2; exact ⟨_, _, rfl, Or.inr ⟨rfl, rfl, big Hm.out n0 n1 k hlt (by have := ht.out; have := hs.out; simp only [tSum]; omega)⟩, hbw⟩)
                | (go_roundw; (case rel => exact ⟨k + 1, hlt, by go_num, s + (n - f k) * p k, by go_num, by omega, by omega, by have := ht.out; have := hs.out; show _ = _; simp only [tSum]; omega, hbw⟩); (case measure => simp [intOf]; omega))
            · skip
              go_wp2
              all_goals first
                | (go_ret2; exact ⟨_, _, rfl, Or.inr ⟨rfl, rfl, big Hm.out n0 n1 k hlt (by have := ht.out; have := hs.out; simp only [tSum]; omega)⟩, hbw⟩)
                | (go_roundw; (case rel => exact ⟨k + 1, hlt, by go_num, s + (n - f k) * p k, by go_num, by omega, by omega, by have := ht.out; have := hs.out; show _ = _; simp only [tSum]; omega, hbw⟩); (case measure => simp [intOf]; omega))
          · have hp0 : p k = 0 := by omega
            have hz : (n - f k) * p k = 0 := by rw [hp0, Int.mul_zero]
            have Hp0 := Lib.hid hp0
            clear hp0
            go_wp2
            all_goals first
              | (go_ret2; exact ⟨_, _, rfl, Or.inr ⟨rfl, rfl, big Hm.out n0 n1 k hlt (by have := ht.out; have := hs.out; simp only [tSum]; omega)⟩, hbw⟩)
              | (go_roundw; (case rel => exact ⟨k + 1, hlt, by go_num, s + (n - f k) * p k, by go_num, by omega, by omega, by have := ht.out; have := hs.out; show _ = _; simp only [tSum]; omega, hbw⟩); (case measure => simp [intOf]; omega))
        · skip
          have ht : Hid (tTerm f p len n k = 0) := by show _ = _; rw [tTerm, he.out, if_neg (by omega)]
          go_wp2
          all_goals first
            | (go_ret2; exact ⟨_, _, rfl, Or.inr ⟨rfl, rfl, big Hm.out n0 n1 k hlt (by have := ht.out; have := hs.out; simp only [tSum]; omega)⟩, hbw⟩)
            | (go_roundw; (case rel => exact ⟨k + 1, hlt, by go_num, s, by go_num, by omega, by omega, by have := ht.out; have := hs.out; show _ = _; simp only [tSum]; omega, hbw⟩); (case measure => simp [intOf]; omega))
    · obtain rfl : k = len := by omega
      go_wp2
      go_ret2
      exact ⟨_, _, rfl, Or.inl ⟨rfl, hs.out, by rw [← hs.out]; exact s1⟩, hbw⟩
end Go.Proofs.YtembapomapcdfaaGreatDoor
