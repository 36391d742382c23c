/-
  Marks in memory, and whether they are ok: the program's answer and the model's.
  What so many come to by tiers: plain sums, and the program's answer.
-/
import Derived.Test.YtjhgmmcglonokaaGreatDoorJ1
import Derived.IntWalk
namespace Go.Proofs.YtjhgmmcglonokaaGreatDoor
open Go.RowKit
set_option linter.unusedVariables false

/-- The slice (a, len) reads as marks: From is f, Price is p. -/
def Marks (w : World) (a : Option Addr) (len : Nat) (f p : Nat → Int) : Prop :=
  len = 0 ∨ ∃ b off, a = some ⟨b, off, none⟩ ∧ b < w.heap.size ∧ ∀ i, i < len → w.cell? ⟨b, off + i * 2, none⟩ = some (.int .i64 (f i)) ∧ w.cell? ⟨b, off + i * 2 + 1, none⟩ = some (.int .i64 (p i))
theorem Marks.kept {w w' : World} {a : Option Addr} {len : Nat} {f p : Nat → Int} (h : Marks w a len f p) (hb : Below w.heap.size w w') : Marks w' a len f p := by
  rcases h with h | ⟨b, off, h2, h3, h4⟩
  · exact Or.inl h
  · exact Or.inr ⟨b, off, h2, Nat.lt_of_lt_of_le h3 hb.size, fun i hi => ⟨(hb.cell (p := ⟨b, off + i * 2, none⟩) h3).trans (h4 i hi).1, (hb.cell (p := ⟨b, off + i * 2 + 1, none⟩) h3).trans (h4 i hi).2⟩⟩

def Good (f p : Nat → Int) (i : Nat) : Prop := f i ≤ 1000000000 ∧ 0 ≤ p i ∧ p i ≤ 1000000 ∧ (0 < i → f (i - 1) < f i)
def MOk (f p : Nat → Int) (len : Nat) : Prop := 1 ≤ len ∧ len ≤ 5 ∧ f 0 = 0 ∧ ∀ i, i < len → Good f p i

theorem step {f p : Nat → Int} {k : Nat} (h : ∀ j, j < k → Good f p j) (hk : Good f p k) : Hid (∀ j, j < k + 1 → Good f p j) := by
  intro j hj
  rcases Nat.lt_or_ge j k with h1 | h1
  · exact h j h1
  · obtain rfl : j = k := by omega
    exact hk
def OkPost (f p : Nat → Int) (len : Nat) (w : World) (e : Ending) (w' : World) : Prop := ∃ b : Bool, e = .returned (.bool b) ∧ (b = true ↔ MOk f p len) ∧ Below w.heap.size w w'

set_option maxHeartbeats 1000000 in
theorem implMarksOk (a : Option Addr) (len cap : Nat) (f p : Nat → Int) (w : World) (h : Marks w a len f p) (hl : len ≤ 1048576) :
    Calls Tryz.prog 208 #[.slice a len cap] w (OkPost f p len w) := by
  rcases Nat.lt_or_ge len 1 with l0 | l0
  · go_enter Tryz.func208, Tryz.ntmps208
    go_wp2
    go_ret
    exact ⟨_, rfl, ⟨fun h => (by cases h), fun h => (by have := h.1; have := h.2.1; omega)⟩, Below.refl _ _⟩
  rcases Nat.lt_or_ge 5 len with l5 | l5
  · go_enter Tryz.func208, Tryz.ntmps208
    go_wp2
    go_ret
    exact ⟨_, rfl, ⟨fun h => (by cases h), fun h => (by have := h.1; have := h.2.1; omega)⟩, Below.refl _ _⟩
  rcases h with h | ⟨b, off, rfl, hb, hc⟩
  · omega
  · have c00 := (hc 0 (by omega)).1
    rw [Nat.zero_mul, Nat.add_zero] at c00
    cases hf : (f 0 != 0) with
    | true =>
      go_enter Tryz.func208, Tryz.ntmps208
      go_wp2
      go_ret
      exact ⟨_, rfl, ⟨fun h => (by cases h), fun h => (by have := h.2.2.1; simp [this] at hf)⟩, Below.refl _ _⟩
    | false =>
      go_enter Tryz.func208, Tryz.ntmps208
      go_wp2
      go_loopw [22] (fun i wr => ∃ k : Nat, k ≤ len ∧ i = .int .i64 k ∧ Hid (∀ j, j < k → Good f p j) ∧ Below w.heap.size w wr) (fun i _ => len - (intOf i).toNat)
      case atStart => exact ⟨0, Nat.zero_le _, rfl, fun j hj => by omega, Below.refl _ _⟩
      case round =>
        obtain ⟨k, hk, rfl, hg, hbw⟩ := hrel
        rcases Nat.lt_or_ge k len with hlt | hge
        · have d1 := (hbw.cell (p := ⟨b, off + k * 2, none⟩) hb).trans (hc k hlt).1
          have d2 := (hbw.cell (p := ⟨b, off + k * 2 + 1, none⟩) hb).trans (hc k hlt).2
          have bad : ¬ Good f p k → ¬ MOk f p len := fun h1 h2 => h1 (h2.2.2.2 k hlt)
          have Bad := Lib.hid bad
          clear bad
          rcases Nat.eq_zero_or_pos k with hk0 | hk0
          · subst hk0
            rw [Nat.zero_mul, Nat.add_zero] at d1 d2
            go_wp2
            all_goals first
              | (go_ret; exact ⟨_, rfl, ⟨fun h => (by cases h), fun h => absurd h (Bad.out (by intro g; have := g.1; have := g.2.1; have := g.2.2.1; omega))⟩, hbw.alloc hbw.size _⟩)
              | (go_quiet (fail); go_wp2; go_roundw; (case rel => exact ⟨1, by omega, rfl, step (k := 0) hg.out ⟨by omega, by omega, by omega, by omega⟩, (hbw.alloc hbw.size _).trans (belowN (Below.refl _ _) _)⟩); (case measure => simp [intOf]; omega))
          · obtain ⟨m, rfl⟩ : ∃ m, k = m + 1 := ⟨k - 1, by omega⟩
            have d3 := ((hbw.alloc hbw.size (.cells #[.int .i64 (f (m + 1)), .int .i64 (p (m + 1))] 93)).cell (p := ⟨b, off + m * 2, none⟩) hb).trans (hc m (by omega)).1
            have k1 : (m : Int) < len := by omega
            have k0 : (0 : Int) ≤ m := by omega
            have kw : IntKind.i64.wrap (m : Int) = (m : Int) := IntWalk.i64_in _ (by omega)
            go_wp2
            all_goals first
              | (go_ret; exact ⟨_, rfl, ⟨fun h => (by cases h), fun h => absurd h (Bad.out (by intro g; have := g.1; have := g.2.1; have := g.2.2.1; omega))⟩, hbw.alloc hbw.size _⟩)
              | (go_quiet (fail); go_wp2; all_goals first
                  | (go_ret; exact ⟨_, rfl, ⟨fun h => (by cases h), fun h => absurd h (Bad.out (by intro g; have := g.2.2.2 (by omega); simp only [Nat.add_sub_cancel] at this; omega))⟩, (hbw.alloc hbw.size _).trans (belowN (Below.refl _ _) _)⟩)
                  | (go_roundw; (case rel => exact ⟨m + 1 + 1, by omega, by go_num, step (k := m + 1) hg.out ⟨by omega, by omega, by omega, by intro _; simp only [Nat.add_sub_cancel]; omega⟩, (hbw.alloc hbw.size _).trans (belowN (Below.refl _ _) _)⟩); (case measure => simp [intOf]; omega)))
        · obtain rfl : k = len := by omega
          go_wp2
          go_ret
          exact ⟨_, rfl, ⟨fun _ => ⟨l0, l5, by simpa using hf, hg.out⟩, fun _ => rfl⟩, hbw⟩
end Go.Proofs.YtjhgmmcglonokaaGreatDoor

namespace Go.Proofs.YtjhgmmcglonokaaGreatDoor
open Go.RowKit
set_option linter.unusedVariables false

def tEnd (f : Nat → Int) (len : Nat) (n : Int) (i : Nat) : Int := if i + 1 < len ∧ f (i + 1) < n then f (i + 1) else n
def tTerm (f p : Nat → Int) (len : Nat) (n : Int) (i : Nat) : Int := if f i < tEnd f len n i then (tEnd f len n i - f i) * p i else 0
def tSum (f p : Nat → Int) (len : Nat) (n : Int) : Nat → Int
  | 0 => 0
  | k + 1 => tSum f p len n k + tTerm f p len n k

def TOk (f p : Nat → Int) (len : Nat) (n : Int) : Prop := (0 ≤ n ∧ n ≤ 1000000000000) ∧ MOk f p len ∧ tSum f p len n len ≤ 1000000000000
def TIs (f p : Nat → Int) (len : Nat) (n x : Int) (b : Bool) : Prop := (b = true ∧ TOk f p len n ∧ x = tSum f p len n len) ∨ (b = false ∧ ¬ TOk f p len n ∧ x = 0)
theorem TIs.same {f p : Nat → Int} {len : Nat} {n x y : Int} {b c : Bool} (h : TIs f p len n x b) (k : TIs f p len n y c) : x = y ∧ b = c := by
  rcases h with ⟨h1, h2, h3⟩ | ⟨h1, h2, h3⟩ <;> rcases k with ⟨k1, k2, k3⟩ | ⟨k1, k2, k3⟩
  · exact ⟨h3.trans k3.symm, h1.trans k1.symm⟩
  · exact absurd h2 k2
  · exact absurd k2 h2
  · exact ⟨h3.trans k3.symm, h1.trans k1.symm⟩

theorem f_nonneg {f p : Nat → Int} {len : Nat} (h : MOk f p len) (i : Nat) (hi : i < len) : 0 ≤ f i := by
  induction i with
  | zero => have := h.2.2.1; omega
  | succ i ih =>
    have h1 := ih (by omega)
    have h2 := (h.2.2.2 (i + 1) hi).2.2.2 (by omega)
    simp only [Nat.add_sub_cancel] at h2
    omega
theorem tEnd_bd {f p : Nat → Int} {len : Nat} {n : Int} (h : MOk f p len) (h0 : 0 ≤ n) (i : Nat) : 0 ≤ tEnd f len n i ∧ tEnd f len n i ≤ n := by
  unfold tEnd
  split
  · rename_i h1; have := f_nonneg h (i + 1) h1.1; omega
  · omega
theorem tTerm_bd {f p : Nat → Int} {len : Nat} {n : Int} (h : MOk f p len) (h0 : 0 ≤ n) (h1 : n ≤ 1000000000000) (i : Nat) (hi : i < len) : 0 ≤ tTerm f p len n i ∧ tTerm f p len n i ≤ 1000000000000000000 := by
  have he := tEnd_bd (p := p) h h0 i
  have hf := f_nonneg h i hi
  obtain ⟨g1, g2, g3, g4⟩ := h.2.2.2 i hi
  unfold tTerm
  split
  · rename_i hlt
    refine ⟨Int.mul_nonneg (by omega) g2, ?_⟩
    exact Int.le_trans (Int.mul_le_mul (by omega : tEnd f len n i - f i ≤ 1000000000000) g3 g2 (by omega)) (by omega)
  · omega
theorem tSum_bd {f p : Nat → Int} {len : Nat} {n : Int} (h : MOk f p len) (h0 : 0 ≤ n) (h1 : n ≤ 1000000000000) : ∀ k, k ≤ len → 0 ≤ tSum f p len n k ∧ tSum f p len n k ≤ 1000000000000000000 * k
  | 0, _ => by simp [tSum]
  | k + 1, hk => by
    have ih := tSum_bd h h0 h1 k (by omega)
    have ht := tTerm_bd h h0 h1 k (by omega)
    simp only [tSum]
    omega
end Go.Proofs.YtjhgmmcglonokaaGreatDoor
