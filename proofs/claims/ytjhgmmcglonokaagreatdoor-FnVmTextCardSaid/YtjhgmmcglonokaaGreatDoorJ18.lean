/-
  Whether marks are ok: the model's answer.
  What so many come to by tiers: the model's answer.
-/
import Derived.Test.YtjhgmmcglonokaaGreatDoorJ10
import Derived.Deep.RegionWith
namespace Go.Proofs.YtjhgmmcglonokaaGreatDoor
open Go.RowKit
set_option linter.unusedVariables false

def GoodS (f p : Nat → Int) (i : Nat) : Prop := 0 ≤ f i ∧ Good f p i ∧ (i = 0 → f 0 = 0)
theorem goodS_all {f p : Nat → Int} {len : Nat} (h0 : f 0 = 0) (h : ∀ i, i < len → Good f p i) : ∀ i, i < len → GoodS f p i := by
  intro i
  induction i with
  | zero => intro hi; exact ⟨by omega, h 0 hi, fun _ => h0⟩
  | succ i ih =>
    intro hi
    have h1 := ih (by omega)
    have h2 := (h (i + 1) hi).2.2.2 (by omega)
    simp only [Nat.add_sub_cancel] at h2
    exact ⟨by have := h1.1; omega, h _ hi, fun e => by omega⟩
theorem mok_iff {f p : Nat → Int} {len : Nat} : MOk f p len ↔ (1 ≤ len ∧ len ≤ 5) ∧ ∀ i, i < len → GoodS f p i := by
  constructor
  · intro h; exact ⟨⟨h.1, h.2.1⟩, goodS_all h.2.2.1 h.2.2.2⟩
  · intro h; exact ⟨h.1.1, h.1.2, (h.2 0 (by omega)).2.2 rfl, fun i hi => (h.2 i hi).2.1⟩
theorem stepS {f p : Nat → Int} {k : Nat} (h : ∀ j, j < k → GoodS f p j) (hk : GoodS f p k) : Hid (∀ j, j < k + 1 → GoodS f p j) := by
  intro j hj
  rcases Nat.lt_or_ge j k with h1 | h1
  · exact h j h1
  · obtain rfl : j = k := by omega
    exact hk

theorem specInQ (n a b : Int) (w : World) (v : Bool) (h : (decide (a ≤ n) && decide (n ≤ b)) = v) :
    Calls Tryz.prog 50 #[.int .i64 n, .int .i64 a, .int .i64 b] w fun e w' => e = .returned (.bool v) ∧ w' = w :=
  (specInB n a b w v h).mono fun _ _ h => ⟨h.1, h.2.symm⟩

set_option maxHeartbeats 4000000 in
theorem specMarksOk (a : Option Addr) (len cap : Nat) (f p : Nat → Int) (w : World) (h : Marks w a len f p) (hl : len ≤ 1048576) :
    Calls Tryz.prog 113 #[.slice a len cap] w (OkPost f p len w) := by
  go_enter Tryz.func113, Tryz.ntmps113
  go_wp2_with fail
  go_loopw [3] (fun i wr => ∃ k : Nat, k ≤ len ∧ i = .int .i64 k ∧ Hid (∀ j, j < k → GoodS f p j) ∧ Below w.heap.size w wr) (fun i _ => len - (intOf i).toNat)
  case atStart => exact ⟨0, Nat.zero_le _, rfl, fun j hj => by omega, Below.refl _ _⟩
  case round =>
    obtain ⟨k, hk, rfl, hg, hbw⟩ := hrel
    rcases Nat.lt_or_ge k len with hlt | hge
    · rcases h with h | ⟨b, off, rfl, hb, hc⟩
      · omega
      have bad : ¬ GoodS f p k → ¬ MOk f p len := fun h1 h2 => h1 ((mok_iff.1 h2).2 k hlt)
      have Bad := Lib.hid bad
      clear bad
      rcases Nat.eq_zero_or_pos k with hk0 | hk0
      · subst hk0
        have d1 := (hbw.cell (p := ⟨b, off + 0 * 2, none⟩) hb).trans (hc 0 hlt).1
        have d2 := (hbw.cell (p := ⟨b, off + 0 * 2 + 1, none⟩) hb).trans (hc 0 hlt).2
        rw [Nat.zero_mul, Nat.add_zero] at d1 d2
        clear hc
        cases h1 : (decide (0 ≤ f 0) && decide (f 0 ≤ 1000000000)) with
        | false =>
          have c1 : Hid (f 0 < 0 ∨ 1000000000 < f 0) := by show _ ∨ _; simp at h1; omega
          have H1 := Lib.hid h1; clear h1
          go_wp2_with fail
          go_quiet (first | (go_at_call_of 50 (Value.int IntKind.i64 1000000000); refine Calls.quiet_of_same (specInQ (f 0) 0 1000000000 _ false H1.out)))
          go_wp2
          go_ret; exact ⟨_, rfl, ⟨fun h => (by cases h), fun h => absurd h (Bad.out (by intro g; obtain ⟨g1, ⟨g2, g3, g4, g5⟩, g6⟩ := g; have := g6 rfl; have := c1.out; omega))⟩, (hbw.alloc hbw.size _).trans (belowN (Below.refl _ _) _)⟩
        | true =>
          have c1 : 0 ≤ f 0 ∧ f 0 ≤ 1000000000 := by simpa using h1
          have C1 := Lib.hid c1; have H1 := Lib.hid h1; clear h1 c1
          cases h2 : (decide (0 ≤ p 0) && decide (p 0 ≤ 1000000)) with
          | false =>
            have c1 : Hid (p 0 < 0 ∨ 1000000 < p 0) := by show _ ∨ _; simp at h2; omega
            have H2 := Lib.hid h2; clear h2
            go_wp2_with fail
            go_quiet (first | (go_at_call_of 50 (Value.int IntKind.i64 1000000000); refine Calls.quiet_of_same (specInQ (f 0) 0 1000000000 _ true H1.out)) | (go_at_call_of 50 (Value.int IntKind.i64 1000000); refine Calls.quiet_of_same (specInQ (p 0) 0 1000000 _ false H2.out)))
            go_wp2
            go_ret; exact ⟨_, rfl, ⟨fun h => (by cases h), fun h => absurd h (Bad.out (by intro g; obtain ⟨g1, ⟨g2, g3, g4, g5⟩, g6⟩ := g; have := g6 rfl; have := c1.out; omega))⟩, (hbw.alloc hbw.size _).trans (belowN (Below.refl _ _) _)⟩
          | true =>
            have c2 : 0 ≤ p 0 ∧ p 0 ≤ 1000000 := by simpa using h2
            have C2 := Lib.hid c2; have H2 := Lib.hid h2; clear h2 c2
            cases hf : (f 0 != 0) with
            | true =>
              have c3 : f 0 ≠ 0 := by simpa using hf
              have Hc := Lib.hid c3
              clear c3
              go_wp2_with fail
              go_quiet (first | (go_at_call_of 50 (Value.int IntKind.i64 1000000000); refine Calls.quiet_of_same (specInQ (f 0) 0 1000000000 _ true H1.out)) | (go_at_call_of 50 (Value.int IntKind.i64 1000000); refine Calls.quiet_of_same (specInQ (p 0) 0 1000000 _ true H2.out)))
              go_wp2
              go_ret; exact ⟨_, rfl, ⟨fun h => (by cases h), fun h => absurd h (Bad.out (by intro g; obtain ⟨g1, ⟨g2, g3, g4, g5⟩, g6⟩ := g; have := Hc.out; have := g6 rfl; omega))⟩, (hbw.alloc hbw.size _).trans (belowN (Below.refl _ _) _)⟩
            | false =>
              have c3 : f 0 = 0 := by simpa using hf
              have Hc := Lib.hid c3
              clear c3
              go_wp2_with fail
              go_quiet (first | (go_at_call_of 50 (Value.int IntKind.i64 1000000000); refine Calls.quiet_of_same (specInQ (f 0) 0 1000000000 _ true H1.out)) | (go_at_call_of 50 (Value.int IntKind.i64 1000000); refine Calls.quiet_of_same (specInQ (p 0) 0 1000000 _ true H2.out)))
              go_wp2
              go_roundw
              case rel => exact ⟨1, by omega, rfl, stepS (k := 0) hg.out ⟨C1.out.1, ⟨C1.out.2, C2.out.1, C2.out.2, fun h => by omega⟩, fun _ => Hc.out⟩, (hbw.alloc hbw.size _).trans (belowN (Below.refl _ _) _)⟩
              case measure => simp [intOf]; omega
      · obtain ⟨m, rfl⟩ : ∃ m, k = m + 1 := ⟨k - 1, by omega⟩
        have d1 := (hbw.cell (p := ⟨b, off + (m + 1) * 2, none⟩) hb).trans (hc (m + 1) hlt).1
        have d2 := (hbw.cell (p := ⟨b, off + (m + 1) * 2 + 1, none⟩) hb).trans (hc (m + 1) hlt).2
        have d3 := ((hbw.alloc hbw.size (.cells #[.int .i64 (f (m + 1)), .int .i64 (p (m + 1))] 93)).cell (p := ⟨b, off + m * 2, none⟩) hb).trans (hc m (by omega)).1
        have k1 : (m : Int) < len := by omega
        have k0 : (0 : Int) ≤ m := by omega
        have hm0 : ((m : Int) + 1 == 0) = false := by simp; omega
        have kw : IntKind.i64.wrap (m : Int) = (m : Int) := IntWalk.i64_in _ (by omega)
        clear hc
        cases h1 : (decide (0 ≤ f (m + 1)) && decide (f (m + 1) ≤ 1000000000)) with
        | false =>
          have c1 : Hid (f (m + 1) < 0 ∨ 1000000000 < f (m + 1)) := by show _ ∨ _; simp at h1; omega
          have H1 := Lib.hid h1; clear h1
          go_wp2_with fail
          go_quiet (first | (go_at_call_of 50 (Value.int IntKind.i64 1000000000); refine Calls.quiet_of_same (specInQ (f (m + 1)) 0 1000000000 _ false H1.out)))
          go_wp2
          go_ret; exact ⟨_, rfl, ⟨fun h => (by cases h), fun h => absurd h (Bad.out (by intro g; obtain ⟨g1, ⟨g2, g3, g4, g5⟩, g6⟩ := g; have := c1.out; omega))⟩, (hbw.alloc hbw.size _).trans (belowN (Below.refl _ _) _)⟩
        | true =>
          have c1 : 0 ≤ f (m + 1) ∧ f (m + 1) ≤ 1000000000 := by simpa using h1
          have C1 := Lib.hid c1; have H1 := Lib.hid h1; clear h1 c1
          cases h2 : (decide (0 ≤ p (m + 1)) && decide (p (m + 1) ≤ 1000000)) with
          | false =>
            have c1 : Hid (p (m + 1) < 0 ∨ 1000000 < p (m + 1)) := by show _ ∨ _; simp at h2; omega
            have H2 := Lib.hid h2; clear h2
            go_wp2_with fail
            go_quiet (first | (go_at_call_of 50 (Value.int IntKind.i64 1000000000); refine Calls.quiet_of_same (specInQ (f (m + 1)) 0 1000000000 _ true H1.out)) | (go_at_call_of 50 (Value.int IntKind.i64 1000000); refine Calls.quiet_of_same (specInQ (p (m + 1)) 0 1000000 _ false H2.out)))
            go_wp2
            go_ret; exact ⟨_, rfl, ⟨fun h => (by cases h), fun h => absurd h (Bad.out (by intro g; obtain ⟨g1, ⟨g2, g3, g4, g5⟩, g6⟩ := g; have := c1.out; omega))⟩, (hbw.alloc hbw.size _).trans (belowN (Below.refl _ _) _)⟩
          | true =>
            have c2 : 0 ≤ p (m + 1) ∧ p (m + 1) ≤ 1000000 := by simpa using h2
            have C2 := Lib.hid c2; have H2 := Lib.hid h2; clear h2 c2
            rcases Int.lt_or_le (f m) (f (m + 1)) with c3 | c3
            · go_wp2_with fail
              go_quiet (first | (go_at_call_of 50 (Value.int IntKind.i64 1000000000); refine Calls.quiet_of_same (specInQ (f (m + 1)) 0 1000000000 _ true H1.out)) | (go_at_call_of 50 (Value.int IntKind.i64 1000000); refine Calls.quiet_of_same (specInQ (p (m + 1)) 0 1000000 _ true H2.out)))
              go_wp2
              go_roundw
              case rel => exact ⟨m + 1 + 1, by omega, by go_num, stepS (k := m + 1) hg.out ⟨C1.out.1, ⟨C1.out.2, C2.out.1, C2.out.2, fun _ => by simp only [Nat.add_sub_cancel]; exact c3⟩, fun h => by omega⟩, (hbw.alloc hbw.size _).trans (belowN (Below.refl _ _) _)⟩
              case measure => simp [intOf]; omega
            · go_wp2_with fail
              go_quiet (first | (go_at_call_of 50 (Value.int IntKind.i64 1000000000); refine Calls.quiet_of_same (specInQ (f (m + 1)) 0 1000000000 _ true H1.out)) | (go_at_call_of 50 (Value.int IntKind.i64 1000000); refine Calls.quiet_of_same (specInQ (p (m + 1)) 0 1000000 _ true H2.out)))
              go_wp2
              go_ret; exact ⟨_, rfl, ⟨fun h => (by cases h), fun h => absurd h (Bad.out (by intro g; obtain ⟨g1, ⟨g2, g3, g4, g5⟩, g6⟩ := g; have := g5 (by omega); simp only [Nat.add_sub_cancel] at this; omega))⟩, (hbw.alloc hbw.size _).trans (belowN (Below.refl _ _) _)⟩
    · obtain rfl : k = len := by omega
      clear h
      go_wp2_with (go_at_call 50; refine (specIn _ _ _ _).mono ?_; rintro e w' ⟨rfl, rfl⟩)
      go_ret
      exact ⟨_, rfl, ⟨fun h => mok_iff.2 ⟨by simp at h; omega, hg.out⟩, fun h => (by have := (mok_iff.1 h).1; simp; omega)⟩, hbw⟩
end Go.Proofs.YtjhgmmcglonokaaGreatDoor

namespace Go.Proofs.YtjhgmmcglonokaaGreatDoor
open Go.RowKit
set_option linter.unusedVariables false

end Go.Proofs.YtjhgmmcglonokaaGreatDoor
