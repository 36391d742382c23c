/-
  The place of a transaction among what is held: the model's.
-/
import Derived.Test.YtmlkjlipjkmcfaaLegDropMath
import Derived.BigQuiet
namespace Go.Proofs.Ytmlkjlipjkmcfaa
open Go.RowKit Go.BigFrame
set_option linter.unusedVariables false
set_option linter.unusedSimpArgs false

def HeldAt (d : LegD) (txn : Int) (k : Nat) : Prop := k ≤ d.nH ∧ (∀ i, i < k → d.t i < txn) ∧ (k < d.nH → txn ≤ d.t k)
theorem held_pos {d : LegD} {txn : Int} {k : Nat} (ho : HoldsOk d) (h : HeldAt d txn k) : (k < d.nH ∧ d.t k = txn → posT d.t txn d.nH = k) ∧ (¬ (k < d.nH ∧ d.t k = txn) → posT d.t txn d.nH = d.nH) := by
  constructor
  · rintro ⟨h1, h2⟩
    rw [posT_at h2 (fun i hi => by have := h.2.1 i hi; omega)]; omega
  · intro hn
    refine posT_no d.nH (fun i hi => ?_)
    rcases Nat.lt_trichotomy i k with q | rfl | q
    · have := h.2.1 i q; omega
    · exact fun e => hn ⟨hi, e⟩
    · have h1 := h.2.2 (by omega)
      have h2 := asc_of ho q hi
      omega
set_option maxHeartbeats 4000000 in
theorem heldM (d : LegD) (p : LegP) (txn : Int) (w : World) (hin : LegIn w d p) (hn : d.nH ≤ 10) :
    Calls Try.prog 74 #[LegV d p, .int .i64 txn] w fun e w' => (∃ k b, HeldAt d txn k ∧ e = .returned (.tuple #[.int .i64 (k : Int), .bool b]) ∧ Hid (b = true ↔ k < d.nH ∧ d.t k = txn)) ∧ Below w.heap.size w w' := by
  have hbA : Below w.heap.size w (w.alloc (.cells (LegC d p) 31)) := (Below.refl _ _).alloc (Nat.le_refl _) _
  have hA := LegBox.new w d p
  have b9 := hA.c9
  have HIn := Lib.hid (hin.2.2.2.kept hbA)
  have HbA := Lib.hid hbA
  rw [LegV_eq]
  generalize hLC : LegC d p = LC at *
  clear hbA hA hin hLC
  go_enter Try.func74, Try.ntmps74
  go_wp2_with fail
  generalize w.alloc (.cells LC 31) = W at *
  go_loopw [6] (fun v wr => ∃ k : Nat, k ≤ d.nH ∧ v = .int .i64 k ∧ Hid (∀ i, i < k → d.t i < txn) ∧ W = wr) (fun v _ => d.nH - (intOf v).toNat)
  case atStart => exact ⟨0, Nat.zero_le _, rfl, fun i hi => absurd hi (Nat.not_lt_zero _), rfl⟩
  case round =>
    obtain ⟨k, hk, rfl, hto, rfl⟩ := hrel
    rcases Nat.lt_or_ge k d.nH with hlt | hge
    · obtain ⟨bH, oH, eH, hbH, hcH⟩ := HIn.out.cells (by omega)
      rw [eH] at b9
      have c1 := (hcH k hlt).1
      have k1 : (k : Int) < d.nH := by omega
      have k0 : (0 : Int) ≤ k := by omega
      have zk : decide ((k : Int) < d.nH) = true := decide_eq_true k1
      clear hcH eH
      generalize hx : d.t k = x at *
      have HX := Lib.hid hx
      clear hx
      rcases Int.lt_or_le x txn with h1 | h1
      · have hnx : Hid (∀ i, i < k + 1 → d.t i < txn) := by
          intro i hi
          rcases Nat.lt_or_ge i k with q | q
          · exact hto.out i q
          · obtain rfl : i = k := by omega
            rw [HX.out]; exact h1
        have zx : decide (x < txn) = true := decide_eq_true h1
        go_wp2
        go_roundw
        case rel => exact ⟨k + 1, by omega, by go_num, hnx.out, (by first | rfl | trivial)⟩
        case measure => simp [intOf]; omega
      · have hat : Hid (HeldAt d txn k) := ⟨hk, hto.out, fun _ => by rw [HX.out]; exact h1⟩
        have zx : decide (x < txn) = false := decide_eq_false (by omega)
        by_cases he : x = txn
        · have hyes : Hid (k < d.nH ∧ d.t k = txn) := ⟨hlt, by rw [HX.out]; exact he⟩
          have ze : (x == txn) = true := by simpa using he
          have zd : decide (x = txn) = true := by simpa using he
          clear he
          go_wp2_with fail
          go_big_quiet (fail)
          go_wp2
          go_ret2
          exact ⟨⟨k, true, hat.out, rfl, ⟨fun _ => hyes.out, fun _ => rfl⟩⟩, belowN HbA.out _⟩
        · have hno : Hid (¬ (k < d.nH ∧ d.t k = txn)) := fun h => he (by rw [← HX.out]; exact h.2)
          have ze : (x == txn) = false := by simpa using he
          have zd : decide (x = txn) = false := by simpa using he
          clear he
          go_wp2_with fail
          go_big_quiet (fail)
          go_wp2
          go_ret2
          exact ⟨⟨k, false, hat.out, rfl, ⟨fun h => (by cases h), fun h => absurd h hno.out⟩⟩, belowN HbA.out _⟩
    · have hat : Hid (HeldAt d txn k) := ⟨hk, hto.out, fun h => by omega⟩
      have hno : Hid (¬ (k < d.nH ∧ d.t k = txn)) := fun h => by omega
      have zk : decide ((k : Int) < d.nH) = false := decide_eq_false (by omega)
      have zk2 : decide (k < d.nH) = false := decide_eq_false (by omega)
      have zk3 : ¬ ((k : Int) < d.nH) := by omega
      go_wp2_with fail
      go_big_quiet (fail)
      go_wp2
      go_ret2
      exact ⟨⟨k, false, hat.out, rfl, ⟨fun h => (by cases h), fun h => absurd h hno.out⟩⟩, belowN HbA.out _⟩
end Go.Proofs.Ytmlkjlipjkmcfaa
