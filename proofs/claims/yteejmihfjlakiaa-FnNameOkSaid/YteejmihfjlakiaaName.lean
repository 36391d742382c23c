/-
  The law FnNameOk's own walk: the drawn text, and each of its bytes alone.
-/
import Derived.Test.YteejmihfjlakiaaWalks
import Derived.Test.YteejmihfjlakiaaOf
import Derived.Lib.Strings
namespace Go.Proofs.Yteejmihfjlakiaa
open Go.RowKit
set_option linter.unusedVariables false

def DrawnText (w : World) (e : Ending) (w' : World) : Prop := ∃ s : ByteArray, s.size ≤ 9 ∧ e = .returned (.string s) ∧ Below w.heap.size w w'

def nameTexts : List ByteArray := [⟨#[]⟩, ⟨#[97]⟩, ⟨#[97, 98, 99, 100, 101, 102, 103, 104]⟩, ⟨#[97, 98, 99, 100, 101, 102, 103, 104, 105]⟩, ⟨#[65]⟩, ⟨#[97, 49]⟩, ⟨#[116, 97, 120]⟩]

set_option maxHeartbeats 400000 in
theorem drawName (a0 : Option Addr) (len cap : Nat) (z : List Int) (w : World) (w0 : IsRow .u8 w a0 len cap z) :
    Calls Try.prog 7 #[.slice a0 len cap] w (DrawnText w) := by
  go_enter Try.func7, Try.ntmps7
  go_wp2_with fail
  refine (opened a0 len cap z _ w0).mono ?_
  rintro e w' ⟨rfl, hr, hb, hz⟩
  have hk := hb.alloc (o := .cells #[.string ⟨#[]⟩] 0) (by omega)
  go_wp2_with fail
  refine (pickOf w.heap.size w.heap.size 0 7 _ 7 (fun i => nameTexts.getD i ByteArray.empty) _ (rd_alloc hr _) (by omega) (by omega) (by omega) (fun i hi => lits_at _ _ hz.symm nameTexts rfl i hi) (by omega)).mono ?_
  rintro e w2 ⟨i, hi, rfl, hr2, hg, hz2⟩
  have hfin : Below w.heap.size w w2 := (hb.alloc (by omega) _).grown hg (by simp; omega) (fun k e => by cases e; exact Nat.le_refl _)
  have hs : (nameTexts.getD i ByteArray.empty).size ≤ 9 := by
    have : ∀ i, i < 7 → (nameTexts.getD i ByteArray.empty).size ≤ 9 := by decide
    exact this i hi
  have Hs := Lib.hid hs
  clear hs
  go_wp2
  go_ret
  exact ⟨_, by simpa using Hs.out, rfl, hfin⟩

def inLen (s : ByteArray) : Bool := decide (1 ≤ (s.size : Int)) && decide ((s.size : Int) ≤ 8)

set_option maxHeartbeats 400000 in
theorem wsIn (n a b : Int) (w : World) :
    Calls Try.prog 8 #[.int .i64 n, .int .i64 a, .int .i64 b] w fun e w' => e = .returned (.bool (decide (a ≤ n) && decide (n ≤ b))) ∧ w = w' := by
  by_cases h1 : n < a
  · go_enter Try.func8, Try.ntmps8
    go_wp2
    go_ret
    exact ⟨retB (by simp; omega), rfl⟩
  · go_enter Try.func8, Try.ntmps8
    go_wp2
    go_ret
    exact ⟨retB (by simp; try omega), rfl⟩

theorem one_name (s : ByteArray) (k : Nat) (h : k < s.size) : nameB (s.extract k (k + 1)).data.toList = letB s[k] := by
  have e : (s.extract k (k + 1)).data.toList = [s[k]] := by
    rw [Lib.extract_data]
    apply List.ext_getElem?
    intro i
    rcases i with _ | i
    · simp [h]; rfl
    · simp; omega
  rw [e]; simp [nameB]

set_option maxHeartbeats 1000000 in
theorem lawName (a0 : Option Addr) (len cap : Nat) (z : List Int) (w : World) (w0 : IsRow .u8 w a0 len cap z) :
    Calls Try.prog 4 #[.slice a0 len cap] w fun e w' => e = .returned (.bool true) ∧ Below w.heap.size w w' := by
  by_cases hbig : 1048576 < len
  · go_enter Try.func4, Try.ntmps4
    go_wp2
    go_ret
    exact ⟨rfl, Below.refl _ _⟩
  · go_enter Try.func4, Try.ntmps4
    go_wp2_with fail
    refine (drawName a0 len cap z _ w0).mono ?_
    rintro e w1 ⟨s, hs, rfl, hb⟩
    go_wp2_with fail
    refine (implName s _ (by unfold maxLen; omega)).mono ?_
    rintro e w' ⟨rfl, rfl⟩
    go_wp2_with fail
    refine (wsIn _ _ _ _).mono ?_
    rintro e w' ⟨rfl, rfl⟩
    generalize hn : nameB s.data.toList = nb
    have Hn := Lib.hid hn
    clear hn
    generalize hil : (decide (1 ≤ (s.size : Int)) && decide ((s.size : Int) ≤ 8)) = il
    have Hil := Lib.hid hil
    clear hil
    go_wp2_with fail
    go_loop [5, 6] (fun v i => ∃ k : Nat, k ≤ s.size ∧ i = .int .i64 k ∧ ∃ c : Bool, v = .bool c ∧ Hid (c = (il && (s.data.toList.take k).all letB))) (fun _ i => s.size - (intOf i).toNat)
    case atStart => exact ⟨0, Nat.zero_le _, rfl, il, rfl, by simp [Hid]⟩
    case round =>
      obtain ⟨k, hk, rfl, c, rfl, Hc⟩ := hrel
      by_cases hlt : k < s.size
      · have HT : Hid ((s.data.toList.take (k + 1)).all letB = ((s.data.toList.take k).all letB && letB s[k])) := by
          rw [take_snoc s k hlt, List.all_append]; simp [Hid]
        have H1 := Lib.hid (one_name s k hlt)
        cases c with
        | false =>
          go_wp2
          go_round
          case rel => exact ⟨k + 1, by omega, by go_num, false, rfl, by have := Hc.out; unfold Hid; rw [HT.out, ← Bool.and_assoc, ← this, Bool.false_and]⟩
          case measure => simp [intOf]; omega
        | true =>
          go_wp2_with fail
          refine (implName _ _ ?_).mono ?_
          · simp; unfold maxLen; omega
          rintro e w' ⟨rfl, rfl⟩
          rw [H1.out]
          go_wp2
          go_round
          case rel => exact ⟨k + 1, by omega, by go_num, letB s[k], rfl, by have := Hc.out; unfold Hid; rw [HT.out, ← Bool.and_assoc, ← this, Bool.true_and]⟩
          case measure => simp [intOf]; omega
      · obtain rfl : k = s.size := by omega
        have hnc : nb = c := by
          have h1 := Hn.out
          have h2 := Hil.out
          have h3 := Hc.out
          have e : s.data.toList.length = s.size := by simp
          rw [List.take_of_length_le (by omega)] at h3
          have e1 : decide (1 ≤ (s.size : Int)) = decide (1 ≤ s.size) := decide_eq_decide.2 (by omega)
          have e2 : decide ((s.size : Int) ≤ 8) = decide (s.size ≤ 8) := decide_eq_decide.2 (by omega)
          rw [← h1, h3, ← h2, e1, e2, nameB, e]
        subst hnc
        go_wp2_with fail
        refine (specName s _ (by unfold maxLen; omega)).mono ?_
        rintro e w' ⟨rfl, rfl⟩
        rw [Hn.out]
        cases nb <;> (go_wp2; go_ret; exact ⟨rfl, hb⟩)
end Go.Proofs.Yteejmihfjlakiaa
