/-
  A log that is drawn: not long.
-/
import Derived.Test.YtiganhkmnklhlaaDoorLogAddS
import Derived.Test.YtiganhkmnklhlaaDoorOf
import Derived.Test.YtiganhkmnklhlaaDoorMany
import Derived.OwnWalk
import Derived.Deep.DeepMust
import Derived.Deep.RegionLaw
import Derived.Deep.RegionWith
import Derived.Maps.AppendAt
namespace Go.Proofs.YtiganhkmnklhlaaDoor
open Go.RowKit
set_option linter.unusedVariables false
set_option linter.unusedSimpArgs false

def LogDrawn (B b p m : Nat) (w : World) (e : Ending) (w' : World) : Prop := ∃ (s : ByteArray) (q : Nat), e = .returned (.string s) ∧ s.size ≤ 9000 ∧ Rd B w' b q ∧ q ≤ p + m ∧ w.grownBy w' (some b)
def logWords : List ByteArray := [⟨#[]⟩, ⟨#[97]⟩, ⟨#[48, 58, 49, 58, 120]⟩, ⟨#[97, 32, 114, 101, 99, 111, 114, 100, 44, 32, 108, 111, 110, 103, 101, 114]⟩]
def logWord (i : Nat) : ByteArray := logWords.getD i ByteArray.empty
theorem logWord_size (i : Nat) (h : i < 4) : (logWord i).size ≤ 16 := by
  have : ∀ i, i < 4 → (logWord i).size ≤ 16 := by decide
  exact this i h

set_option maxRecDepth 100000 in
set_option maxHeartbeats 4000000 in
theorem drawLog (B b p : Nat) (w : World) (hr : Rd B w b p) (hp : p ≤ 1000) (hBw : B ≤ b) :
    Calls Tryd.prog 21 #[.pointer (some ⟨b, 0, none⟩)] w (LogDrawn B b p 9 w) := by
  have hsz := hr.le.2
  go_enter Tryd.func21, Tryd.ntmps21
  go_wp2_with fail
  refine (pick B b p 7 _ hr (by omega) (by omega) (by omega)).mono ?_
  rintro e w1 ⟨x, l1, u1, rfl, hr1, hg1, -⟩
  obtain ⟨n, rfl⟩ := Int.eq_ofNat_of_zero_le l1
  go_wp2_with fail
  go_loopw [3, 4] (fun vs vi wr => ∃ (s : ByteArray) (k q : Nat), vs = .string s ∧ vi = .int .i64 k ∧ k ≤ n ∧ s.size ≤ 9000 ∧ Rd B wr b q ∧ q + k ≤ p + 1 + n ∧ w.grownBy wr (some b)) (fun _ vi _ => (intOf vi).toNat)
  case atStart => exact ⟨⟨#[]⟩, n, p + 1, rfl, rfl, Nat.le_refl _, by decide, hr1, Nat.le_refl _, hg1⟩
  case round =>
    obtain ⟨s, k, q, rfl, rfl, hk, hs, hrr, hq, hg⟩ := hrel
    rcases Nat.eq_zero_or_pos k with hk0 | hkp
    · have g0 : decide ((0 : Int) < (k : Int)) = false := by simp; omega
      go_wp2_with fail
      refine (pick B b q 24 _ hrr (by omega) (by omega) (by omega)).mono ?_
      rintro e w2 ⟨y, m1, v1, rfl, hr2, hg2, -⟩
      cases hy : (y == 0) with
      | false =>
        go_wp2
        go_ret
        exact ⟨s, q + 1, rfl, hs, hr2, by omega, grown_trans hg hg2⟩
      | true =>
        go_wp2_with fail
        refine (manyS ⟨#[116]⟩ 8600 8600 _ (by decide) (by omega) (by decide) (by omega)).mono ?_
        rintro e w3 ⟨tt, htt, rfl, rfl⟩
        go_wp2_with fail
        refine (addS s tt _ (by omega) (by omega)).mono ?_
        rintro e w4 ⟨o, ok, rfl, -, hadd, hb4⟩
        have ho : o.size ≤ 9000 := (add_size hadd.out).elim id (fun e => by rw [e]; exact hs)
        have hl2 := hr2.le.2
        go_wp2
        go_ret
        exact ⟨o, q + 1, rfl, ho, hr2.kept (hb4.mono (by omega)) (hb4.block b hl2), by omega, grown_trans (grown_trans hg hg2) (toG hb4 _)⟩
    · have g0 : decide ((0 : Int) < (k : Int)) = true := by simp; omega
      have hlr := hrr.le.2
      go_wp2_with fail
      refine (pickOf B b q 4 wr.heap.size 4 logWord _ (rd_alloc hrr _) (by omega) (by omega) (by omega) (fun i hi => lits_at _ _ rfl logWords rfl i hi) (by omega)).mono ?_
      rintro e w2 ⟨i, hi, rfl, hr2, hg2, -⟩
      have hwz := logWord_size i hi
      generalize logWord i = x at *
      go_wp2_with fail
      refine (addS s x _ (by omega) (by omega)).mono ?_
      rintro e w3 ⟨o, ok, rfl, -, hadd, hb3⟩
      have ho : o.size ≤ 9000 := (add_size hadd.out).elim id (fun e => by rw [e]; exact hs)
      have hl2 := hr2.le.2
      have hgA := toG ((Below.refl wr.heap.size wr).alloc (Nat.le_refl _) (.cells #[.string ⟨#[]⟩, .string ⟨#[97]⟩, .string ⟨#[48, 58, 49, 58, 120]⟩, .string ⟨#[97, 32, 114, 101, 99, 111, 114, 100, 44, 32, 108, 111, 110, 103, 101, 114]⟩] 9)) (some b)
      go_wp2
      go_roundw
      case rel => exact ⟨o, k - 1, q + 1, rfl, by go_num, by omega, ho, hr2.kept (hb3.mono (by omega)) (hb3.block b hl2), by omega, grown_trans (grown_trans hg hgA) (grown_trans hg2 (toG hb3 _))⟩
      case measure => simp [intOf]; omega
end Go.Proofs.YtiganhkmnklhlaaDoor
