/-
  A drawn text that is bent: a piece more stands in it somewhere, or none; what it is then.
-/
import Derived.Test.YtjhgmmcglonokaaGreatDoorJ40
import Derived.Deep.RegionWith
namespace Go.Proofs.YtjhgmmcglonokaaGreatDoor
open Go.RowKit
set_option linter.unusedVariables false

/-- A text, or a text with a piece put in. -/
def BentOf (s : ByteArray) (n : Nat) (ss : Nat → ByteArray) (t : ByteArray) : Prop := t = s ∨ ∃ k i, k ≤ s.size ∧ i < n ∧ t = s.extract 0 k ++ ss i ++ s.extract k s.size
def BendVP (s : ByteArray) (n : Nat) (ss : Nat → ByteArray) (b : Nat) (w : World) (e : Ending) (w' : World) : Prop := ∃ t : ByteArray, Hid (BentOf s n ss t) ∧ e = .returned (.string t) ∧ w.grownBy w' (some b)
theorem rd_drewC {B : Nat} {w : World} {b p : Nat} (h : Rd B w b p) : Rd B w.drew b p := h.kept (Below.refl _ _).drew rfl
set_option maxHeartbeats 1000000 in
theorem bendC (B b p n lb cap : Nat) (cs : Int) (s : ByteArray) (ss : Nat → ByteArray) (w : World) (hr : Rd B w b p) (hp : p ≤ 100000000) (c1 : 1 ≤ cs) (c2 : cs ≤ 1000) (n1 : 1 ≤ n) (n2 : n ≤ 1000) (hs : s.size ≤ 1000000) (hc : ∀ i, i < n → w.cell? ⟨lb, i, none⟩ = some (.string (ss i))) (hb : lb ≠ b) (hl : ∀ i, i < n → (ss i).size ≤ 50) :
    Calls Tryz.prog 44 #[.pointer (some ⟨b, 0, none⟩), .string s, .slice (some ⟨lb, 0, none⟩) n cap, .int .i64 cs] w (BendVP s n ss b w) := by
  have Hc := Lib.hid hc
  have Hl := Lib.hid hl
  clear hc hl
  go_enter Tryz.func44, Tryz.ntmps44
  go_wp2_with fail
  refine (pick B b p cs _ hr (by omega) (by omega) (by omega)).mono ?_
  rintro e w1 ⟨x1, l1, u1, rfl, hr1, hg1, -⟩
  rcases Int.lt_or_le 0 x1 with k1 | k1
  · go_wp2
    go_ret
    exact ⟨_, Lib.hid (Or.inl rfl), rfl, hg1⟩
  · go_wp2_with fail
    refine (pick B b _ ((s.size : Int) + 1) _ hr1 (by omega) (by omega) (by omega)).mono ?_
    rintro e w2 ⟨x2, l2, u2, rfl, hr2, hg2, -⟩
    obtain ⟨k, rfl⟩ := Int.eq_ofNat_of_zero_le l2
    have hk : k ≤ s.size := by omega
    have Hc2 : Hid (∀ i, i < n → w2.cell? ⟨lb, i, none⟩ = some (.string (ss i))) := fun i hi => hg2.cell (hg1.cell (Hc.out i hi) (by simpa using hb)) (by simpa using hb)
    have z1 : (s.extract 0 k).size ≤ s.size := by rw [ByteArray.size_extract]; omega
    have z2 : (s.extract k s.size).size ≤ s.size := by rw [ByteArray.size_extract]; omega
    have q1 : (k : Int) ≤ s.size := by omega
    have q2 : (0 : Int) ≤ k := by omega
    go_wp2_with fail
    go_region_with (go_at_call 43; refine (pickOf B b (p + 1 + 1) n lb cap ss _ ?_ ?_ ?_ ?_ ?_ ?_).mono ?_; exact rd_drewC hr2; omega; omega; omega; exact Hc2.out; exact hb; rintro e w3 ⟨i, hi, rfl, hr3, hg3, -⟩; have z3 := Hl.out i hi)
    all_goals
      go_wp2
      go_ret
      exact ⟨_, Lib.hid (Or.inr ⟨k, i, hk, hi, rfl⟩), rfl, grown_trans (grown_trans hg1 hg2) (grown_trans (grownN w2 1 _) hg3)⟩
end Go.Proofs.YtjhgmmcglonokaaGreatDoor
