/-
  A drawn text that is bent: a piece more stands in it somewhere, or none.
-/
import Derived.Test.YtifpdamghmlcfaaDoorOf
import Derived.Deep.RegionWith
namespace Go.Proofs.YtifpdamghmlcfaaDoor
open Go.RowKit
set_option linter.unusedVariables false

def BentM (M b : Nat) (w : World) (e : Ending) (w' : World) : Prop := ∃ t : ByteArray, t.size ≤ M + M + 50 ∧ e = .returned (.string t) ∧ w.grownBy w' (some b)

theorem rd_drewM {B : Nat} {w : World} {b p : Nat} (h : Rd B w b p) : Rd B w.drew b p := h.kept (Below.refl _ _).drew rfl

set_option maxHeartbeats 1000000 in
theorem bendM (M B b p n lb cap : Nat) (s : ByteArray) (ss : Nat → ByteArray) (w : World) (hr : Rd B w b p) (hp : p ≤ 100000000) (n1 : 1 ≤ n) (n2 : n ≤ 1000) (hM : M ≤ 1000000) (hs : s.size ≤ M) (hc : ∀ i, i < n → w.cell? ⟨lb, i, none⟩ = some (.string (ss i))) (hb : lb ≠ b) (hl : ∀ i, i < n → (ss i).size ≤ 50) :
    Calls Tryd.prog 18 #[.pointer (some ⟨b, 0, none⟩), .string s, .slice (some ⟨lb, 0, none⟩) n cap, .int .i64 4] w (BentM M b w) := by
  have Hc := Lib.hid hc
  have Hl := Lib.hid hl
  clear hc hl
  go_enter Tryd.func18, Tryd.ntmps18
  go_wp2_with fail
  refine (pick B b p 4 _ hr (by omega) (by omega) (by omega)).mono ?_
  rintro e w1 ⟨x1, l1, u1, rfl, hr1, hg1, -⟩
  rcases Int.lt_or_le 0 x1 with k1 | k1
  · go_wp2
    go_ret
    exact ⟨_, by omega, rfl, hg1⟩
  · go_wp2_with fail
    refine (pick B b _ ((s.size : Int) + 1) _ hr1 (by omega) (by omega) (by omega)).mono ?_
    rintro e w2 ⟨x2, l2, u2, rfl, hr2, hg2, -⟩
    obtain ⟨k, rfl⟩ := Int.eq_ofNat_of_zero_le l2
    have hk : k ≤ s.size := by omega
    have Hc2 : Hid (∀ i, i < n → w2.cell? ⟨lb, i, none⟩ = some (.string (ss i))) := fun i hi => hg2.cell (hg1.cell (Hc.out i hi) (by simpa using hb)) (by simpa using hb)
    have z1 : (s.extract 0 k).size ≤ M := by rw [ByteArray.size_extract]; omega
    have z2 : (s.extract k s.size).size ≤ M := by rw [ByteArray.size_extract]; omega
    have q1 : (k : Int) ≤ s.size := by omega
    have q2 : (0 : Int) ≤ k := by omega
    go_wp2_with fail
    go_region_with (go_at_call 17; refine (pickOf B b (p + 1 + 1) n lb cap ss _ ?_ ?_ ?_ ?_ ?_ ?_).mono ?_; exact rd_drewM hr2; omega; omega; omega; exact Hc2.out; exact hb; rintro e w3 ⟨i, hi, rfl, hr3, hg3, -⟩; have z3 := Hl.out i hi)
    all_goals
      go_wp2
      go_ret
      refine ⟨_, ?_, rfl, grown_trans (grown_trans hg1 hg2) (grown_trans (grownN w2 1 _) hg3)⟩
      simp only [ByteArray.size_append]
      omega

theorem below_stepM {w w1 w2 : World} (h : Below w.heap.size w w1) (hg : w1.grownBy w2 (some w.heap.size)) : Below w.heap.size w w2 :=
  h.grown hg h.size (fun k e => by cases e; exact Nat.le_refl _)
end Go.Proofs.YtifpdamghmlcfaaDoor
