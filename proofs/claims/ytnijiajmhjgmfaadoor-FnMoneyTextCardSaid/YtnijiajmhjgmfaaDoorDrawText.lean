/-
  What the law FnMoneyText draws: a text, perhaps bent, and a number; in a world that has only grown.
-/
import Derived.Test.YtnijiajmhjgmfaaDoorOf
import Derived.Test.YtnijiajmhjgmfaaDoorDrawMoney
import Derived.Test.YtnijiajmhjgmfaaDoorMoneyRead4
import Derived.Deep.RegionWith
namespace Go.Proofs.YtnijiajmhjgmfaaDoor
open Go.RowKit
set_option linter.unusedVariables false

def Bent (b : Nat) (w : World) (e : Ending) (w' : World) : Prop := ∃ t : ByteArray, t.size ≤ 300 ∧ e = .returned (.string t) ∧ w.grownBy w' (some b)

theorem rd_drew {B : Nat} {w : World} {b p : Nat} (h : Rd B w b p) : Rd B w.drew b p := h.kept (Below.refl _ _).drew rfl

set_option maxHeartbeats 1000000 in
theorem bend (B b p n lb cap : Nat) (s : ByteArray) (ss : Nat → ByteArray) (w : World) (hr : Rd B w b p) (hp : p ≤ 100000000) (n1 : 1 ≤ n) (n2 : n ≤ 1000) (hs : s.size ≤ 100) (hc : ∀ i, i < n → w.cell? ⟨lb, i, none⟩ = some (.string (ss i))) (hb : lb ≠ b) (hl : ∀ i, i < n → (ss i).size ≤ 50) :
    Calls Tryd.prog 21 #[.pointer (some ⟨b, 0, none⟩), .string s, .slice (some ⟨lb, 0, none⟩) n cap, .int .i64 4] w (Bent b w) := by
  have Hc := Lib.hid hc
  have Hl := Lib.hid hl
  clear hc hl
  go_enter Tryd.func21, Tryd.ntmps21
  go_wp2_with fail
  refine (pick B b p 4 _ hr (by omega) (by omega) (by omega)).mono ?_
  rintro e w1 ⟨x1, l1, u1, rfl, hr1, hg1, -⟩
  rcases Int.lt_or_le 0 x1 with k1 | k1
  · go_wp2
    go_ret
    exact ⟨_, by omega, rfl, hg1⟩
  · go_wp2_with fail
    refine (pick B b _ ((s.size : Int) + 1) _ hr1 (by omega) (by omega) (by omega)).mono ?_
    rintro e w2 ⟨x2, l2, u2, rfl, hr2, hg2, -⟩
    obtain ⟨k, rfl⟩ := Int.eq_ofNat_of_zero_le l2
    have hk : k ≤ s.size := by omega
    have Hc2 : Hid (∀ i, i < n → w2.cell? ⟨lb, i, none⟩ = some (.string (ss i))) := fun i hi => hg2.cell (hg1.cell (Hc.out i hi) (by simpa using hb)) (by simpa using hb)
    have z1 : (s.extract 0 k).size ≤ 100 := by rw [ByteArray.size_extract]; omega
    have z2 : (s.extract k s.size).size ≤ 100 := by rw [ByteArray.size_extract]; omega
    have q1 : (k : Int) ≤ s.size := by omega
    have q2 : (0 : Int) ≤ k := by omega
    go_wp2_with fail
    go_region_with (go_at_call 20; refine (pickOf B b (p + 1 + 1) n lb cap ss _ ?_ ?_ ?_ ?_ ?_ ?_).mono ?_; exact rd_drew hr2; omega; omega; omega; exact Hc2.out; exact hb; rintro e w3 ⟨i, hi, rfl, hr3, hg3, -⟩; have z3 := Hl.out i hi)
    all_goals
      go_wp2
      go_ret
      refine ⟨_, ?_, rfl, grown_trans (grown_trans hg1 hg2) (grown_trans (grownN w2 1 _) hg3)⟩
      simp only [ByteArray.size_append]
      omega

def readTexts : List ByteArray := [⟨#[]⟩, ⟨#[49]⟩, ⟨#[49, 46, 48]⟩, ⟨#[45, 48, 46, 48, 48]⟩, ⟨#[48, 48, 46, 49, 48]⟩, ⟨#[46, 49, 48]⟩, ⟨#[49, 46, 48, 48, 48]⟩, ⟨#[45, 49, 46, 48, 53]⟩, ⟨#[49, 48, 48, 48, 48, 48, 48, 48, 48, 48, 48, 46, 48, 48]⟩, ⟨#[49, 48, 48, 48, 48, 48, 48, 48, 48, 48, 48, 46, 48, 49]⟩, ⟨#[49, 44, 48, 48]⟩, ⟨#[120, 46, 49, 48]⟩]
def bendTexts : List ByteArray := [⟨#[48]⟩, ⟨#[46]⟩, ⟨#[45]⟩, ⟨#[49]⟩]
def DrawnTxt (w : World) (e : Ending) (w' : World) : Prop := ∃ s : ByteArray, s.size ≤ 300 ∧ e = .returned (.string s) ∧ Below w.heap.size w w'

theorem below_step {w w1 w2 : World} (h : Below w.heap.size w w1) (hg : w1.grownBy w2 (some w.heap.size)) : Below w.heap.size w w2 :=
  h.grown hg h.size (fun k e => by cases e; exact Nat.le_refl _)

set_option maxHeartbeats 1000000 in
theorem drawRead (a0 : Option Addr) (len cap : Nat) (z : List Int) (w : World) (w0 : IsRow .u8 w a0 len cap z) :
    Calls Tryd.prog 10 #[.slice a0 len cap] w (DrawnTxt w) := by
  go_enter Tryd.func10, Tryd.ntmps10
  go_wp2_with fail
  refine (opened a0 len cap z _ w0).mono ?_
  rintro e w1 ⟨rfl, hr1, hb1, -⟩
  clear w0
  go_wp2_with fail
  refine (pick w.heap.size w.heap.size 0 6 _ hr1 (by omega) (by omega) (by omega)).mono ?_
  rintro e w2 ⟨x1, l1, u1, rfl, hr2, hg2, -⟩
  have hb2 := below_step hb1 hg2
  cases hx : (x1 == 0) with
  | true =>
    go_wp2_with fail
    refine (pickOf w.heap.size w.heap.size _ 12 w2.heap.size 12 (fun i => readTexts.getD i ByteArray.empty) _ (rd_alloc hr2 _) (by omega) (by omega) (by omega) (fun i hi => lits_at _ _ rfl readTexts rfl i hi) (by have := hr2.le; omega)).mono ?_
    rintro e w3 ⟨i, hi, rfl, hr3, hg3, -⟩
    have hs : (readTexts.getD i ByteArray.empty).size ≤ 300 := by
      have : ∀ i, i < 12 → (readTexts.getD i ByteArray.empty).size ≤ 300 := by decide
      exact this i hi
    have Hs := Lib.hid hs
    clear hs
    go_wp2
    go_ret
    exact ⟨_, by simpa using Hs.out, rfl, below_step (hb2.alloc hb2.size _) hg3⟩
  | false =>
    go_wp2_with fail
    refine (drawAmount w.heap.size w.heap.size _ _ hr2 (by omega)).mono ?_
    rintro e w3 ⟨x3, l3, u3, rfl, hr3, hg3⟩
    have hb3 := below_step hb2 hg3
    go_wp2_with fail
    refine (specWrite _ _).mono ?_
    rintro e w4 ⟨s4, rfl, hs4, he4, hb4⟩
    clear he4
    have hr4 := hr3.kept (hb4.mono (Nat.le_of_lt (Nat.lt_of_le_of_lt hr3.le.1 hr3.le.2))) (hb4.block _ hr3.le.2)
    go_wp2_with fail
    refine (bend w.heap.size w.heap.size _ 4 w4.heap.size 4 s4 (fun i => bendTexts.getD i ByteArray.empty) _ (rd_alloc hr4 _) (by omega) (by omega) (by omega) (by omega) (fun i hi => lits_at _ _ rfl bendTexts rfl i hi) (by have := hr4.le; omega) ?_).mono ?_
    · have : ∀ i, i < 4 → (bendTexts.getD i ByteArray.empty).size ≤ 50 := by decide
      exact this
    rintro e w5 ⟨t, ht, rfl, hg5⟩
    have hb5 : Below w.heap.size w w4 := hb3.trans (hb4.mono hb3.size)
    go_wp2
    go_ret
    exact ⟨_, ht, rfl, below_step (hb5.alloc hb5.size _) hg5⟩

def DrawnNum (w : World) (e : Ending) (w' : World) : Prop := ∃ x : Int, e = .returned (.int .i64 x) ∧ Below w.heap.size w w'

set_option maxHeartbeats 1000000 in
theorem drawNum (a0 : Option Addr) (len cap : Nat) (z : List Int) (w : World) (w0 : IsRow .u8 w a0 len cap z) :
    Calls Tryd.prog 23 #[.slice a0 len cap] w (DrawnNum w) := by
  go_enter Tryd.func23, Tryd.ntmps23
  go_wp2_with fail
  refine (opened a0 len cap z _ w0).mono ?_
  rintro e w1 ⟨rfl, hr1, hb1, -⟩
  clear w0
  go_wp2_with fail
  refine (drawAmount w.heap.size w.heap.size 0 _ hr1 (by omega)).mono ?_
  rintro e w2 ⟨x, l1, u1, rfl, hr2, hg2⟩
  have hb2 := below_step hb1 hg2
  go_wp2_with fail
  refine (pick w.heap.size w.heap.size _ 3 _ (rd_alloc hr2 _) (by omega) (by omega) (by omega)).mono ?_
  rintro e w3 ⟨k, l3, u3, rfl, hr3, hg3, -⟩
  obtain ⟨i, rfl⟩ := Int.eq_ofNat_of_zero_le l3
  have hi : i < 3 := by omega
  obtain ⟨y, y1, y2, c1⟩ := one_of w2.heap.size rfl [x, 1000000000001, -1000000000001] rfl (-1000000000001) 1000000000001 (by intro v hv; simp at hv; omega) i hi hg3 (by have := hr2.le; omega)
  have hfin := below_step (hb2.alloc hb2.size _) hg3
  go_wp2
  go_ret
  exact ⟨y, rfl, hfin⟩

set_option maxHeartbeats 1000000 in
theorem drawWrite (a0 : Option Addr) (len cap : Nat) (z : List Int) (w : World) (w0 : IsRow .u8 w a0 len cap z) :
    Calls Tryd.prog 11 #[.slice a0 len cap] w (DrawnNum w) := by
  go_enter Tryd.func11, Tryd.ntmps11
  go_wp2_with fail
  refine (drawNum a0 len cap z _ w0).mono ?_
  rintro e w1 ⟨x, rfl, hb1⟩
  go_wp2
  go_ret
  exact ⟨x, rfl, hb1⟩
end Go.Proofs.YtnijiajmhjgmfaaDoor
