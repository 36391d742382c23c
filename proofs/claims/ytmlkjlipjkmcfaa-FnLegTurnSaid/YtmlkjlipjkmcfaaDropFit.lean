/-
  The law's own comparison of legs, of two that are the same.
  What is let go, or kept, once more: nothing is there any more.
  What is kept is sold: the sum of what is sold more is what was held.
-/
import Derived.Test.YtmlkjlipjkmcfaaLegRowT
import Derived.Test.YtmlkjlipjkmcfaaLegDropMath
import Derived.Test.YtmlkjlipjkmcfaaOkMath
import Derived.Test.YtmlkjlipjkmcfaaLegDropI
import Derived.Test.YtmlkjlipjkmcfaaSpoilMath
namespace Go.Proofs.Ytmlkjlipjkmcfaa
open Go.RowKit
set_option linter.unusedVariables false
set_option linter.unusedSimpArgs false

set_option maxHeartbeats 1000000 in
theorem wsIntsS (a a' : Option Addr) (len cap cap' : Nat) (z : Nat → Int) (w : World) (h : Nums w a len z) (h' : Nums w a' len z) (hl : len ≤ 1048576) :
    Calls Try.prog 30 #[.slice a len cap, .slice a' len cap'] w fun e w' => e = .returned (.bool true) ∧ Drew w w' := by
  go_enter Try.func30, Try.ntmps30
  go_wp2_with fail
  go_loopw [5] (fun i wr => ∃ k : Nat, k ≤ len ∧ i = .int .i64 k ∧ ∃ q, wr = w.drewN q) (fun i _ => len - (intOf i).toNat)
  case atStart => exact ⟨0, Nat.zero_le _, rfl, 0, rfl⟩
  case round =>
    obtain ⟨k, hk, rfl, q, rfl⟩ := hrel
    rcases Nat.lt_or_ge k len with hlt | hge
    · rcases h with hc | ⟨b, off, rfl, hbl, hcell⟩
      · omega
      rcases h' with hc' | ⟨b', off', rfl, hbl', hcell'⟩
      · omega
      have c1 := hcell k hlt
      have c2 := hcell' k hlt
      clear hcell hcell'
      generalize z k = s at *
      have k1 : (k : Int) < len := by omega
      have k0 : (0 : Int) ≤ k := by omega
      go_wp2_with fail
      go_quiet (fail)
      go_wp2
      go_roundw
      case rel => exact ⟨k + 1, by omega, by go_num, _, rfl⟩
      case measure => simp [intOf]; omega
    · obtain rfl : k = len := by omega
      go_wp2
      go_ret
      exact ⟨rfl, q, rfl⟩
set_option maxHeartbeats 4000000 in
theorem wsLegS (d : LegD) (p q : LegP) (w : World) (h : LegIn w d p) (h' : LegIn w d q) (hf : Fits d) :
    Calls Try.prog 20 #[LegV d p, LegV d q] w fun e w' => e = .returned (.bool true) ∧ Below w.heap.size w w' := by
  obtain ⟨nm, fr, dst, dep, arr, cap, nL, L, nS, S, nB, B, nH, t, c, s⟩ := d
  obtain ⟨aL, cL, aS, cS, aB, cB, aH, cH⟩ := p
  obtain ⟨bL, kL, bS, kS, bB, kB, bH, kH⟩ := q
  obtain ⟨f1, f2, f3, f4, f5, f6, f7⟩ := hf
  obtain ⟨i1, i2, i3, i4⟩ := h
  obtain ⟨j1, j2, j3, j4⟩ := h'
  dsimp only at f1 f2 f3 f4 f5 f6 f7 i1 i2 i3 i4 j1 j2 j3 j4
  have I1 := Lib.hid i1
  have I2 := Lib.hid i2
  have I3 := Lib.hid i3
  have I4 := Lib.hid i4
  have J1 := Lib.hid j1
  have J2 := Lib.hid j2
  have J3 := Lib.hid j3
  have J4 := Lib.hid j4
  clear i1 i2 i3 i4 j1 j2 j3 j4
  unfold LegV
  dsimp only
  have hA : Below w.heap.size w ((w.alloc (.cells #[Value.string nm, Value.string fr, Value.string dst, Value.int IntKind.i64 dep, Value.int IntKind.i64 arr, Value.int IntKind.i64 cap, Value.slice aL nL cL, Value.slice aS nS cS, Value.slice aB nB cB, Value.slice aH nH cH] 31)).alloc (.cells #[Value.string nm, Value.string fr, Value.string dst, Value.int IntKind.i64 dep, Value.int IntKind.i64 arr, Value.int IntKind.i64 cap, Value.slice bL nL kL, Value.slice bS nS kS, Value.slice bB nB kB, Value.slice bH nH kH] 31)) := ((Below.refl _ _).alloc (Nat.le_refl _) _).alloc (by simp) _
  have X1 : LegBx ((w.alloc (.cells #[Value.string nm, Value.string fr, Value.string dst, Value.int IntKind.i64 dep, Value.int IntKind.i64 arr, Value.int IntKind.i64 cap, Value.slice aL nL cL, Value.slice aS nS cS, Value.slice aB nB cB, Value.slice aH nH cH] 31)).alloc (.cells #[Value.string nm, Value.string fr, Value.string dst, Value.int IntKind.i64 dep, Value.int IntKind.i64 arr, Value.int IntKind.i64 cap, Value.slice bL nL kL, Value.slice bS nS kS, Value.slice bB nB kB, Value.slice bH nH kH] 31)) w.heap.size 31 ⟨nm, fr, dst, dep, arr, cap, nL, L, nS, S, nB, B, nH, t, c, s⟩ ⟨aL, cL, aS, cS, aB, cB, aH, cH⟩ := (LegBx.new w 31 ⟨nm, fr, dst, dep, arr, cap, nL, L, nS, S, nB, B, nH, t, c, s⟩ ⟨aL, cL, aS, cS, aB, cB, aH, cH⟩).kept ((Below.refl _ _).alloc (Nat.le_refl _) _)
  have X2 : LegBx ((w.alloc (.cells #[Value.string nm, Value.string fr, Value.string dst, Value.int IntKind.i64 dep, Value.int IntKind.i64 arr, Value.int IntKind.i64 cap, Value.slice aL nL cL, Value.slice aS nS cS, Value.slice aB nB cB, Value.slice aH nH cH] 31)).alloc (.cells #[Value.string nm, Value.string fr, Value.string dst, Value.int IntKind.i64 dep, Value.int IntKind.i64 arr, Value.int IntKind.i64 cap, Value.slice bL nL kL, Value.slice bS nS kS, Value.slice bB nB kB, Value.slice bH nH kH] 31)) (w.heap.size + 1) 31 ⟨nm, fr, dst, dep, arr, cap, nL, L, nS, S, nB, B, nH, t, c, s⟩ ⟨bL, kL, bS, kS, bB, kB, bH, kH⟩ := by
    have := LegBx.new (w.alloc (.cells #[Value.string nm, Value.string fr, Value.string dst, Value.int IntKind.i64 dep, Value.int IntKind.i64 arr, Value.int IntKind.i64 cap, Value.slice aL nL cL, Value.slice aS nS cS, Value.slice aB nB cB, Value.slice aH nH cH] 31)) 31 ⟨nm, fr, dst, dep, arr, cap, nL, L, nS, S, nB, B, nH, t, c, s⟩ ⟨bL, kL, bS, kS, bB, kB, bH, kH⟩
    rwa [World.size_alloc] at this
  have HA := Lib.hid hA
  have HX1 := Lib.hid X1
  have HX2 := Lib.hid X2
  clear hA X1 X2
  go_enter Try.func20, Try.ntmps20
  go_wp2_with fail
  refine (wsIntsS aL bL nL _ _ L _ (I1.out.kept HA.out) (J1.out.kept HA.out) f4).mono ?_
  rintro e w' ⟨rfl, q1, rfl⟩
  go_wp2_with fail
  refine (wsIntsS aS bS nS _ _ S _ (I2.out.kept (belowN HA.out _)) (J2.out.kept (belowN HA.out _)) f5).mono ?_
  rintro e w' ⟨rfl, q2, rfl⟩
  go_wp2_with fail
  refine (wsIntsS aB bB nB _ _ B _ (I3.out.kept (belowN HA.out _)) (J3.out.kept (belowN HA.out _)) f6).mono ?_
  rintro e w' ⟨rfl, q3, rfl⟩
  go_wp2_with fail
  generalize ((w.alloc (.cells #[Value.string nm, Value.string fr, Value.string dst, Value.int IntKind.i64 dep, Value.int IntKind.i64 arr, Value.int IntKind.i64 cap, Value.slice aL nL cL, Value.slice aS nS cS, Value.slice aB nB cB, Value.slice aH nH cH] 31)).alloc (.cells #[Value.string nm, Value.string fr, Value.string dst, Value.int IntKind.i64 dep, Value.int IntKind.i64 arr, Value.int IntKind.i64 cap, Value.slice bL nL kL, Value.slice bS nS kS, Value.slice bB nB kB, Value.slice bH nH kH] 31)) = w1 at *
  go_loopw [5] (fun i wr => ∃ k : Nat, k ≤ nH ∧ i = .int .i64 k ∧ ∃ q, wr = w1.drewN q) (fun i _ => nH - (intOf i).toNat)
  case atStart => exact ⟨0, Nat.zero_le _, rfl, _, rfl⟩
  case round =>
    obtain ⟨k, hk, rfl, q, rfl⟩ := hrel
    have Y1 := HX1.out
    have Y2 := HX2.out
    have y9 := Y1.c9
    have x9 := Y2.c9
    clear Y1 Y2
    dsimp only at y9 x9
    rcases Nat.lt_or_ge k nH with hlt | hge
    · rcases I4.out.kept HA.out with hc | ⟨b, off, rfl, hbl, hcell⟩
      · omega
      rcases J4.out.kept HA.out with hc' | ⟨b', off', rfl, hbl', hcell'⟩
      · omega
      obtain ⟨c1, c2, c3⟩ := hcell k hlt
      obtain ⟨d1, d2, d3⟩ := hcell' k hlt
      clear hcell hcell'
      generalize t k = x at *
      generalize c k = y at *
      generalize s k = z at *
      have k1 : (k : Int) < nH := by omega
      have k0 : (0 : Int) ≤ k := by omega
      go_wp2_with fail
      go_quiet (fail)
      go_wp2
      go_roundw
      case rel => exact ⟨k + 1, by omega, by go_num, _, rfl⟩
      case measure => simp [intOf]; omega
    · obtain rfl : k = nH := by omega
      go_wp2
      go_ret
      exact ⟨rfl, belowN HA.out _⟩
end Go.Proofs.Ytmlkjlipjkmcfaa

namespace Go.Proofs.Ytmlkjlipjkmcfaa
open Go.RowKit
set_option linter.unusedVariables false
set_option linter.unusedSimpArgs false

theorem posT_all {t : Nat → Int} {x : Int} : ∀ n, ¬ posT t x n < n → ∀ i, i < n → t i ≠ x
  | 0, _, i, hi => absurd hi (Nat.not_lt_zero _)
  | n + 1, h, i, hi => by
    simp only [posT] at h
    by_cases h1 : posT t x n < n
    · rw [if_pos h1] at h; omega
    · rw [if_neg h1] at h
      by_cases h2 : t n = x
      · rw [if_pos h2] at h; omega
      · rcases Nat.lt_or_ge i n with q | q
        · exact posT_all n h1 i q
        · obtain rfl : i = n := by omega
          exact h2
theorem del_gone {d : LegD} (h : HoldsOk d) {k : Nat} {x : Int} (hk : k < d.nH) (hx : d.t k = x) : ∀ i, i < d.nH - 1 → d.t (sk k i) ≠ x := by
  intro i hi
  unfold sk
  split
  · have := asc_of h (i := i) (j := k) (by assumption) hk; omega
  · have := asc_of h (i := k) (j := i + 1) (by omega) (by omega); omega
theorem drop_gone {d : LegD} (h : HoldsOk d) (x : Int) : ∀ i, i < (dropD d x).nH → (dropD d x).t i ≠ x := by
  unfold dropD
  split
  · rename_i hk
    exact del_gone h hk (posT_has _ hk)
  · rename_i hk
    exact posT_all _ hk
theorem keep_gone {d : LegD} (h : HoldsOk d) (x : Int) : ∀ i, i < (keepD d x).nH → (keepD d x).t i ≠ x := by
  unfold keepD
  split
  · rename_i hk
    exact del_gone h hk (posT_has _ hk)
  · rename_i hk
    exact posT_all _ hk
theorem drop_none {g : LegD} {x : Int} (h : ∀ i, i < g.nH → g.t i ≠ x) : dropD g x = g := by
  unfold dropD
  rw [if_neg (by rw [posT_no _ h]; omega)]
theorem keep_none {g : LegD} {x : Int} (h : ∀ i, i < g.nH → g.t i ≠ x) : keepD g x = g := by
  unfold keepD
  rw [if_neg (by rw [posT_no _ h]; omega)]
theorem drop_S (d : LegD) (x : Int) : (dropD d x).S = d.S ∧ (dropD d x).nS = d.nS ∧ d.nH - 1 ≤ (dropD d x).nH := by
  unfold dropD
  split
  · exact ⟨rfl, rfl, Nat.le_refl _⟩
  · exact ⟨rfl, rfl, Nat.sub_le _ _⟩
theorem post_one {d g a b : LegD} (h : (OkLeg d → a = g) ∧ (¬ OkLeg d → a = zeroD)) (k : (OkLeg d → b = g) ∧ (¬ OkLeg d → b = zeroD)) : a = b := by
  by_cases q : OkLeg d
  · rw [h.1 q, k.1 q]
  · rw [h.2 q, k.2 q]
theorem zero_fits : Fits zeroD := by refine ⟨?_, ?_, ?_, ?_, ?_, ?_, ?_⟩ <;> decide
theorem post_fits {d g a : LegD} (hg : OkLeg d → OkLeg g) (h : (OkLeg d → a = g) ∧ (¬ OkLeg d → a = zeroD)) : Fits a := by
  by_cases q : OkLeg d
  · rw [h.1 q]; exact okLeg_fits (hg q)
  · rw [h.2 q]; exact zero_fits
/-- A leg that was handed back, in whatever memory. -/
def Ls (g : LegD) (W : World) (v : Value) : Prop := ∃ q, v = LegV g q ∧ LegIn W g q
theorem Ls.kept {g : LegD} {W W' : World} {v : Value} (h : Ls g W v) (hb : Below W.heap.size W W') : Ls g W' v := by
  obtain ⟨q, e, hi⟩ := h
  exact ⟨q, e, hi.kept hb⟩
end Go.Proofs.Ytmlkjlipjkmcfaa

namespace Go.Proofs.Ytmlkjlipjkmcfaa
open Go.RowKit
set_option linter.unusedVariables false
set_option linter.unusedSimpArgs false

def lastH (t s : Nat → Int) (y : Int) : Nat → Int
  | 0 => 0
  | n + 1 => if t n = y then s n else lastH t s y n
theorem last_pos {t s : Nat → Int} {y : Int} {m : Nat} (h : ∀ i j, i < j → j < m → t i < t j) : ∀ n, n ≤ m → lastH t s y n = if posT t y n < n then s (posT t y n) else 0
  | 0, _ => rfl
  | n + 1, hn => by
    have ih := last_pos (s := s) (y := y) h n (by omega)
    have e : posT t y (n + 1) = if posT t y n < n then posT t y n else if t n = y then n else n + 1 := rfl
    have g : lastH t s y (n + 1) = if t n = y then s n else lastH t s y n := rfl
    rw [g]
    by_cases h1 : posT t y n < n
    · have h2 := posT_has _ h1
      have h3 := h (posT t y n) n h1 (by omega)
      have h4 : t n ≠ y := by omega
      rw [if_pos h1] at e
      rw [if_neg h4, ih, if_pos h1, if_pos (show posT t y (n + 1) < n + 1 by omega), e]
    · rw [if_neg h1] at e
      by_cases h2 : t n = y
      · rw [if_pos h2] at e
        rw [if_pos h2, if_pos (show posT t y (n + 1) < n + 1 by omega), e]
      · rw [if_neg h2] at e
        rw [if_neg h2, ih, if_neg h1, if_neg (show ¬ posT t y (n + 1) < n + 1 by omega)]
theorem keep_sum {d : LegD} (h : OkLeg d) (y : Int) : sumF (fun i => (keepD d y).S i - d.S i) 3 = lastH d.t d.s y d.nH := by
  rw [last_pos (fun i j hij hj => asc_of h.2.2.1 hij hj) d.nH (Nat.le_refl _)]
  unfold keepD
  split
  · rename_i hk
    have hc := (h.2.2.1.2 _ hk).1.2.1
    generalize posT d.t y d.nH = k at *
    simp only [sumF]
    rcases (by omega : d.c k = 0 ∨ d.c k = 1 ∨ d.c k = 2) with e | e | e <;> simp [e] <;> omega
  · simp [sumF]
theorem sold_box {d : LegD} (h : OkLeg d) (i : Nat) (hi : i < 3) : 0 ≤ d.S i ∧ d.S i ≤ 9 := by
  have h1 := h.2.1.2.2.2.1 i hi
  have h2 := h.2.1.1
  omega
theorem sumF_box {f : Nat → Int} (h : ∀ i, i < 3 → -9 ≤ f i ∧ f i ≤ 9) : ∀ n, n ≤ 3 → -9 * n ≤ sumF f n ∧ sumF f n ≤ 9 * n
  | 0, _ => by simp [sumF]
  | n + 1, hn => by
    have ih := sumF_box h n (by omega)
    have := h n (by omega)
    simp only [sumF]
    omega
end Go.Proofs.Ytmlkjlipjkmcfaa
