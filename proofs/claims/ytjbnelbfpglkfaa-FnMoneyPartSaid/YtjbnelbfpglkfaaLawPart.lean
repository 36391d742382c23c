/-
  The law FnMoneyPart's own walk.
-/
import Derived.Test.YtjbnelbfpglkfaaPartMath
import Derived.Test.YtjbnelbfpglkfaaDrawPart
namespace Go.Proofs.Ytjbnelbfpglkfaa
open Go.RowKit
set_option linter.unusedVariables false
set_option linter.unusedSimpArgs false

theorem drew_b {B : Nat} {w w' : World} (h : Drew w w') : Below B w w' := drew_below h
theorem bt3 {a b c : World} (h : Below a.heap.size a b) (k : Below b.heap.size b c) : Below a.heap.size a c := h.trans (k.mono h.size)
theorem tmod2 {x : Int} (h : x % 2 = 0) : x.tmod 2 = 0 := Int.tmod_eq_zero_of_dvd (Int.dvd_of_emod_eq_zero h)
theorem mul_bd {a n : Int} (a0 : -1000000000000 ≤ a) (a1 : a ≤ 1000000000000) (n0 : 0 ≤ n) (n1 : n ≤ 1000000) : -1000000000000000000 ≤ a * n ∧ a * n ≤ 1000000000000000000 := by
  rcases Int.lt_or_le a 0 with q | q
  · have := prod_bd (-a) n (by omega) (by omega) n0 n1
    rw [Int.neg_mul] at this
    omega
  · have := prod_bd a n q a1 n0 n1
    omega
set_option maxRecDepth 100000 in
set_option maxHeartbeats 4000000 in
theorem lawMoneyPart (a0 : Option Addr) (len cap : Nat) (z : List Int) (w : World) (w0 : IsRow .u8 w a0 len cap z) :
    Calls Try.prog 3 #[.slice a0 len cap] w fun e w' => e = .returned (.bool true) ∧ Below w.heap.size w w' := by
  by_cases hbig : 1048576 < len
  · go_enter Try.func3, Try.ntmps3
    go_wp2
    go_ret
    exact ⟨rfl, Below.refl _ _⟩
  · go_enter Try.func3, Try.ntmps3
    go_wp2_with fail
    refine (drawThree a0 len cap z _ w0).mono ?_
    rintro e w1 ⟨a, n, d, rfl, hb⟩
    clear w0
    rcases part_cases a n d with ⟨hk, hv⟩ | ⟨hk, hv⟩
    · have Hk := Lib.hid hk
      have Hv := Lib.hid hv
      clear hk hv
      go_wp2_with fail
      refine (implMoneyPart a n d _).mono ?_
      rintro e w2 ⟨rfl, hd2⟩
      rw [Hv.out, Hk.out]
      have hb2 := bt3 hb (drew_b hd2)
      clear hd2
      go_wp2_with fail
      refine (specMoneyPart a n d _).mono ?_
      rintro e w' ⟨rfl, rfl⟩
      rw [Hv.out, Hk.out]
      go_wp2
      go_ret
      exact ⟨rfl, hb2⟩
    · have P := part_facts hk
      generalize hx : partR a n d = x at *
      have Hk := Lib.hid hk
      have Hv := Lib.hid hv
      obtain ⟨p1, p2, p3, p4, plo, phi, pev, pok2, pv2, pok3, pv3⟩ := P
      have hA := mul_bd p1.1 p1.2 p2.1 p2.2
      have K2 := Lib.hid pok2
      have V2 := Lib.hid pv2
      have K3 := Lib.hid pok3
      have V3 := Lib.hid pv3
      have PE := Lib.hid pev
      clear hk hv hx pok2 pv2 pok3 pv3 pev
      have wna : IntKind.i64.wrap (-a) = -a := IntWalk.i64_in _ (by omega)
      have wnx : IntKind.i64.wrap (-x) = -x := IntWalk.i64_in _ (by omega)
      go_wp2_with fail
      refine (implMoneyPart a n d _).mono ?_
      rintro e w2 ⟨rfl, hd2⟩
      rw [Hv.out, Hk.out]
      have hb2 := bt3 hb (drew_b hd2)
      clear hd2
      go_wp2_with fail
      refine (specMoneyPart a n d _).mono ?_
      rintro e w' ⟨rfl, rfl⟩
      rw [Hv.out, Hk.out]
      generalize hAg : a * n = A at *
      generalize hXg : x * d = X at *
      have HA := Lib.hid hAg
      have HX := Lib.hid hXg
      have wA : IntKind.i64.wrap (a * n) = A := by rw [HA.out]; exact IntWalk.i64_in _ (by omega)
      have wX : IntKind.i64.wrap (x * d) = X := by rw [HX.out]; exact IntWalk.i64_in _ (by omega)
      clear hAg hXg
      have wD : IntKind.i64.wrap (A - X) = A - X := IntWalk.i64_in _ (by omega)
      have wE : IntKind.i64.wrap (-(A - X)) = -(A - X) := IntWalk.i64_in _ (by omega)
      have w2D : IntKind.i64.wrap (2 * (A - X)) = 2 * (A - X) := IntWalk.i64_in _ (by omega)
      have w2E : IntKind.i64.wrap (2 * -(A - X)) = 2 * -(A - X) := IntWalk.i64_in _ (by omega)
      rcases Int.lt_or_le (A - X) 0 with hneg | hpos
      · have z0 : decide (A - X < 0) = true := decide_eq_true hneg
        have z1 : decide (2 * -(A - X) ≤ d) = true := decide_eq_true (by omega)
        rcases Int.lt_or_le (2 * -(A - X)) d with q | q
        · have z2 : decide (2 * -(A - X) < d) = true := decide_eq_true q
          go_wp2_with fail
          refine (implMoneyPart (-a) n d _).mono ?_
          rintro e w3 ⟨rfl, hd3⟩
          rw [V2.out, K2.out]
          have hb3 := bt3 hb2 (drew_b hd3)
          clear hd3
          go_wp2_with fail
          refine (implMoneyPart a d d _).mono ?_
          rintro e w4 ⟨rfl, hd4⟩
          rw [V3.out, K3.out]
          have hb4 := Lib.hid (bt3 hb3 (drew_b hd4))
          clear hd4
          go_wp2
          go_ret
          exact ⟨rfl, hb4.out⟩
        · have z2 : decide (2 * -(A - X) < d) = false := decide_eq_false (by omega)
          have hm := tmod2 (PE.out (by omega))
          have hm2 : (x.tmod 2 == 0) = true := by simpa using hm
          have hm3 : decide (x.tmod 2 = 0) = true := decide_eq_true hm
          go_wp2_with fail
          refine (implMoneyPart (-a) n d _).mono ?_
          rintro e w3 ⟨rfl, hd3⟩
          rw [V2.out, K2.out]
          have hb3 := bt3 hb2 (drew_b hd3)
          clear hd3
          go_wp2_with fail
          refine (implMoneyPart a d d _).mono ?_
          rintro e w4 ⟨rfl, hd4⟩
          rw [V3.out, K3.out]
          have hb4 := Lib.hid (bt3 hb3 (drew_b hd4))
          clear hd4
          go_wp2
          go_ret
          exact ⟨rfl, hb4.out⟩
      · have z0 : decide (A - X < 0) = false := decide_eq_false (by omega)
        have z1 : decide (2 * (A - X) ≤ d) = true := decide_eq_true (by omega)
        rcases Int.lt_or_le (2 * (A - X)) d with q | q
        · have z2 : decide (2 * (A - X) < d) = true := decide_eq_true q
          go_wp2_with fail
          refine (implMoneyPart (-a) n d _).mono ?_
          rintro e w3 ⟨rfl, hd3⟩
          rw [V2.out, K2.out]
          have hb3 := bt3 hb2 (drew_b hd3)
          clear hd3
          go_wp2_with fail
          refine (implMoneyPart a d d _).mono ?_
          rintro e w4 ⟨rfl, hd4⟩
          rw [V3.out, K3.out]
          have hb4 := Lib.hid (bt3 hb3 (drew_b hd4))
          clear hd4
          go_wp2
          go_ret
          exact ⟨rfl, hb4.out⟩
        · have z2 : decide (2 * (A - X) < d) = false := decide_eq_false (by omega)
          have hm := tmod2 (PE.out (by omega))
          have hm2 : (x.tmod 2 == 0) = true := by simpa using hm
          have hm3 : decide (x.tmod 2 = 0) = true := decide_eq_true hm
          go_wp2_with fail
          refine (implMoneyPart (-a) n d _).mono ?_
          rintro e w3 ⟨rfl, hd3⟩
          rw [V2.out, K2.out]
          have hb3 := bt3 hb2 (drew_b hd3)
          clear hd3
          go_wp2_with fail
          refine (implMoneyPart a d d _).mono ?_
          rintro e w4 ⟨rfl, hd4⟩
          rw [V3.out, K3.out]
          have hb4 := Lib.hid (bt3 hb3 (drew_b hd4))
          clear hd4
          go_wp2
          go_ret
          exact ⟨rfl, hb4.out⟩
end Go.Proofs.Ytjbnelbfpglkfaa
