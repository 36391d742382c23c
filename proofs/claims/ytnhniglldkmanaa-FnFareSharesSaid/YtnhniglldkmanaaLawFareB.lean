/-
  The law FnFareShares's own walk.
-/
import Derived.Test.YtnhniglldkmanaaShareLaw
import Derived.Test.YtnhniglldkmanaaLawFareX
namespace Go.Proofs.Ytnhniglldkmanaa
open Go.RowKit
set_option linter.unusedVariables false

/-- Who has the greater weight has no lesser share. -/
theorem share_mono {T : Int} {z : Nat → Int} {n : Nat} {R : Nat → Nat} (hok : SOk T z n) (h : InOrder n (shR (absT T) z (sumF z n)) R) (hT : 0 ≤ T) {i j : Nat} (hi : i < n) (hj : j < n) (hz : z j < z i) : shareV T z n R j ≤ shareV T z n R i := by
  have hn : 0 < n := by omega
  have ha : absT T = T := by unfold absT; rw [if_neg (by omega)]
  have e : ∀ k, shareV T z n R k = outAt (shQ T z (sumF z n)) R (restF T z (sumF z n) n).toNat k := fun k => by
    unfold shareV cutV; rw [if_neg (by omega), ha]
  rw [ha] at h
  have hs := hok.2.2
  rw [e i, e j]
  generalize hS : sumF z n = s at *
  have ei := Int.mul_ediv_add_emod (T * z i) s
  have ej := Int.mul_ediv_add_emod (T * z j) s
  have i0 : 0 ≤ T * z i % s := Int.emod_nonneg _ (by omega)
  have i1 : T * z i % s < s := Int.emod_lt_of_pos _ hs
  have j0 : 0 ≤ T * z j % s := Int.emod_nonneg _ (by omega)
  have j1 : T * z j % s < s := Int.emod_lt_of_pos _ hs
  have hle : T * z j ≤ T * z i := Int.mul_le_mul_of_nonneg_left (by omega) hT
  have hq : T * z j / s ≤ T * z i / s := Int.ediv_le_ediv hs hle
  unfold outAt
  have Q1 : shQ T z s i = T * z i / s := rfl
  have Q2 : shQ T z s j = T * z j / s := rfl
  rw [Q1, Q2]
  rcases Int.lt_or_le (T * z j / s) (T * z i / s) with hlt | hge
  · split <;> split <;> omega
  have hqe : T * z j / s = T * z i / s := by omega
  cases gj : got R (restF T z s n).toNat j with
  | false =>
    rw [hqe]
    generalize T * z i / s = qq
    cases got R (restF T z s n).toNat i <;> simp <;> omega
  | true =>
    have hp : 0 < T * z j % s := got_pos hs hS.symm hn h gj
    have hT1 : 0 < T := by
      rcases Int.lt_or_le 0 T with h1 | h1
      · exact h1
      · have : T = 0 := by omega
        subst this; simp at hp
    have hlt : T * z j < T * z i := Int.mul_lt_mul_of_pos_left hz hT1
    rw [hqe] at ej
    have hr : T * z j % s < T * z i % s := by omega
    have gi : got R (restF T z s n).toNat i = true := by
      obtain ⟨t, ht, hRt⟩ := got_iff.1 gj
      obtain ⟨u, hu, hRu⟩ := h.onto i hi
      rcases Nat.lt_or_ge u t with h1 | h1
      · exact got_iff.2 ⟨u, by omega, hRu⟩
      · rcases Nat.eq_or_lt_of_le h1 with h2 | h2
        · subst h2; rw [hRt] at hRu; subst hRu; omega
        · have := h.asc t u h2 hu
          rw [hRt, hRu] at this
          have Q3 : shR T z s i = T * z i % s := rfl
          have Q4 : shR T z s j = T * z j % s := rfl
          rw [Q3, Q4] at this
          omega
    rw [gi, hqe]; simp

set_option maxHeartbeats 1000000 in
theorem drawFare (a0 : Option Addr) (len cap : Nat) (z : List Int) (w : World) (w0 : IsRow .u8 w a0 len cap z) :
    Calls Try.prog 5 #[.slice a0 len cap] w (DrawnS w) := by
  go_enter Try.func5, Try.ntmps5
  go_wp2_with fail
  refine (drawShare a0 len cap z _ w0).mono ?_
  rintro e w1 ⟨T, a, n, cp, z, T0, T1, hn9, hz, rfl, hN, hb1⟩
  have H : Hid (DrawnS w (.returned (.tuple #[.int .i64 T, .slice a n cp])) w1) := ⟨T, a, n, cp, z, T0, T1, hn9, hz, rfl, hN, hb1⟩
  clear hz hN hb1
  go_wp2
  go_ret2
  exact H.out

set_option maxHeartbeats 4000000 in
theorem lawFareShares (a0 : Option Addr) (len0 cap0 : Nat) (zz : List Int) (w : World) (w0 : IsRow .u8 w a0 len0 cap0 zz) :
    Calls Try.prog 3 #[.slice a0 len0 cap0] w fun e w' => e = .returned (.bool true) ∧ Below w.heap.size w w' := by
  rcases Nat.lt_or_ge 1048576 len0 with hbig | hbig
  · clear w0
    go_enter Try.func3, Try.ntmps3
    go_wp2
    go_ret
    exact ⟨rfl, Below.refl _ _⟩
  have W0 := Lib.hid w0
  clear w0
  go_enter Try.func3, Try.ntmps3
  go_wp2_with fail
  refine (drawFare a0 len0 cap0 zz _ W0.out).mono ?_
  rintro e w1 ⟨T, a, n, cap, z, T0, T1, hn9, hz, rfl, hN, hb1⟩
  have hl : n ≤ 1048576 := by omega
  have HN := Lib.hid hN
  clear hz hN
  go_wp2_with fail
  refine (implFare T a n cap z _ HN.out hl).mono ?_
  rintro e w2 ⟨R, hR, aA, lA, cA, rfl, hb2, hA⟩
  have hbw2 : Below w.heap.size w w2 := hb1.trans (hb2.mono hb1.size)
  have HR := Lib.hid hR
  clear hR
  go_wp2_with fail
  refine (specFare T a n cap z R _ (HN.out.kept hb2) hl HR.out).mono ?_
  rintro e w3 ⟨aC, lC, cC, rfl, hb3, hC⟩
  have hbw3 : Below w.heap.size w w3 := hbw2.trans (hb3.mono hbw2.size)
  rcases hA with ⟨hok, e1, hA⟩ | ⟨hno, e1⟩
  · obtain ⟨e2, hC2⟩ : lC = n ∧ NumsW w2.heap.size w3 aC n (shareV T z n R) := by
      rcases hC with ⟨_, h1, h2⟩ | ⟨h, _⟩
      · exact ⟨h1, h2⟩
      · exact absurd hok h
    subst lA lC
    have hn0 : 0 < n := by
      rcases Nat.eq_zero_or_pos n with h | h
      · have := hok.2.2; rw [h] at this; simp [sumF] at this
      · exact h
    obtain ⟨hsum, -⟩ := share_law hok (HR.out hok)
    have hbd := Lib.hid (fun i hi => share_bd (R := R) hok i hi)
    have hmono : Hid (∀ i j, i < n → j < n → 0 ≤ T → z j < z i → shareV T z n R j ≤ shareV T z n R i) := fun i j hi hj h1 h2 => share_mono hok (HR.out hok) h1 hi hj h2
    have n8 := hok.2.1.1
    have HZ := Lib.hid hok.2.1.2.1
    have HS := Lib.hid hsum
    have NA := Lib.hid (hA.nums.kept hb3)
    have NC := Lib.hid hC2.nums
    have NW := Lib.hid ((HN.out.kept hb2).kept hb3)
    clear hsum hA hC hC2 hok
    generalize shareV T z n R = L at *
    have hn1 : ((n : Int) == 0) = false := by simp; omega
    go_wp2_with fail
    refine (wsSame aA aC n _ _ L _ NA.out NC.out (by omega)).mono ?_
    rintro e w4 ⟨rfl, hq4⟩
    have hb4 := drew_below (B := w3.heap.size) hq4
    have hbw4 : Below w.heap.size w w4 := hbw3.trans (hb4.mono hbw3.size)
    have NA4 := Lib.hid (NA.out.kept hb4)
    have NW4 := Lib.hid (NW.out.kept hb4)
    go_wp2_with fail
    go_loopw [6, 7] (fun vs vi wr => ∃ k : Nat, k ≤ n ∧ vi = .int .i64 k ∧ ∃ x : Int, vs = .int .i64 x ∧ Hid (x = sumF L k) ∧ -1000000000000000001 * k ≤ x ∧ x ≤ 1000000000000000001 * k ∧ ∃ q, wr = w4.drewN q) (fun _ vi _ => n - (intOf vi).toNat)
    case atStart => exact ⟨0, Nat.zero_le _, rfl, 0, rfl, rfl, by omega, by omega, 0, rfl⟩
    case round =>
      obtain ⟨k, hk, rfl, x, rfl, hx, x0, x1, q, rfl⟩ := hrel
      rcases Nat.lt_or_ge k n with hlt | hge
      · have NA5 := NA4
        have NW5 := NW4
        rcases NA5.out with hc | ⟨b, off, rfl, hbl, hcell⟩
        · omega
        rcases NW5.out with hc' | ⟨b', off', rfl, hbl', hcell'⟩
        · omega
        have c1 := hcell k hlt
        have c2 := hcell' k hlt
        obtain ⟨b0, b1⟩ := hbd.out k hlt
        have Hc := Lib.hid hcell
        have Hc' := Lib.hid hcell'
        clear hcell hcell'
        have k1 : (k : Int) < n := by omega
        have k0 : (0 : Int) ≤ k := by omega
        have HX : Hid (x + L k = sumF L (k + 1)) := by have := hx.out; show _ = _; simp only [sumF]; omega
        have hw : IntKind.i64.wrap (x + L k) = x + L k := IntWalk.i64_in _ (by omega)
        have g0 : -1000000000000000001 * ((k + 1 : Nat) : Int) ≤ x + L k := by omega
        have g1 : x + L k ≤ 1000000000000000001 * ((k + 1 : Nat) : Int) := by omega
        have G := Lib.hid (And.intro g0 g1)
        clear g0 g1
        go_wp2_with fail
        go_loopw [8] (fun vi wr => ∃ j : Nat, j ≤ n ∧ vi = .int .i64 j ∧ ∃ q, wr = w4.drewN q) (fun vi _ => n - (intOf vi).toNat)
        case atStart => exact ⟨0, Nat.zero_le _, rfl, _, rfl⟩
        case round =>
          obtain ⟨j, hj, rfl, q2, rfl⟩ := hrel
          rcases Nat.lt_or_ge j n with hlt2 | hge2
          · have d1 := Hc.out j hlt2
            have d2 := Hc'.out j hlt2
            have j1 : (j : Int) < n := by omega
            have j0 : (0 : Int) ≤ j := by omega
            have hM := Lib.hid (hmono.out k j hlt hlt2)
            rcases Int.lt_or_le T 0 with hT | hT
            · have gT : decide (0 ≤ T) = false := by simp; omega
              go_wp2_with fail
              go_quiet (fail)
              go_wp2
              go_roundw
              case rel => exact ⟨j + 1, hlt2, by go_num, _, rfl⟩
              case measure => simp [intOf]; omega
            · rcases Int.lt_or_le (z j) (z k) with hz | hz
              · have hLL : L j ≤ L k := hM.out hT hz
                go_wp2_with fail
                go_quiet (fail)
                go_wp2
                go_roundw
                case rel => exact ⟨j + 1, hlt2, by go_num, _, rfl⟩
                case measure => simp [intOf]; omega
              · have gT : decide (0 ≤ T) = true := by simp; omega
                have gz : decide (z j < z k) = false := by simp; omega
                go_wp2_with fail
                go_quiet (fail)
                go_wp2
                go_roundw
                case rel => exact ⟨j + 1, hlt2, by go_num, _, rfl⟩
                case measure => simp [intOf]; omega
          · obtain rfl : j = n := by omega
            go_wp2
            go_roundw
            case rel => exact ⟨k + 1, hlt, by go_num, x + L k, by go_num, HX.out, G.out.1, G.out.2, _, rfl⟩
            case measure => simp [intOf]; omega
      · obtain rfl : k = n := by omega
        have e1 : x = T := hx.out.trans HS.out
        subst e1
        clear hx x0 x1
        go_wp2
        go_ret
        exact ⟨rfl, belowN hbw4 q⟩
  · have e2 : lC = 0 := by
      rcases hC with ⟨h, _, _⟩ | ⟨_, h⟩
      · exact absurd h hno
      · exact h
    subst lA lC
    clear hC
    go_wp2_with fail
    refine (wsSame aA aC 0 _ _ (fun _ => 0) _ (Or.inl rfl) (Or.inl rfl) (by omega)).mono ?_
    rintro e w4 ⟨rfl, hq4⟩
    have hb4 := drew_below (B := w3.heap.size) hq4
    go_wp2_with fail
    go_loopw [6, 7] (fun vs vi wr => vs = .int .i64 0 ∧ vi = .int .i64 0 ∧ ∃ q, wr = w4.drewN q) (fun _ vi _ => 0)
    case atStart => exact ⟨rfl, rfl, 0, rfl⟩
    case round =>
      obtain ⟨rfl, rfl, q, rfl⟩ := hrel
      go_wp2
      go_ret
      exact ⟨rfl, belowN (hbw3.trans (hb4.mono hbw3.size)) q⟩
end Go.Proofs.Ytnhniglldkmanaa
