/-
  The law FnMoneyShare's own walk.
-/
import Derived.Test.YtnijiajmhjgmfaaLawTurn
import Derived.Test.YtnijiajmhjgmfaaShareMath2
namespace Go.Proofs.Ytnijiajmhjgmfaa
open Go.RowKit
set_option linter.unusedVariables false

theorem share_law {T : Int} {z : Nat → Int} {n : Nat} {R : Nat → Nat} (hok : SOk T z n) (h : InOrder n (shR (absT T) z (sumF z n)) R) :
    sumF (shareV T z n R) n = T ∧ ∀ i, i < n → -(sumF z n) < T * z i - shareV T z n R i * sumF z n ∧ T * z i - shareV T z n R i * sumF z n < sumF z n ∧ (z i = 0 → shareV T z n R i = 0) := by
  have hn : 0 < n := by
    rcases Nat.eq_zero_or_pos n with h | h
    · have := hok.2.2; rw [h] at this; simp [sumF] at this
    · exact h
  have hs := sum_out (A := absT T) hok.2.2 rfl hn h
  have ho := off_bd (A := absT T) hok.2.2 rfl hn h
  rcases Int.lt_or_le T 0 with hT | hT
  · have ha : absT T = -T := by unfold absT; rw [if_pos hT]
    have e : ∀ i, shareV T z n R i = -1 * outAt (shQ (absT T) z (sumF z n)) R (restF (absT T) z (sumF z n) n).toNat i := fun i => by
      unfold shareV cutV; rw [if_pos hT]; omega
    refine ⟨?_, fun i hi => ?_⟩
    · rw [sumF_congr n (fun i _ => e i), sumF_mul, hs, ha]; omega
    · obtain ⟨h1, h2, h3⟩ := ho i
      rw [e i]
      generalize outAt (shQ (absT T) z (sumF z n)) R (restF (absT T) z (sumF z n) n).toNat i = x at *
      rw [ha] at h1 h2
      have e1 : -T * z i = -(T * z i) := Int.neg_mul _ _
      have e2 : -1 * x * sumF z n = -(x * sumF z n) := by rw [Int.neg_one_mul, Int.neg_mul]
      rw [e2]
      refine ⟨by omega, by omega, fun h0 => by rw [h3 h0]; rfl⟩
  · have ha : absT T = T := by unfold absT; rw [if_neg (by omega)]
    have e : shareV T z n R = outAt (shQ (absT T) z (sumF z n)) R (restF (absT T) z (sumF z n) n).toNat := by
      funext i; unfold shareV cutV; rw [if_neg (by omega)]
    rw [e]
    refine ⟨by rw [hs, ha], fun i hi => ?_⟩
    obtain ⟨h1, h2, h3⟩ := ho i
    rw [ha] at h1 h2 h3 ⊢
    exact ⟨h1, h2, h3⟩

set_option maxHeartbeats 2000000 in
theorem lawMoneyShare (a0 : Option Addr) (len0 cap0 : Nat) (zz : List Int) (w : World) (w0 : IsRow .u8 w a0 len0 cap0 zz) :
    Calls Try.prog 9 #[.slice a0 len0 cap0] w fun e w' => e = .returned (.bool true) ∧ Below w.heap.size w w' := by
  rcases Nat.lt_or_ge 1048576 len0 with hbig | hbig
  · clear w0
    go_enter Try.func9, Try.ntmps9
    go_wp2
    go_ret
    exact ⟨rfl, Below.refl _ _⟩
  have W0 := Lib.hid w0
  clear w0
  go_enter Try.func9, Try.ntmps9
  go_wp2_with fail
  refine (drawShare a0 len0 cap0 zz _ W0.out).mono ?_
  rintro e w1 ⟨T, a, n, cap, z, T0, T1, hn9, hz, rfl, hN, hb1⟩
  have hl : n ≤ 1048576 := by omega
  have HN := Lib.hid hN
  clear hz hN
  go_wp2_with fail
  refine (implMoneyShare T a n cap z _ HN.out hl).mono ?_
  rintro e w2 ⟨R, hR, aA, lA, cA, rfl, hb2, hA⟩
  have hbw2 : Below w.heap.size w w2 := hb1.trans (hb2.mono hb1.size)
  have HR := Lib.hid hR
  clear hR
  go_wp2_with fail
  refine (specMoneyShare T a n cap z R _ (HN.out.kept hb2) hl HR.out).mono ?_
  rintro e w3 ⟨aC, lC, cC, rfl, hb3, hC⟩
  have hbw3 : Below w.heap.size w w3 := hbw2.trans (hb3.mono hbw2.size)
  rcases hA with ⟨hok, e1, hA⟩ | ⟨hno, e1⟩
  · obtain ⟨e2, hC2⟩ : lC = n ∧ NumsW w2.heap.size w3 aC n (shareV T z n R) := by
      rcases hC with ⟨_, h1, h2⟩ | ⟨h, _⟩
      · exact ⟨h1, h2⟩
      · exact absurd hok h
    subst lA lC
    have hn0 : 0 < n := by
      rcases Nat.eq_zero_or_pos n with h | h
      · have := hok.2.2; rw [h] at this; simp [sumF] at this
      · exact h
    obtain ⟨hsum, hoff⟩ := share_law hok (HR.out hok)
    have hbd := Lib.hid (fun i hi => share_bd (R := R) hok i hi)
    have n8 := hok.2.1.1
    have HZ := Lib.hid hok.2.1.2.1
    have hS1 : sumF z n ≤ 1000000 := hok.2.1.2.2
    have hS0 : 0 < sumF z n := hok.2.2
    have HS := Lib.hid hsum
    have HO := Lib.hid hoff
    have NA := Lib.hid (hA.nums.kept hb3)
    have NC := Lib.hid hC2.nums
    have NW := Lib.hid ((HN.out.kept hb2).kept hb3)
    clear hsum hoff hA hC hC2 hok
    generalize shareV T z n R = L at *
    have hn1 : ((n : Int) == 0) = false := by simp; omega
    go_wp2_with fail
    refine (wsSame aA aC n _ _ L _ NA.out NC.out (by omega)).mono ?_
    rintro e w4 ⟨rfl, hq4⟩
    have hb4 := drew_below (B := w3.heap.size) hq4
    have hbw4 : Below w.heap.size w w4 := hbw3.trans (hb4.mono hbw3.size)
    have NA4 := Lib.hid (NA.out.kept hb4)
    have NW4 := Lib.hid (NW.out.kept hb4)
    go_wp2_with fail
    go_loopw [6, 7, 8] (fun vs va vi wr => ∃ k : Nat, k ≤ n ∧ vi = .int .i64 k ∧ ∃ x y : Int, vs = .int .i64 x ∧ va = .int .i64 y ∧ Hid (x = sumF L k) ∧ Hid (y = sumF z k) ∧ -1000000000000000001 * k ≤ x ∧ x ≤ 1000000000000000001 * k ∧ 0 ≤ y ∧ y ≤ 1000000 * k ∧ ∃ q, wr = w4.drewN q) (fun _ _ vi _ => n - (intOf vi).toNat)
    case atStart => exact ⟨0, Nat.zero_le _, rfl, 0, 0, rfl, rfl, rfl, rfl, by omega, by omega, by omega, by omega, 0, rfl⟩
    case round =>
      obtain ⟨k, hk, rfl, x, y, rfl, rfl, hx, hy, x0, x1, y0, y1, q, rfl⟩ := hrel
      rcases Nat.lt_or_ge k n with hlt | hge
      · rcases NA4.out with hc | ⟨b, off, rfl, hbl, hcell⟩
        · omega
        rcases NW4.out with hc' | ⟨b', off', rfl, hbl', hcell'⟩
        · omega
        have c1 := hcell k hlt
        have c2 := hcell' k hlt
        obtain ⟨b0, b1⟩ := hbd.out k hlt
        obtain ⟨z0, z1⟩ := HZ.out k hlt
        clear hcell hcell'
        have k1 : (k : Int) < n := by omega
        have k0 : (0 : Int) ≤ k := by omega
        go_wp2
        go_roundw
        case rel => exact ⟨k + 1, hlt, by go_num, x + L k, y + z k, by go_num, by go_num, by have := hx.out; show _ = _; simp only [sumF]; omega, by have := hy.out; show _ = _; simp only [sumF]; omega, by omega, by omega, by omega, by omega, _, rfl⟩
        case measure => simp [intOf]; omega
      · obtain rfl : k = n := by omega
        have e1 : x = T := hx.out.trans HS.out
        have e2 : y = sumF z k := hy.out
        subst e1
        subst e2
        clear hx hy x0 x1 y0 y1
        go_wp2_with fail
        go_loopw [9] (fun vi wr => ∃ j : Nat, j ≤ k ∧ vi = .int .i64 j ∧ ∃ q, wr = w4.drewN q) (fun vi _ => k - (intOf vi).toNat)
        case atStart => exact ⟨0, Nat.zero_le _, rfl, _, rfl⟩
        case round =>
          obtain ⟨j, hj, rfl, q, rfl⟩ := hrel
          rcases Nat.lt_or_ge j k with hlt | hge
          · rcases NA4.out with hc | ⟨b, off, rfl, hbl, hcell⟩
            · omega
            rcases NW4.out with hc' | ⟨b', off', rfl, hbl', hcell'⟩
            · omega
            have c1 := hcell j hlt
            have c2 := hcell' j hlt
            obtain ⟨b0, b1⟩ := hbd.out j hlt
            obtain ⟨z0, z1⟩ := HZ.out j hlt
            obtain ⟨d0, d1, d2⟩ := HO.out j hlt
            have p0 : -1000000000000000000 ≤ x * z j := by
              have h1 := Int.mul_nonneg (show 0 ≤ x + 1000000000000 by omega) z0
              have h2 : (x + 1000000000000) * z j = x * z j + 1000000000000 * z j := Int.add_mul _ _ _
              omega
            have p1 : x * z j ≤ 1000000000000000000 := by
              have h1 := Int.mul_nonneg (show 0 ≤ 1000000000000 - x by omega) z0
              have h2 : (1000000000000 - x) * z j = 1000000000000 * z j - x * z j := Int.sub_mul _ _ _
              omega
            clear hcell hcell'
            have D2 := Lib.hid d2
            clear d2
            generalize hP : x * z j = P at *
            generalize hQ : L j * sumF z k = Q at *
            generalize sumF z k = S at *
            have HP := Lib.hid hP
            have HQ := Lib.hid hQ
            have q0 : -1000000000001000000 ≤ Q := by omega
            have q1 : Q ≤ 1000000000001000000 := by omega
            have k1 : (j : Int) < k := by omega
            have k0 : (0 : Int) ≤ j := by omega
            cases hz0 : (z j == 0) with
            | true =>
              have hl0 : L j = 0 := D2.out (by simpa using hz0)
              have hl1 : (L j != 0) = false := by simp [hl0]
              have HL0 := Lib.hid hl0
              clear hl0
              go_wp2_with fail
              go_quiet (fail)
              go_wp2
              go_roundw
              case rel => exact ⟨j + 1, hlt, by go_num, _, rfl⟩
              case measure => simp [intOf]; omega
            | false =>
              go_wp2_with fail
              go_quiet (fail)
              go_wp2
              go_roundw
              case rel => exact ⟨j + 1, hlt, by go_num, _, rfl⟩
              case measure => simp [intOf]; omega
          · obtain rfl : j = k := by omega
            go_wp2
            go_ret
            exact ⟨rfl, belowN hbw4 q⟩
  · have e2 : lC = 0 := by
      rcases hC with ⟨h, _, _⟩ | ⟨_, h⟩
      · exact absurd h hno
      · exact h
    subst lA lC
    clear hC
    go_wp2_with fail
    refine (wsSame aA aC 0 _ _ (fun _ => 0) _ (Or.inl rfl) (Or.inl rfl) (by omega)).mono ?_
    rintro e w4 ⟨rfl, hq4⟩
    have hb4 := drew_below (B := w3.heap.size) hq4
    go_wp2
    go_ret
    exact ⟨rfl, hbw3.trans (hb4.mono hbw3.size)⟩
end Go.Proofs.Ytnijiajmhjgmfaa
