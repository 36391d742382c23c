/-
  The laws FnMoneyTurn and FnMoneyShare, their own walks.
-/
import Derived.Test.YtnijiajmhjgmfaaDrawShare
import Derived.Test.YtnijiajmhjgmfaaMoneyShare
namespace Go.Proofs.Ytnijiajmhjgmfaa
open Go.RowKit
set_option linter.unusedVariables false

def DrawnS (w : World) (e : Ending) (w' : World) : Prop := ∃ (T : Int) (a : Option Addr) (n cap : Nat) (z : Nat → Int), -1000000000000 ≤ T ∧ T ≤ 1000000000000 ∧ n ≤ 9 ∧ (∀ i, i < n → -1 ≤ z i ∧ z i ≤ 1000001) ∧ e = .returned (.tuple #[.int .i64 T, .slice a n cap]) ∧ Nums w' a n z ∧ Below w.heap.size w w'

set_option maxHeartbeats 1000000 in
theorem drawShare (a0 : Option Addr) (len cap : Nat) (z : List Int) (w : World) (w0 : IsRow .u8 w a0 len cap z) :
    Calls Try.prog 25 #[.slice a0 len cap] w (DrawnS w) := by
  go_enter Try.func25, Try.ntmps25
  go_wp2_with fail
  refine (opened a0 len cap z _ w0).mono ?_
  rintro e w1 ⟨rfl, hr1, hb1, -⟩
  clear w0
  go_wp2_with fail
  refine (drawAmount w.heap.size w.heap.size 0 _ hr1 (by omega)).mono ?_
  rintro e w2 ⟨x, l1, u1, rfl, hr2, hg2⟩
  have hb2 := below_step hb1 hg2
  go_wp2_with fail
  refine (drawWeights w.heap.size _ _ hr2 (by omega)).mono ?_
  rintro e w3 ⟨v, n, p, hn9, rfl, ⟨zs, hzl, hown, hzs, hnil⟩, hr3, -, hb3⟩
  obtain ⟨g, cp, rfl⟩ := own_form hown hnil
  have hN : Hid (Nums w3 (some ⟨g, 0, none⟩) n (fun i => zs.getD i 0)) := by
    refine Or.inr ⟨g, 0, rfl, (hown.lt g rfl).2, fun i hi => ?_⟩
    rw [Nat.zero_add, hown.cellAt i (by omega)]
    have : i < zs.length := by omega
    simp [this]
  have hz : Hid (∀ i, i < n → -1 ≤ zs.getD i 0 ∧ zs.getD i 0 ≤ 1000001) := fun i hi => by
    have : i < zs.length := by omega
    have e : zs.getD i 0 = zs[i] := by simp [this]
    rw [e]; exact hzs _ (List.getElem_mem _)
  have hb := hb2.trans hb3
  clear hown hzs hnil
  go_wp2
  go_ret2
  exact ⟨x, _, n, cp, _, l1, u1, hn9, hz.out, rfl, hN.out, hb⟩

set_option maxHeartbeats 1000000 in
theorem wsSame (a a' : Option Addr) (len cap cap' : Nat) (z : Nat → Int) (w : World) (h : Nums w a len z) (h' : Nums w a' len z) (hl : len ≤ 1048576) :
    Calls Try.prog 26 #[.slice a len cap, .slice a' len cap'] w fun e w' => e = .returned (.bool true) ∧ Drew w w' := by
  go_enter Try.func26, Try.ntmps26
  go_wp2_with fail
  go_loopw [5] (fun i wr => ∃ k : Nat, k ≤ len ∧ i = .int .i64 k ∧ ∃ q, wr = w.drewN q) (fun i _ => len - (intOf i).toNat)
  case atStart => exact ⟨0, Nat.zero_le _, rfl, 0, rfl⟩
  case round =>
    obtain ⟨k, hk, rfl, q, rfl⟩ := hrel
    rcases Nat.lt_or_ge k len with hlt | hge
    · rcases h with hc | ⟨b, off, rfl, hbl, hcell⟩
      · omega
      rcases h' with hc' | ⟨b', off', rfl, hbl', hcell'⟩
      · omega
      have c1 := hcell k hlt
      have c2 := hcell' k hlt
      clear hcell hcell'
      generalize z k = s at *
      have k1 : (k : Int) < len := by omega
      have k0 : (0 : Int) ≤ k := by omega
      go_wp2_with fail
      go_quiet (fail)
      go_wp2
      go_roundw
      case rel => exact ⟨k + 1, by omega, by go_num, _, rfl⟩
      case measure => simp [intOf]; omega
    · obtain rfl : k = len := by omega
      go_wp2
      go_ret
      exact ⟨rfl, q, rfl⟩

theorem absT_neg (T : Int) : absT (-T) = absT T := by unfold absT; split <;> split <;> omega
theorem sok_neg {T : Int} {z : Nat → Int} {n : Nat} (h : SOk T z n) : SOk (-T) z n := ⟨okB_mk (by have := okB_yes h.1; omega), h.2⟩
theorem sok_neg' {T : Int} {z : Nat → Int} {n : Nat} (h : SOk (-T) z n) : SOk T z n := by have := sok_neg h; rwa [Int.neg_neg] at this
theorem share_neg {T : Int} {z : Nat → Int} {n : Nat} {R : Nat → Nat} (i : Nat) : shareV (-T) z n R i = -(shareV T z n R i) := by
  have hc : cutV (-T) z n R i = cutV T z n R i := by unfold cutV; rw [absT_neg]
  unfold shareV
  rw [hc]
  rcases Int.lt_trichotomy T 0 with h | h | h
  · rw [if_neg (by omega), if_pos h]; omega
  · subst h
    have h0 : cutV 0 z n R i = 0 := by
      have a0 : absT 0 = 0 := by unfold absT; simp
      have q0 : shQ 0 z (sumF z n) = fun _ => 0 := by funext j; unfold shQ; simp
      have s0 : ∀ k : Nat, sumF (fun _ => (0 : Int)) k = 0 := fun k => by
        induction k with
        | zero => rfl
        | succ k ih => simp only [sumF, ih]; rfl
      unfold cutV outAt restF
      rw [a0, q0, s0]
      simp [got]
    simp [h0]
  · rw [if_pos (by omega), if_neg (by omega)]
theorem share_bd {T : Int} {z : Nat → Int} {n : Nat} {R : Nat → Nat} (h : SOk T z n) (i : Nat) (hi : i < n) : -1000000000000000001 ≤ shareV T z n R i ∧ shareV T z n R i ≤ 1000000000000000001 := by
  have := cut_bd (R := R) h i hi
  unfold shareV; split <;> omega

/-- What the three calls of the law hand back. -/
theorem turn_three {T : Int} {z : Nat → Int} {n : Nat} {R R' : Nat → Nat} {wa wa' wb wb' wc wc' : World} {ea eb ec : Ending} (hR : SOk T z n → InOrder n (shR (absT T) z (sumF z n)) R) (hR' : SOk (-T) z n → InOrder n (shR (absT (-T)) z (sumF z n)) R')
    (hA : MPost T z n R wa ea wa') (hB : MPost (-T) z n R' wb eb wb') (hC : MPost T z n R wc ec wc') :
    ∃ (m : Nat) (L : Nat → Int) (aA aB aC : Option Addr) (cA cB cC : Nat), m ≤ 8 ∧ (∀ i, i < m → -1000000000000000001 ≤ L i ∧ L i ≤ 1000000000000000001) ∧ ea = .returned (.slice aA m cA) ∧ eb = .returned (.slice aB m cB) ∧ ec = .returned (.slice aC m cC) ∧
      Nums wa' aA m L ∧ Nums wb' aB m (fun i => -(L i)) ∧ Nums wc' aC m L := by
  obtain ⟨aA, lA, cA, rfl, -, hA⟩ := hA
  obtain ⟨aB, lB, cB, rfl, -, hB⟩ := hB
  obtain ⟨aC, lC, cC, rfl, -, hC⟩ := hC
  rcases hA with ⟨k, hl, hA⟩ | ⟨k, hl⟩ <;> subst lA
  · rcases hB with ⟨_, hl, hB⟩ | ⟨k', _⟩
    · rcases hC with ⟨_, hl2, hC⟩ | ⟨k', _⟩
      · subst lB lC
        have e : shareV (-T) z n R' = fun i => -(shareV T z n R i) := by
          funext i
          rw [share_unique (sok_neg k) (hR' (sok_neg k)) (by rw [absT_neg]; exact hR k) i, share_neg]
        rw [e] at hB
        exact ⟨n, shareV T z n R, aA, aB, aC, cA, cB, cC, k.2.1.1, fun i hi => share_bd k i hi, rfl, rfl, rfl, hA.nums, hB.nums, hC.nums⟩
      · exact absurd k k'
    · exact absurd (sok_neg k) k'
  · rcases hB with ⟨k', _⟩ | ⟨_, hl⟩
    · exact absurd (sok_neg' k') k
    · rcases hC with ⟨k', _⟩ | ⟨_, hl2⟩
      · exact absurd k' k
      · subst lB lC
        exact ⟨0, fun _ => 0, aA, aB, aC, cA, cB, cC, by omega, fun i hi => by omega, rfl, rfl, rfl, Or.inl rfl, Or.inl rfl, Or.inl rfl⟩

set_option maxHeartbeats 1000000 in
theorem lawMoneyTurn (a0 : Option Addr) (len0 cap0 : Nat) (zz : List Int) (w : World) (w0 : IsRow .u8 w a0 len0 cap0 zz) :
    Calls Try.prog 10 #[.slice a0 len0 cap0] w fun e w' => e = .returned (.bool true) ∧ Below w.heap.size w w' := by
  rcases Nat.lt_or_ge 1048576 len0 with hbig | hbig
  · clear w0
    go_enter Try.func10, Try.ntmps10
    go_wp2
    go_ret
    exact ⟨rfl, Below.refl _ _⟩
  have W0 := Lib.hid w0
  clear w0
  go_enter Try.func10, Try.ntmps10
  go_wp2_with fail
  refine (drawShare a0 len0 cap0 zz _ W0.out).mono ?_
  rintro e w1 ⟨T, a, n, cap, z, T0, T1, hn9, hz, rfl, hN, hb1⟩
  have hl : n ≤ 1048576 := by omega
  have HN := Lib.hid hN
  clear hz hN
  go_wp2_with fail
  refine (implMoneyShare T a n cap z _ HN.out hl).mono ?_
  rintro e w2 ⟨R, hR, hA⟩
  obtain ⟨aA, lA, cA, rfl, hb2, -⟩ := id hA
  have hbw2 : Below w.heap.size w w2 := hb1.trans (hb2.mono hb1.size)
  have HR := Lib.hid hR
  have HA := Lib.hid hA
  clear hR hA
  go_wp2_with fail
  refine (implMoneyShare (-T) a n cap z _ (HN.out.kept hb2) hl).mono ?_
  rintro e w3 ⟨R', hR', hB⟩
  obtain ⟨aB, lB, cB, rfl, hb3, -⟩ := id hB
  have hbw3 : Below w.heap.size w w3 := hbw2.trans (hb3.mono hbw2.size)
  have HR' := Lib.hid hR'
  have HB := Lib.hid hB
  clear hR' hB
  go_wp2_with fail
  refine (specMoneyShare T a n cap z R _ ((HN.out.kept hb2).kept hb3) hl HR.out).mono ?_
  intro e w4 hC
  obtain ⟨m, L, aA', aB', aC, cA', cB', cC, m8, hL, eA, eB, rfl, nA, nB, nC⟩ := turn_three HR.out HR'.out HA.out HB.out hC
  simp only [Ending.returned.injEq, Value.slice.injEq] at eA eB
  obtain ⟨rfl, rfl, rfl⟩ := eA
  obtain ⟨rfl, rfl, rfl⟩ := eB
  obtain ⟨_, _, _, -, hb4, -⟩ := hC
  have hbw4 : Below w.heap.size w w4 := hbw3.trans (hb4.mono hbw3.size)
  have NA := Lib.hid ((nA.kept hb3).kept hb4)
  have NB := Lib.hid (nB.kept hb4)
  have NC := Lib.hid nC
  have HL := Lib.hid hL
  clear nA nB nC hL HA HB
  go_wp2_with fail
  refine (wsSame aA aC lB _ _ L _ NA.out NC.out (by omega)).mono ?_
  rintro e w5 ⟨rfl, hq5⟩
  have hb5 := drew_below (B := w4.heap.size) hq5
  have hbw5 : Below w.heap.size w w5 := hbw4.trans (hb5.mono hbw4.size)
  have NA5 := Lib.hid (NA.out.kept hb5)
  have NB5 := Lib.hid (NB.out.kept hb5)
  go_wp2_with fail
  go_loopw [7] (fun i wr => ∃ k : Nat, k ≤ lB ∧ i = .int .i64 k ∧ ∃ q, wr = w5.drewN q) (fun i _ => lB - (intOf i).toNat)
  case atStart => exact ⟨0, Nat.zero_le _, rfl, 0, rfl⟩
  case round =>
    obtain ⟨k, hk, rfl, q, rfl⟩ := hrel
    rcases Nat.lt_or_ge k lB with hlt | hge
    · rcases NA5.out with hc | ⟨b, off, rfl, hbl, hcell⟩
      · omega
      rcases NB5.out with hc' | ⟨b', off', rfl, hbl', hcell'⟩
      · omega
      have c1 := hcell k hlt
      have c2 : w5.cell? ⟨b', off' + k, none⟩ = some (.int .i64 (-(L k))) := hcell' k hlt
      obtain ⟨x0, x1⟩ := HL.out k hlt
      clear hcell hcell'
      generalize L k = x at *
      have k1 : (k : Int) < lB := by omega
      have k0 : (0 : Int) ≤ k := by omega
      go_wp2_with fail
      go_quiet (fail)
      go_wp2
      go_roundw
      case rel => exact ⟨k + 1, by omega, by go_num, _, rfl⟩
      case measure => simp [intOf]; omega
    · obtain rfl : k = lB := by omega
      go_wp2
      go_ret
      exact ⟨rfl, belowN hbw5 q⟩
end Go.Proofs.Ytnijiajmhjgmfaa
