/-
  What MoneyShare returns, by the program; and the law FnExactMoneyShare's own walk.
-/
import Derived.Test.YtnhniglldkmanaaImplShare
namespace Go.Proofs.Ytnhniglldkmanaa
open Go.RowKit
set_option linter.unusedVariables false

set_option maxHeartbeats 2000000 in
theorem implMoneyShare (T : Int) (a : Option Addr) (n cap : Nat) (z : Nat → Int) (w : World) (h : Nums w a n z) (hl : n ≤ 1048576) :
    Calls Try.prog 14 #[.int .i64 T, .slice a n cap] w fun e w' => ∃ R, (SOk T z n → InOrder n (shR (absT T) z (sumF z n)) R) ∧ MPost T z n R w e w' := by
  go_enter Try.func14, Try.ntmps14
  go_wp2_with fail
  refine (implWeights _ _ _ _ _ h hl).mono ?_
  rintro e w' ⟨s, rfl, hs, hww⟩
  subst w'
  cases hT : okB T with
  | false =>
    have hno : ¬ SOk T z n := fun h => by have := h.1; rw [hT] at this; cases this
    have Hno := Lib.hid hno
    have HT := Lib.hid hT
    clear hno hT hs h
    go_wp2_with fail
    refine (implMoneyOk _ _).mono ?_
    rintro e w' ⟨rfl, hww⟩
    subst w'
    rw [HT.out]
    go_wp2
    go_ret
    exact ⟨fun i => i, fun h => absurd h Hno.out, none, 0, 0, rfl, Below.refl _ _, Or.inr ⟨Hno.out, rfl⟩⟩
  | true =>
    have HT := Lib.hid hT
    obtain ⟨T0, T1⟩ := okB_yes hT
    clear hT
    have hsb := hs.bd
    cases hz : (s == 0) with
    | true =>
      have hs0 : s = 0 := by simpa using hz
      have hno : ¬ SOk T z n := fun h => by
        rcases hs with ⟨h1, h2⟩ | ⟨h1, h2⟩
        · have := h.2.2; omega
        · exact h1 h.2.1
      have Hno := Lib.hid hno
      clear hno hs hs0 h
      go_wp2_with fail
      refine (implMoneyOk _ _).mono ?_
      rintro e w' ⟨rfl, hww⟩
      subst w'
      rw [HT.out]
      go_wp2
      go_ret
      exact ⟨fun i => i, fun h => absurd h Hno.out, none, 0, 0, rfl, Below.refl _ _, Or.inr ⟨Hno.out, rfl⟩⟩
    | false =>
      have hs1 : s ≠ 0 := by simpa using hz
      have hs0 : 0 < s := by omega
      obtain ⟨hw, he⟩ : WOk z n ∧ s = sumF z n := by
        rcases hs with h | ⟨h1, h2⟩
        · exact h
        · exact absurd h2 hs1
      have hok : SOk T z n := ⟨HT.out, hw, by rw [← he]; exact hs0⟩
      have Hok := Lib.hid hok
      have He := Lib.hid he
      have Hw := Lib.hid hw
      have n8 := hw.1
      have hn0 : 0 < n := by
        rcases Nat.eq_zero_or_pos n with h | h
        · rw [h] at he; simp [sumF] at he; omega
        · exact h
      obtain ⟨A0, A1⟩ := absT_bd HT.out
      obtain ⟨g, hg, hgs⟩ : ∃ g : Int, ((T < 0 ∧ g = -1) ∨ (0 ≤ T ∧ g = 1)) ∧ Hid (T * g = absT T) := by
        rcases Int.lt_or_le T 0 with h | h
        · exact ⟨-1, Or.inl ⟨h, rfl⟩, by show _ = _; unfold absT; rw [if_pos h]; omega⟩
        · exact ⟨1, Or.inr ⟨h, rfl⟩, by show _ = _; unfold absT; rw [if_neg (by omega)]; omega⟩
      have Hg := Lib.hid hg
      have gb : -1 ≤ g ∧ g ≤ 1 := by omega
      obtain ⟨g0, g1⟩ := gb
      clear hs hs1 hw he hok hg
      have tg0 : -1000000000000 ≤ T * g := by rw [hgs.out]; omega
      have tg1 : T * g ≤ 1000000000000 := by rw [hgs.out]; omega
      go_wp2_with fail
      refine (implMoneyOk _ _).mono ?_
      rintro e w' ⟨rfl, hww⟩
      subst w'
      rw [HT.out]
      go_wp2_with fail
      refine (implSign T g _ Hg.out).mono ?_
      rintro e w' ⟨rfl, hww⟩
      subst w'
      go_wp2_with fail
      rw [hgs.out]
      refine (implShares (absT T) s a n cap z _ h Hw.out He.out hs0 A0 A1).mono ?_
      rintro e w1 ⟨R, hR, a1, cap1, rfl, hn1, hb1⟩
      rw [He.out] at hR hn1
      have HR := Lib.hid hR
      have hn1' : NumsW _ w1 a1 n (cutV T z n R) := hn1
      obtain ⟨gg, rfl, hgB, hO⟩ := slice_one (g := 0) hn1' hn0
      have hO' : NumsO w1 gg n (fun j => if j < 0 then shareV T z n R j else cutV T z n R j) := ⟨hO.1, fun i hi => by have := hO.2 i hi; simpa using this⟩
      clear hO hn1 hn1' hR
      go_wp2_with fail
      go_loopw [28] (fun vi wr => ∃ k : Nat, k ≤ n ∧ vi = .int .i64 k ∧ NumsO wr gg n (fun j => if j < k then shareV T z n R j else cutV T z n R j) ∧ Below w.heap.size w wr) (fun vi _ => n - (intOf vi).toNat)
      case atStart => exact ⟨0, Nat.zero_le _, rfl, hO', hb1⟩
      case round =>
        obtain ⟨k, hk, rfl, hO, hbw⟩ := hrel
        rcases Nat.lt_or_ge k n with hlt | hge
        · have HO := Lib.hid hO
          obtain ⟨c0, f1⟩ := hO.2 k hlt
          have c1 : wr.cell? ⟨gg, k, none⟩ = some (.int .i64 (cutV T z n R k)) := by rw [c0]; simp
          obtain ⟨p0, p1⟩ := cut_bd (R := R) Hok.out k hlt
          have hsv : Hid (shareV T z n R k = cutV T z n R k * g) := by
            show _ = _
            unfold shareV
            rcases Hg.out with ⟨h1, h2⟩ | ⟨h1, h2⟩
            · rw [if_pos h1, h2]; omega
            · rw [if_neg (by omega), h2]; omega
          have hset := Lib.hid (fun v (hv : v = cutV T z n R k * g) => HO.out.set (f' := fun j => if j < k + 1 then shareV T z n R j else cutV T z n R j) k hlt v (fun i _ => by
            show (if i < k + 1 then shareV T z n R i else cutV T z n R i) = if i = k then v else (if i < k then shareV T z n R i else cutV T z n R i)
            by_cases e : i = k
            · subst e; rw [if_pos (by omega), if_pos rfl, hv, hsv.out]
            · rw [if_neg e]
              by_cases e2 : i < k
              · rw [if_pos (by omega), if_pos e2]
              · rw [if_neg (by omega), if_neg e2]))
          have m0 : -1000000000000000001 ≤ cutV T z n R k * g := by rcases Hg.out with ⟨h1, h2⟩ | ⟨h1, h2⟩ <;> rw [h2] <;> omega
          have m1 : cutV T z n R k * g ≤ 1000000000000000001 := by rcases Hg.out with ⟨h1, h2⟩ | ⟨h1, h2⟩ <;> rw [h2] <;> omega
          generalize cutV T z n R k = x at *
          clear hO c0
          go_wp2
          go_roundw
          case rel => exact ⟨k + 1, hlt, by go_num, hset.out _ rfl, hbw.setCell hgB _⟩
          case measure => simp [intOf]; omega
        · obtain rfl : k = n := by omega
          have hv : Hid (NumsW w.heap.size wr (some ⟨gg, 0, none⟩) k (shareV T z k R)) := by
            refine Or.inr ⟨gg, rfl, hgB, hO.1, fun i hi => ?_⟩
            have := hO.2 i hi
            simpa [hi] using this
          clear hO
          go_wp2
          go_ret
          exact ⟨R, fun _ => HR.out, _, k, cap1, rfl, hbw, Or.inl ⟨Hok.out, rfl, hv.out⟩⟩

theorem exists_order (n : Nat) (l : Nat → Int) (hn : 0 < n) : ∃ R, InOrder n l R := by
  obtain ⟨m, rfl⟩ : ∃ m, n = m + 1 := ⟨n - 1, by omega⟩
  exact ⟨_, inOrder_congr (order_ok (fun x : Fin (m + 1) => l x.val)) fun i hi => by simp [hi]⟩
theorem got_congr {R R' : Nat → Nat} : ∀ t : Nat, (∀ u, u < t → R u = R' u) → ∀ i, got R t i = got R' t i
  | 0, _, _ => rfl
  | t + 1, h, i => by simp only [got]; rw [got_congr t (fun u hu => h u (by omega)) i, h t (by omega)]
theorem order_unique {n : Nat} {l : Nat → Int} {R R' : Nat → Nat} (h : InOrder n l R) (h' : InOrder n l R') (hl : ∀ i, i < n → 0 ≤ l i) : ∀ t, t < n → R' t = R t := by
  intro t
  induction t using Nat.strongRecOn with
  | ind t ih =>
    intro ht
    have hg := got_congr (R := R) (R' := R') t (fun u hu => (ih u hu (by omega)).symm)
    have hL : ∀ j, leftAt l R t j = leftAt l R' t j := fun j => by unfold leftAt; rw [hg]
    have e1 : leftAt l R' t (R' t) = l (R' t) := by unfold leftAt; rw [not_got h' ht]; rfl
    have p1 := hl (R' t) (h'.lt t ht)
    have key : ∀ j, j < n → got R' t j = false → j ≠ R' t → l j < l (R' t) ∨ (l j = l (R' t) ∧ R' t < j) := by
      intro j hj hng hne
      obtain ⟨u, hu, hub⟩ := h'.onto j hj
      have hut : t ≤ u := by
        rcases Nat.lt_or_ge u t with h2 | h2
        · have := got_iff.2 ⟨u, h2, hub⟩; rw [hng] at this; cases this
        · exact h2
      have hne2 : u ≠ t := fun e => hne (by rw [← hub, e])
      have := h'.asc t u (by omega) hu
      rw [hub] at this
      exact this
    refine best_is h hl ht (h'.lt t ht) (fun j hj => ?_) (fun j hj => ?_)
    · rw [hL, hL, e1]
      unfold leftAt
      cases hgj : got R' t j with
      | true => simp; omega
      | false =>
        simp only [Bool.false_eq_true, if_false]
        by_cases e : j = R' t
        · rw [e]; exact Int.le_refl _
        · have := key j hj hgj e; omega
    · rw [hL, hL, e1]
      unfold leftAt
      cases hgj : got R' t j with
      | true => simp; omega
      | false =>
        simp only [Bool.false_eq_true, if_false]
        have := key j (by have := h'.lt t ht; omega) hgj (by omega)
        omega
theorem share_unique {T : Int} {z : Nat → Int} {n : Nat} {R R' : Nat → Nat} (hok : SOk T z n) (h : InOrder n (shR (absT T) z (sumF z n)) R) (h' : InOrder n (shR (absT T) z (sumF z n)) R') (i : Nat) : shareV T z n R i = shareV T z n R' i := by
  have hl : ∀ i, i < n → 0 ≤ shR (absT T) z (sumF z n) i := fun i _ => Int.emod_nonneg _ (by have := hok.2.2; omega)
  have hu := order_unique h h' hl
  obtain ⟨r0, r1⟩ := rest_bd (A := absT T) hok.2.2 rfl
  have hn : 0 < n := by
    rcases Nat.eq_zero_or_pos n with h | h
    · have := hok.2.2; rw [h] at this; simp [sumF] at this
    · exact h
  have hc := r1 hn
  have hg := got_congr (R := R) (R' := R') (restF (absT T) z (sumF z n) n).toNat (fun u hu2 => (hu u (by omega)).symm) i
  unfold shareV cutV outAt
  rw [hg]
end Go.Proofs.Ytnhniglldkmanaa
