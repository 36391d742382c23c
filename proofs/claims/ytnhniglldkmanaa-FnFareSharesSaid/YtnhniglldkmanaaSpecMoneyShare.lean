/-
  What MoneyShare returns, by its model.
-/
import Derived.Test.YtnhniglldkmanaaSpecShare
import Derived.Test.YtnhniglldkmanaaMoney
namespace Go.Proofs.Ytnhniglldkmanaa
open Go.RowKit
set_option linter.unusedVariables false

def absT (T : Int) : Int := if T < 0 then -T else T
def SOk (T : Int) (z : Nat → Int) (n : Nat) : Prop := okB T = true ∧ WOk z n ∧ 0 < sumF z n
def cutV (T : Int) (z : Nat → Int) (n : Nat) (R : Nat → Nat) (i : Nat) : Int := outAt (shQ (absT T) z (sumF z n)) R (restF (absT T) z (sumF z n) n).toNat i
def shareV (T : Int) (z : Nat → Int) (n : Nat) (R : Nat → Nat) (i : Nat) : Int := if T < 0 then -(cutV T z n R i) else cutV T z n R i
def MPost (T : Int) (z : Nat → Int) (n : Nat) (R : Nat → Nat) (w : World) (e : Ending) (w' : World) : Prop :=
  ∃ (a : Option Addr) (len cap : Nat), e = .returned (.slice a len cap) ∧ Below w.heap.size w w' ∧ ((SOk T z n ∧ len = n ∧ NumsW w.heap.size w' a n (shareV T z n R)) ∨ (¬ SOk T z n ∧ len = 0))
theorem absT_bd {T : Int} (h : okB T = true) : 0 ≤ absT T ∧ absT T ≤ 1000000000000 := by
  have := okB_yes h
  unfold absT; split <;> omega
theorem cut_bd {T : Int} {z : Nat → Int} {n : Nat} {R : Nat → Nat} (h : SOk T z n) (i : Nat) (hi : i < n) : 0 ≤ cutV T z n R i ∧ cutV T z n R i ≤ 1000000000000000001 := by
  obtain ⟨A0, A1⟩ := absT_bd h.1
  obtain ⟨z0, z1⟩ := h.2.1.2.1 i hi
  have t0 : 0 ≤ absT T * z i := Int.mul_nonneg A0 z0
  have t1 : absT T * z i ≤ 1000000000000000000 := Int.le_trans (Int.mul_le_mul A1 z1 z0 (by omega)) (by omega)
  have q0 : 0 ≤ shQ (absT T) z (sumF z n) i := Int.ediv_nonneg t0 (by have := h.2.2; omega)
  have q1 : shQ (absT T) z (sumF z n) i ≤ absT T * z i := Int.ediv_le_self _ t0
  unfold cutV outAt
  split <;> omega
theorem slice_one {a : Option Addr} {g n : Nat} {B : Nat} {w : World} {f : Nat → Int} (h : NumsW B w a n f) (hn : 0 < n) : ∃ g, a = some ⟨g, 0, none⟩ ∧ B ≤ g ∧ NumsO w g n f := by
  rcases h with h | ⟨g, h1, h2, h3, h4⟩
  · omega
  · exact ⟨g, h1, h2, h3, h4⟩

set_option maxHeartbeats 2000000 in
theorem specMoneyShare (T : Int) (a : Option Addr) (n cap : Nat) (z : Nat → Int) (R : Nat → Nat) (w : World) (h : Nums w a n z) (hl : n ≤ 1048576) (hR : SOk T z n → InOrder n (shR (absT T) z (sumF z n)) R) :
    Calls Try.prog 15 #[.int .i64 T, .slice a n cap] w (MPost T z n R w) := by
  have HR := Lib.hid hR
  clear hR
  go_enter Try.func15, Try.ntmps15
  go_wp2_with fail
  refine (specWeights _ _ _ _ _ h hl).mono ?_
  rintro e w' ⟨s, rfl, hs, hww⟩
  subst w'
  cases hT : okB T with
  | false =>
    have hno : ¬ SOk T z n := fun h => by have := h.1; rw [hT] at this; cases this
    have Hno := Lib.hid hno
    have HT := Lib.hid hT
    clear hno hT hs h
    go_wp2_with fail
    refine (specMoneyOk _ _).mono ?_
    rintro e w' ⟨rfl, hww⟩
    subst w'
    rw [HT.out]
    go_wp2
    go_ret
    exact ⟨_, 0, _, rfl, (Below.refl _ _).alloc (Nat.le_refl _) _, Or.inr ⟨Hno.out, rfl⟩⟩
  | true =>
    have HT := Lib.hid hT
    obtain ⟨T0, T1⟩ := okB_yes hT
    clear hT
    have hsb := hs.bd
    cases hz : (s == 0) with
    | true =>
      have hs0 : s = 0 := by simpa using hz
      have hno : ¬ SOk T z n := fun h => by
        rcases hs with ⟨h1, h2⟩ | ⟨h1, h2⟩
        · have := h.2.2; omega
        · exact h1 h.2.1
      have Hno := Lib.hid hno
      clear hno hs hs0 h
      go_wp2_with fail
      refine (specMoneyOk _ _).mono ?_
      rintro e w' ⟨rfl, hww⟩
      subst w'
      rw [HT.out]
      go_wp2
      go_ret
      exact ⟨_, 0, _, rfl, (Below.refl _ _).alloc (Nat.le_refl _) _, Or.inr ⟨Hno.out, rfl⟩⟩
    | false =>
      have hs1 : s ≠ 0 := by simpa using hz
      have hs0 : 0 < s := by omega
      obtain ⟨hw, he⟩ : WOk z n ∧ s = sumF z n := by
        rcases hs with h | ⟨h1, h2⟩
        · exact h
        · exact absurd h2 hs1
      have hok : SOk T z n := ⟨HT.out, hw, by rw [← he]; exact hs0⟩
      have Hok := Lib.hid hok
      have He := Lib.hid he
      have Hw := Lib.hid hw
      have n8 := hw.1
      clear hs hs1 hw he hok
      go_wp2_with fail
      refine (specMoneyOk _ _).mono ?_
      rintro e w' ⟨rfl, hww⟩
      subst w'
      rw [HT.out]
      rcases Int.lt_or_le T 0 with hn | hn
      · have ha : Hid (absT T = -T) := by show _ = _; unfold absT; rw [if_pos hn]
        go_wp2_with fail
        refine (specShare (-T) s a n cap z R _ h Hw.out He.out hs0 (by omega) (by omega) (by have := HR.out Hok.out; rw [ha.out, ← He.out] at this; exact this)).mono ?_
        rintro e w1 ⟨a1, cap1, rfl, hn1, hb1⟩
        rw [← ha.out, He.out] at hn1
        have hn1' : NumsW w.heap.size w1 a1 n (cutV T z n R) := hn1
        clear hn1
        go_wp2_with fail
        have hn0 : 0 < n := by
          rcases Nat.eq_zero_or_pos n with h | h
          · have := Hok.out.2.2; rw [h] at this; simp [sumF] at this
          · exact h
        obtain ⟨g, rfl, hgB, hO⟩ := slice_one (g := 0) hn1' hn0
        have hO' : NumsO w1 g n (fun j => if j < 0 then -(cutV T z n R j) else cutV T z n R j) := ⟨hO.1, fun i hi => by have := hO.2 i hi; simpa using this⟩
        clear hO hn1'
        go_loopw [7] (fun vi wr => ∃ k : Nat, k ≤ n ∧ vi = .int .i64 k ∧ NumsO wr g n (fun j => if j < k then -(cutV T z n R j) else cutV T z n R j) ∧ Below w.heap.size w wr) (fun vi _ => n - (intOf vi).toNat)
        case atStart => exact ⟨0, Nat.zero_le _, rfl, hO', hb1⟩
        case round =>
          obtain ⟨k, hk, rfl, hO, hbw⟩ := hrel
          rcases Nat.lt_or_ge k n with hlt | hge
          · have HO := Lib.hid hO
            obtain ⟨c0, f1⟩ := hO.2 k hlt
            have c1 : wr.cell? ⟨g, k, none⟩ = some (.int .i64 (cutV T z n R k)) := by rw [c0]; simp
            clear c0
            obtain ⟨p0, p1⟩ := cut_bd (R := R) Hok.out k hlt
            have hset := Lib.hid (fun v (hv : v = -(cutV T z n R k)) => HO.out.set (f' := fun j => if j < k + 1 then -(cutV T z n R j) else cutV T z n R j) k hlt v (fun i _ => by
              show (if i < k + 1 then -(cutV T z n R i) else cutV T z n R i) = if i = k then v else (if i < k then -(cutV T z n R i) else cutV T z n R i)
              by_cases e : i = k
              · subst e; rw [if_pos (by omega), if_pos rfl, hv]
              · rw [if_neg e]
                by_cases e2 : i < k
                · rw [if_pos (by omega), if_pos e2]
                · rw [if_neg (by omega), if_neg e2]))
            generalize cutV T z n R k = x at *
            clear hO
            go_wp2
            go_roundw
            case rel => exact ⟨k + 1, hlt, by go_num, hset.out _ rfl, hbw.setCell hgB _⟩
            case measure => simp [intOf]; omega
          · obtain rfl : k = n := by omega
            have hv : Hid (NumsW w.heap.size wr (some ⟨g, 0, none⟩) k (shareV T z k R)) := by
              have e : shareV T z k R = fun i => -(cutV T z k R i) := by funext i; unfold shareV; rw [if_pos hn]
              refine Or.inr ⟨g, rfl, hgB, hO.1, fun i hi => ?_⟩
              have h2 : wr.cell? ⟨g, i, none⟩ = some (.int .i64 (-(cutV T z k R i))) ∧ wr.frozen? ⟨g, i, none⟩ = false := by have := hO.2 i hi; simpa [hi] using this
              rw [e]; exact h2
            clear hO
            go_wp2
            go_ret
            exact ⟨_, k, cap1, rfl, hbw, Or.inl ⟨Hok.out, rfl, hv.out⟩⟩
      · have ha : Hid (absT T = T) := by show _ = _; unfold absT; rw [if_neg (by omega)]
        go_wp2_with fail
        refine (specShare T s a n cap z R _ h Hw.out He.out hs0 (by omega) (by omega) (by have := HR.out Hok.out; rw [ha.out, ← He.out] at this; exact this)).mono ?_
        rintro e w1 ⟨a1, cap1, rfl, hn1, hb1⟩
        rw [He.out] at hn1
        have hv : shareV T z n R = outAt (shQ T z (sumF z n)) R (restF T z (sumF z n) n).toNat := by
          funext i; unfold shareV cutV; rw [if_neg (by omega), ha.out]
        have hn2 : Hid (NumsW w.heap.size w1 a1 n (shareV T z n R)) := by show NumsW _ _ _ _ _; rw [hv]; exact hn1
        clear hv hn1
        go_wp2
        go_ret
        exact ⟨a1, n, cap1, rfl, hb1, Or.inl ⟨Hok.out, rfl, hn2.out⟩⟩
end Go.Proofs.Ytnhniglldkmanaa
