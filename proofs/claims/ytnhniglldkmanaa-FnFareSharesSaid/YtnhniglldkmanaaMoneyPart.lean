/-
  What MoneyPart returns, of the program and of its model, at every three ints: the nearest part and true, or 0 and false; nothing is written.
-/
import Derived.Test.YtnhniglldkmanaaMoney
namespace Go.Proofs.Ytnhniglldkmanaa
open Go.RowKit
set_option linter.unusedVariables false

def nearV (t d : Int) : Int := if d < 2 * (t % d) ∨ (2 * (t % d) = d ∧ (t / d) % 2 = 1) then t / d + 1 else t / d

theorem near_bd (t d : Int) (h0 : 0 ≤ t) (d1 : 1 ≤ d) : 0 ≤ nearV t d ∧ nearV t d ≤ t + 1 := by
  have q0 : 0 ≤ t / d := Int.ediv_nonneg h0 (by omega)
  have q1 : t / d ≤ t := Int.ediv_le_self _ h0
  unfold nearV
  split <;> omega
theorem prod_bd (a n : Int) (a0 : 0 ≤ a) (a1 : a ≤ 1000000000000) (n0 : 0 ≤ n) (n1 : n ≤ 1000000) : 0 ≤ a * n ∧ a * n ≤ 1000000000000000000 :=
  ⟨Int.mul_nonneg a0 n0, Int.le_trans (Int.mul_le_mul a1 n1 n0 (by omega)) (by omega)⟩

def partR (a n d : Int) : Int := if a < 0 then -(nearV (-a * n) d) else nearV (a * n) d
def partOk (a n d : Int) : Bool := okB a && decide (0 ≤ n) && decide (n ≤ 1000000) && decide (1 ≤ d) && decide (d ≤ 1000000) && okB (partR a n d)
def partV (a n d : Int) : Int := if partOk a n d then partR a n d else 0

set_option maxHeartbeats 400000 in
theorem implSign (a : Int) (s : Int) (w : World) (h : (a < 0 ∧ s = -1) ∨ (0 ≤ a ∧ s = 1)) :
    Calls Try.prog 21 #[.int .i64 a] w fun e w' => e = .returned (.int .i64 s) ∧ w = w' := by
  rcases h with ⟨h, rfl⟩ | ⟨h, rfl⟩
  · go_enter Try.func21, Try.ntmps21
    go_wp2
    go_ret
    exact ⟨rfl, rfl⟩
  · go_enter Try.func21, Try.ntmps21
    go_wp2
    go_ret
    exact ⟨rfl, rfl⟩

theorem near_up1 {t d : Int} (h : d < 2 * (t % d)) : nearV t d = t / d + 1 := by rw [nearV, if_pos (.inl h)]
theorem near_up2 {t d : Int} (h : 2 * (t % d) = d) (h2 : (t / d % 2 == 1) = true) : nearV t d = t / d + 1 := by
  have : t / d % 2 = 1 := by simpa using h2
  rw [nearV, if_pos (.inr ⟨h, this⟩)]
theorem near_lo2 {t d : Int} (h0 : 2 * (t % d) ≤ d) (h2 : (t / d % 2 == 1) = false) : nearV t d = t / d := by
  have : ¬ t / d % 2 = 1 := by simpa using h2
  rw [nearV, if_neg (by omega)]
theorem near_lo1 {t d : Int} (h : ¬ 2 * (t % d) = d) (h0 : 2 * (t % d) ≤ d) : nearV t d = t / d := by rw [nearV, if_neg (by omega)]
theorem partR_neg {a n d x : Int} (h : a < 0) (hx : nearV (-a * n) d = x) : -x = partR a n d := by rw [partR, if_pos h, hx]
theorem partR_pos {a n d x : Int} (h : 0 ≤ a) (hx : nearV (a * n) d = x) : x = partR a n d := by rw [partR, if_neg (by omega), hx]

set_option maxHeartbeats 400000 in
theorem implOk (n : Int) (w : World) :
    Calls Try.prog 27 #[.int .i64 n] w fun e w' => e = .returned (.bool (okB n)) ∧ w = w' := by
  by_cases h1 : n < -1000000000000
  · go_enter Try.func27, Try.ntmps27
    go_wp2
    go_ret
    exact ⟨retB (by rw [okB_no (.inl h1)]; try simp), rfl⟩
  · go_enter Try.func27, Try.ntmps27
    go_wp2
    go_ret
    exact ⟨retB (by simp [okB]; try omega), rfl⟩

theorem part_cases (a n d : Int) : (partOk a n d = false ∧ partV a n d = 0) ∨ (partOk a n d = true ∧ partV a n d = partR a n d) := by
  cases h : partOk a n d
  · exact .inl ⟨rfl, by simp [partV, h]⟩
  · exact .inr ⟨rfl, by simp [partV, h]⟩

end Go.Proofs.Ytnhniglldkmanaa
