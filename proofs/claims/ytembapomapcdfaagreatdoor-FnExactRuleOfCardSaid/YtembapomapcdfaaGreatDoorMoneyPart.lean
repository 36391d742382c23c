/-
  What MoneyPart returns, of the program and of its model, at every three ints: the nearest part and true, or 0 and false; nothing is written.
-/
import Derived.Test.YtembapomapcdfaaGreatDoorMoney
namespace Go.Proofs.YtembapomapcdfaaGreatDoor
open Go.RowKit
set_option linter.unusedVariables false

def nearV (t d : Int) : Int := if d < 2 * (t % d) ∨ (2 * (t % d) = d ∧ (t / d) % 2 = 1) then t / d + 1 else t / d

set_option maxHeartbeats 400000 in
theorem specNear (t d : Int) (w : World) (h0 : 0 ≤ t) (h1 : t ≤ 1000000000000000000) (d1 : 1 ≤ d) (d2 : d ≤ 1000000) :
    Calls Tryz.prog 85 #[.int .i64 t, .int .i64 d] w fun e w' => e = .returned (.int .i64 (nearV t d)) ∧ w = w' := by
  have q0 : 0 ≤ t / d := Int.ediv_nonneg h0 (by omega)
  have q1 : t / d ≤ t := Int.ediv_le_self _ h0
  have r0 : 0 ≤ t % d := Int.emod_nonneg _ (by omega)
  have r1 : t % d < d := Int.emod_lt_of_pos _ (by omega)
  by_cases c1 : d < 2 * (t % d)
  · go_enter Tryz.func85, Tryz.ntmps85
    go_wp2
    go_ret
    exact ⟨retI (by rw [nearV, if_pos (.inl c1)]), rfl⟩
  by_cases c2 : 2 * (t % d) = d
  · by_cases c3 : (t / d) % 2 = 1
    · have e2 : (2 * (t % d) == d) = true := by simpa using c2
      have e3 : (t / d % 2 == 1) = true := by simpa using c3
      have hr : nearV t d = t / d + 1 := by rw [nearV, if_pos (.inr ⟨c2, c3⟩)]
      have Hr := Lib.hid hr
      clear c2 c3 hr
      go_enter Tryz.func85, Tryz.ntmps85
      go_wp2
      go_ret
      exact ⟨retI Hr.out.symm, rfl⟩
    · have e2 : (2 * (t % d) == d) = true := by simpa using c2
      have e3 : (t / d % 2 == 1) = false := by simpa using c3
      have hr : nearV t d = t / d := by rw [nearV, if_neg (by omega)]
      have Hr := Lib.hid hr
      clear c2 c3 hr
      go_enter Tryz.func85, Tryz.ntmps85
      go_wp2
      go_ret
      exact ⟨retI Hr.out.symm, rfl⟩
  · have e2 : (2 * (t % d) == d) = false := by simpa using c2
    have hr : nearV t d = t / d := by rw [nearV, if_neg (by omega)]
    have Hr := Lib.hid hr
    clear hr
    go_enter Tryz.func85, Tryz.ntmps85
    go_wp2
    go_ret
    exact ⟨retI Hr.out.symm, rfl⟩

theorem near_bd (t d : Int) (h0 : 0 ≤ t) (d1 : 1 ≤ d) : 0 ≤ nearV t d ∧ nearV t d ≤ t + 1 := by
  have q0 : 0 ≤ t / d := Int.ediv_nonneg h0 (by omega)
  have q1 : t / d ≤ t := Int.ediv_le_self _ h0
  unfold nearV
  split <;> omega
theorem prod_bd (a n : Int) (a0 : 0 ≤ a) (a1 : a ≤ 1000000000000) (n0 : 0 ≤ n) (n1 : n ≤ 1000000) : 0 ≤ a * n ∧ a * n ≤ 1000000000000000000 :=
  ⟨Int.mul_nonneg a0 n0, Int.le_trans (Int.mul_le_mul a1 n1 n0 (by omega)) (by omega)⟩

def partR (a n d : Int) : Int := if a < 0 then -(nearV (-a * n) d) else nearV (a * n) d
def partOk (a n d : Int) : Bool := okB a && decide (0 ≤ n) && decide (n ≤ 1000000) && decide (1 ≤ d) && decide (d ≤ 1000000) && okB (partR a n d)
def partV (a n d : Int) : Int := if partOk a n d then partR a n d else 0

set_option maxHeartbeats 400000 in
theorem implSign (a : Int) (s : Int) (w : World) (h : (a < 0 ∧ s = -1) ∨ (0 ≤ a ∧ s = 1)) :
    Calls Tryz.prog 152 #[.int .i64 a] w fun e w' => e = .returned (.int .i64 s) ∧ w = w' := by
  rcases h with ⟨h, rfl⟩ | ⟨h, rfl⟩
  · go_enter Tryz.func152, Tryz.ntmps152
    go_wp2
    go_ret
    exact ⟨rfl, rfl⟩
  · go_enter Tryz.func152, Tryz.ntmps152
    go_wp2
    go_ret
    exact ⟨rfl, rfl⟩

theorem near_up1 {t d : Int} (h : d < 2 * (t % d)) : nearV t d = t / d + 1 := by rw [nearV, if_pos (.inl h)]
theorem near_up2 {t d : Int} (h : 2 * (t % d) = d) (h2 : (t / d % 2 == 1) = true) : nearV t d = t / d + 1 := by
  have : t / d % 2 = 1 := by simpa using h2
  rw [nearV, if_pos (.inr ⟨h, this⟩)]
theorem near_lo2 {t d : Int} (h0 : 2 * (t % d) ≤ d) (h2 : (t / d % 2 == 1) = false) : nearV t d = t / d := by
  have : ¬ t / d % 2 = 1 := by simpa using h2
  rw [nearV, if_neg (by omega)]
theorem near_lo1 {t d : Int} (h : ¬ 2 * (t % d) = d) (h0 : 2 * (t % d) ≤ d) : nearV t d = t / d := by rw [nearV, if_neg (by omega)]
theorem partR_neg {a n d x : Int} (h : a < 0) (hx : nearV (-a * n) d = x) : -x = partR a n d := by rw [partR, if_pos h, hx]
theorem partR_pos {a n d x : Int} (h : 0 ≤ a) (hx : nearV (a * n) d = x) : x = partR a n d := by rw [partR, if_neg (by omega), hx]

set_option maxHeartbeats 400000 in
theorem implPart (a n d : Int) (w : World) (a0 : -1000000000000 ≤ a) (a1 : a ≤ 1000000000000) (n0 : 0 ≤ n) (n1 : n ≤ 1000000) (d1 : 1 ≤ d) (d2 : d ≤ 1000000) :
    Calls Tryz.prog 151 #[.int .i64 a, .int .i64 n, .int .i64 d] w fun e w' => e = .returned (.int .i64 (partR a n d)) ∧ Drew w w' := by
  by_cases ha : a < 0
  · obtain ⟨t0, t1⟩ := prod_bd (-a) n (by omega) (by omega) n0 n1
    have q0 : 0 ≤ -a * n / d := Int.ediv_nonneg t0 (by omega)
    have q1 : -a * n / d ≤ -a * n := Int.ediv_le_self _ t0
    have r0 : 0 ≤ -a * n % d := Int.emod_nonneg _ (by omega)
    have r1 : -a * n % d < d := Int.emod_lt_of_pos _ (by omega)
    go_enter Tryz.func151, Tryz.ntmps151
    go_wp2_with (go_at_call 152; refine (implSign a (-1) _ (.inl ⟨ha, rfl⟩)).mono ?_; rintro e w' ⟨rfl, rfl⟩)
    go_quiet (fail)
    go_wp2
    all_goals
      go_ret
      refine ⟨retI ?_, ⟨_, rfl⟩⟩
      refine Eq.trans ?_ (partR_neg ha (by first | exact near_up1 ‹_› | exact near_up2 ‹_› ‹_› | exact near_lo2 ‹_› ‹_› | exact near_lo1 ‹_› ‹_›))
      first | rfl | omega
  · obtain ⟨t0, t1⟩ := prod_bd a n (by omega) (by omega) n0 n1
    have q0 : 0 ≤ a * n / d := Int.ediv_nonneg t0 (by omega)
    have q1 : a * n / d ≤ a * n := Int.ediv_le_self _ t0
    have r0 : 0 ≤ a * n % d := Int.emod_nonneg _ (by omega)
    have r1 : a * n % d < d := Int.emod_lt_of_pos _ (by omega)
    go_enter Tryz.func151, Tryz.ntmps151
    go_wp2_with (go_at_call 152; refine (implSign a 1 _ (.inr ⟨by omega, rfl⟩)).mono ?_; rintro e w' ⟨rfl, rfl⟩)
    go_quiet (fail)
    go_wp2
    all_goals
      go_ret
      refine ⟨retI ?_, ⟨_, rfl⟩⟩
      refine Eq.trans ?_ (partR_pos (by omega) (by first | exact near_up1 ‹_› | exact near_up2 ‹_› ‹_› | exact near_lo2 ‹_› ‹_› | exact near_lo1 ‹_› ‹_›))
      first | rfl | omega

set_option maxHeartbeats 400000 in
theorem implOk (n : Int) (w : World) :
    Calls Tryz.prog 137 #[.int .i64 n] w fun e w' => e = .returned (.bool (okB n)) ∧ w = w' := by
  by_cases h1 : n < -1000000000000
  · go_enter Tryz.func137, Tryz.ntmps137
    go_wp2
    go_ret
    exact ⟨retB (by rw [okB_no (.inl h1)]; try simp), rfl⟩
  · go_enter Tryz.func137, Tryz.ntmps137
    go_wp2
    go_ret
    exact ⟨retB (by simp [okB]; try omega), rfl⟩

theorem part_cases (a n d : Int) : (partOk a n d = false ∧ partV a n d = 0) ∨ (partOk a n d = true ∧ partV a n d = partR a n d) := by
  cases h : partOk a n d
  · exact .inl ⟨rfl, by simp [partV, h]⟩
  · exact .inr ⟨rfl, by simp [partV, h]⟩

set_option maxHeartbeats 400000 in
theorem implMoneyPart (a n d : Int) (w : World) :
    Calls Tryz.prog 150 #[.int .i64 a, .int .i64 n, .int .i64 d] w fun e w' => e = .returned (.tuple #[.int .i64 (partV a n d), .bool (partOk a n d)]) ∧ Drew w w' := by
  cases ha : okB a with
  | false =>
    have hr : partV a n d = 0 ∧ partOk a n d = false := by simp [partV, partOk, ha]
    have Hr := Lib.hid hr
    have Ha := Lib.hid ha
    clear hr ha
    go_enter Tryz.func150, Tryz.ntmps150
    go_wp2_with (go_at_call 136; refine (implMoneyOk _ _).mono ?_; rintro e w' ⟨rfl, rfl⟩; rw [Ha.out])
    go_ret2
    exact ⟨retIB Hr.out.1.symm Hr.out.2.symm, ⟨0, rfl⟩⟩
  | true =>
    have a1 := okB_yes ha
    obtain ⟨a1, a2⟩ := a1
    have Ha := Lib.hid ha
    clear ha
    by_cases c : n < 0 ∨ 1000000 < n ∨ d < 1 ∨ 1000000 < d
    · have hr : partV a n d = 0 ∧ partOk a n d = false := by
        have : partOk a n d = false := by simp [partOk, Ha.out]; omega
        simp [partV, this]
      have Hr := Lib.hid hr
      clear hr
      by_cases n0 : n < 0
      · go_enter Tryz.func150, Tryz.ntmps150
        go_wp2_with (go_at_call 136; refine (implMoneyOk _ _).mono ?_; rintro e w' ⟨rfl, rfl⟩; rw [Ha.out])
        go_ret2
        exact ⟨retIB Hr.out.1.symm Hr.out.2.symm, ⟨0, rfl⟩⟩
      by_cases n1 : 1000000 < n
      · go_enter Tryz.func150, Tryz.ntmps150
        go_wp2_with (go_at_call 136; refine (implMoneyOk _ _).mono ?_; rintro e w' ⟨rfl, rfl⟩; rw [Ha.out])
        go_ret2
        exact ⟨retIB Hr.out.1.symm Hr.out.2.symm, ⟨0, rfl⟩⟩
      by_cases d0 : d < 1
      · go_enter Tryz.func150, Tryz.ntmps150
        go_wp2_with (go_at_call 136; refine (implMoneyOk _ _).mono ?_; rintro e w' ⟨rfl, rfl⟩; rw [Ha.out])
        go_ret2
        exact ⟨retIB Hr.out.1.symm Hr.out.2.symm, ⟨0, rfl⟩⟩
      · have d1 : 1000000 < d := by omega
        go_enter Tryz.func150, Tryz.ntmps150
        go_wp2_with (go_at_call 136; refine (implMoneyOk _ _).mono ?_; rintro e w' ⟨rfl, rfl⟩; rw [Ha.out])
        go_ret2
        exact ⟨retIB Hr.out.1.symm Hr.out.2.symm, ⟨0, rfl⟩⟩
    · obtain ⟨n0, n1, d0, d1⟩ : 0 ≤ n ∧ n ≤ 1000000 ∧ 1 ≤ d ∧ d ≤ 1000000 := by omega
      clear c
      cases hp : okB (partR a n d) with
      | false =>
        have hr : partV a n d = 0 ∧ partOk a n d = false := by simp [partV, partOk, hp]
        have Hr := Lib.hid hr
        have Hp := Lib.hid hp
        clear hr hp
        go_enter Tryz.func150, Tryz.ntmps150
        go_wp2_with fail
        refine (implMoneyOk _ _).mono ?_
        rintro e w' ⟨rfl, rfl⟩
        rw [Ha.out]
        go_wp2_with fail
        refine (implPart a n d _ a1 a2 n0 n1 d0 d1).mono ?_
        rintro e w' ⟨rfl, q, rfl⟩
        go_wp2_with fail
        refine (implOk _ _).mono ?_
        rintro e w' ⟨rfl, rfl⟩
        rw [Hp.out]
        go_wp2
        go_ret2
        exact ⟨retIB Hr.out.1.symm Hr.out.2.symm, ⟨_, rfl⟩⟩
      | true =>
        have hr : partV a n d = partR a n d ∧ partOk a n d = true := by
          have : partOk a n d = true := by simp [partOk, hp, Ha.out]; omega
          simp [partV, this]
        have Hr := Lib.hid hr
        have Hp := Lib.hid hp
        clear hr hp
        go_enter Tryz.func150, Tryz.ntmps150
        go_wp2_with fail
        refine (implMoneyOk _ _).mono ?_
        rintro e w' ⟨rfl, rfl⟩
        rw [Ha.out]
        go_wp2_with fail
        refine (implPart a n d _ a1 a2 n0 n1 d0 d1).mono ?_
        rintro e w' ⟨rfl, q, rfl⟩
        go_wp2_with fail
        refine (implOk _ _).mono ?_
        rintro e w' ⟨rfl, rfl⟩
        rw [Hp.out]
        go_wp2
        go_ret2
        exact ⟨retIB Hr.out.1.symm Hr.out.2.symm, ⟨_, rfl⟩⟩

set_option maxHeartbeats 800000 in
theorem specMoneyPart (a n d : Int) (w : World) :
    Calls Tryz.prog 68 #[.int .i64 a, .int .i64 n, .int .i64 d] w fun e w' => e = .returned (.tuple #[.int .i64 (partV a n d), .bool (partOk a n d)]) ∧ w = w' := by
  cases ha : okB a with
  | false =>
    have hr : partV a n d = 0 ∧ partOk a n d = false := by simp [partV, partOk, ha]
    have Hr := Lib.hid hr
    have Ha := Lib.hid ha
    clear hr ha
    go_enter Tryz.func68, Tryz.ntmps68
    go_wp2_with fail
    refine (specMoneyOk _ _).mono ?_
    rintro e w' ⟨rfl, rfl⟩
    rw [Ha.out]
    go_wp2
    go_ret2
    exact ⟨retIB Hr.out.1.symm Hr.out.2.symm, rfl⟩
  | true =>
    have a1 := okB_yes ha
    obtain ⟨a1, a2⟩ := a1
    have Ha := Lib.hid ha
    clear ha
    by_cases c : n < 0 ∨ 1000000 < n ∨ d < 1 ∨ 1000000 < d
    · have hr : partV a n d = 0 ∧ partOk a n d = false := by
        have : partOk a n d = false := by simp [partOk, Ha.out]; omega
        simp [partV, this]
      have Hr := Lib.hid hr
      clear hr
      by_cases n0 : n < 0 ∨ 1000000 < n
      · have N0 := Lib.hid n0
        have C0 := Lib.hid c
        clear n0 c
        go_enter Tryz.func68, Tryz.ntmps68
        go_wp2_with fail
        refine (specMoneyOk _ _).mono ?_
        rintro e w' ⟨rfl, rfl⟩
        rw [Ha.out]
        go_wp2_with fail
        refine (specInB _ _ _ _ false (by have := N0.out; simp; omega)).mono ?_
        rintro e w' ⟨rfl, rfl⟩
        go_wp2
        go_ret2
        exact ⟨retIB Hr.out.1.symm Hr.out.2.symm, rfl⟩
      · obtain ⟨n0, n1⟩ : 0 ≤ n ∧ n ≤ 1000000 := by omega
        have d0 : d < 1 ∨ 1000000 < d := by omega
        have D0 := Lib.hid d0
        clear d0 c
        go_enter Tryz.func68, Tryz.ntmps68
        go_wp2_with fail
        refine (specMoneyOk _ _).mono ?_
        rintro e w' ⟨rfl, rfl⟩
        rw [Ha.out]
        go_wp2_with fail
        refine (specInB _ _ _ _ true (by simp; omega)).mono ?_
        rintro e w' ⟨rfl, rfl⟩
        go_wp2_with fail
        refine (specInB _ _ _ _ false (by have := D0.out; simp; omega)).mono ?_
        rintro e w' ⟨rfl, rfl⟩
        go_wp2
        go_ret2
        exact ⟨retIB Hr.out.1.symm Hr.out.2.symm, rfl⟩
    · obtain ⟨n0, n1, d0, d1⟩ : 0 ≤ n ∧ n ≤ 1000000 ∧ 1 ≤ d ∧ d ≤ 1000000 := by omega
      clear c
      by_cases hn : a < 0
      · obtain ⟨t0, t1⟩ := prod_bd (-a) n (by omega) (by omega) n0 n1
        obtain ⟨v0, v1⟩ := near_bd (-a * n) d t0 d0
        have hR : partR a n d = -nearV (-a * n) d := by rw [partR, if_pos hn]
        cases hp : okB (partR a n d) with
        | false =>
          have hr : partV a n d = 0 ∧ partOk a n d = false := by simp [partV, partOk, hp]
          rw [hR] at hp
          have Hr := Lib.hid hr
          have Hp := Lib.hid hp
          clear hr hp hR
          go_enter Tryz.func68, Tryz.ntmps68
          go_wp2_with fail
          refine (specMoneyOk _ _).mono ?_
          rintro e w' ⟨rfl, rfl⟩
          rw [Ha.out]
          go_wp2_with fail
          refine (specInB _ _ _ _ true (by simp; omega)).mono ?_
          rintro e w' ⟨rfl, rfl⟩
          go_wp2_with fail
          refine (specInB _ _ _ _ true (by simp; omega)).mono ?_
          rintro e w' ⟨rfl, rfl⟩
          go_wp2_with fail
          refine (specNear _ _ _ t0 t1 d0 d1).mono ?_
          rintro e w' ⟨rfl, rfl⟩
          go_wp2_with fail
          refine (specMoneyOk _ _).mono ?_
          rintro e w' ⟨rfl, rfl⟩
          rw [Hp.out]
          go_wp2
          go_ret2
          exact ⟨retIB Hr.out.1.symm Hr.out.2.symm, rfl⟩
        | true =>
          have hr : partV a n d = partR a n d ∧ partOk a n d = true := by
            have : partOk a n d = true := by simp [partOk, hp, Ha.out]; omega
            simp [partV, this]
          rw [hR] at hp hr
          have Hr := Lib.hid hr
          have Hp := Lib.hid hp
          clear hr hp hR
          go_enter Tryz.func68, Tryz.ntmps68
          go_wp2_with fail
          refine (specMoneyOk _ _).mono ?_
          rintro e w' ⟨rfl, rfl⟩
          rw [Ha.out]
          go_wp2_with fail
          refine (specInB _ _ _ _ true (by simp; omega)).mono ?_
          rintro e w' ⟨rfl, rfl⟩
          go_wp2_with fail
          refine (specInB _ _ _ _ true (by simp; omega)).mono ?_
          rintro e w' ⟨rfl, rfl⟩
          go_wp2_with fail
          refine (specNear _ _ _ t0 t1 d0 d1).mono ?_
          rintro e w' ⟨rfl, rfl⟩
          go_wp2_with fail
          refine (specMoneyOk _ _).mono ?_
          rintro e w' ⟨rfl, rfl⟩
          rw [Hp.out]
          go_wp2
          go_ret2
          exact ⟨retIB Hr.out.1.symm Hr.out.2.symm, rfl⟩
      · obtain ⟨t0, t1⟩ := prod_bd a n (by omega) (by omega) n0 n1
        obtain ⟨v0, v1⟩ := near_bd (a * n) d t0 d0
        have hR : partR a n d = nearV (a * n) d := by rw [partR, if_neg hn]
        cases hp : okB (partR a n d) with
        | false =>
          have hr : partV a n d = 0 ∧ partOk a n d = false := by simp [partV, partOk, hp]
          rw [hR] at hp
          have Hr := Lib.hid hr
          have Hp := Lib.hid hp
          clear hr hp hR
          go_enter Tryz.func68, Tryz.ntmps68
          go_wp2_with fail
          refine (specMoneyOk _ _).mono ?_
          rintro e w' ⟨rfl, rfl⟩
          rw [Ha.out]
          go_wp2_with fail
          refine (specInB _ _ _ _ true (by simp; omega)).mono ?_
          rintro e w' ⟨rfl, rfl⟩
          go_wp2_with fail
          refine (specInB _ _ _ _ true (by simp; omega)).mono ?_
          rintro e w' ⟨rfl, rfl⟩
          go_wp2_with fail
          refine (specNear _ _ _ t0 t1 d0 d1).mono ?_
          rintro e w' ⟨rfl, rfl⟩
          go_wp2_with fail
          refine (specMoneyOk _ _).mono ?_
          rintro e w' ⟨rfl, rfl⟩
          rw [Hp.out]
          go_wp2
          go_ret2
          exact ⟨retIB Hr.out.1.symm Hr.out.2.symm, rfl⟩
        | true =>
          have hr : partV a n d = partR a n d ∧ partOk a n d = true := by
            have : partOk a n d = true := by simp [partOk, hp, Ha.out]; omega
            simp [partV, this]
          rw [hR] at hp hr
          have Hr := Lib.hid hr
          have Hp := Lib.hid hp
          clear hr hp hR
          go_enter Tryz.func68, Tryz.ntmps68
          go_wp2_with fail
          refine (specMoneyOk _ _).mono ?_
          rintro e w' ⟨rfl, rfl⟩
          rw [Ha.out]
          go_wp2_with fail
          refine (specInB _ _ _ _ true (by simp; omega)).mono ?_
          rintro e w' ⟨rfl, rfl⟩
          go_wp2_with fail
          refine (specInB _ _ _ _ true (by simp; omega)).mono ?_
          rintro e w' ⟨rfl, rfl⟩
          go_wp2_with fail
          refine (specNear _ _ _ t0 t1 d0 d1).mono ?_
          rintro e w' ⟨rfl, rfl⟩
          go_wp2_with fail
          refine (specMoneyOk _ _).mono ?_
          rintro e w' ⟨rfl, rfl⟩
          rw [Hp.out]
          go_wp2
          go_ret2
          exact ⟨retIB Hr.out.1.symm Hr.out.2.symm, rfl⟩

end Go.Proofs.YtembapomapcdfaaGreatDoor
