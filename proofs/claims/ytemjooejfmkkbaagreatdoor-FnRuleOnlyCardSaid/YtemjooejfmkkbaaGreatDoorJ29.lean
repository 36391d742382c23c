/-
  What the model does to numbers: two, a product, a part, a name's number, tiers; its fuel.
  What the model says of a rule: fuel in memory, the kids one behind the other.
-/
import Derived.Test.YtemjooejfmkkbaaGreatDoorJ28
import Derived.Deep.RegionWith
import Derived.Lib.QuietBelow
import Derived.Deep.AppendLies
import Derived.Deep.Cut
namespace Go.Proofs.YtemjooejfmkkbaaGreatDoor
open Go.RowKit
set_option linter.unusedVariables false
set_option linter.unusedSimpArgs false

theorem nm_eq {a b : ByteArray} (h : a = b) : (a.toList == b.toList) = true := by rw [h]; simp
theorem nm_neq {a b : ByteArray} (h : ¬ a = b) : (a.toList == b.toList) = false := by
  rw [beq_eq_false_iff_ne]
  intro e
  rw [Lib.toList_data, Lib.toList_data] at e
  exact h (ByteArray.ext (Array.ext' e))
theorem ret2 {a b c d : Int} (h : a = c) (k : b = d) : Ending.returned (.tuple #[.int .i64 a, .int .i64 b]) = .returned (.tuple #[.int .i64 c, .int .i64 d]) := by rw [h, k]
def Amt (x : Int) : Prop := -1000000000000 ≤ x ∧ x ≤ 1000000000000
theorem mul_okB {x y a b : Int} (hx : 0 ≤ x) (hy : 0 ≤ y) (hab : a * b = x * y ∨ a * b = -(x * y)) : okB (a * b) = decide (x * y ≤ 1000000000000) := by
  have h0 : 0 ≤ x * y := Int.mul_nonneg hx hy
  by_cases h : x * y ≤ 1000000000000
  · rw [decide_eq_true h]; exact okB_mk (by omega)
  · rw [decide_eq_false h]; exact okB_no (by omega)
theorem mul_le {x y : Int} (hx : 0 < x) (h : ¬ 1000000000000 / x < y) : y * x ≤ 1000000000000 := by
  have h2 : y ≤ 1000000000000 / x := by omega
  exact Int.mul_le_of_le_ediv hx h2
set_option maxHeartbeats 4000000 in
theorem specMul (a b : Int) (w : World) (ha : Amt a) (hb : Amt b) :
    Calls Tryz.prog 189 #[.int .i64 a, .int .i64 b] w fun e w' => e = .returned (.tuple #[.int .i64 (orB (a * b) (okB (a * b))).1, .int .i64 (orB (a * b) (okB (a * b))).2]) ∧ w' = w := by
  obtain ⟨a0, a1⟩ := ha
  obtain ⟨b0, b1⟩ := hb
  -- the two without their signs
  obtain ⟨x, hx, hx0, hx1⟩ : ∃ x, (if a < 0 then -a else a) = x ∧ 0 ≤ x ∧ x ≤ 1000000000000 := ⟨_, rfl, by split <;> omega, by split <;> omega⟩
  obtain ⟨y, hy, hy0, hy1⟩ : ∃ y, (if b < 0 then -b else b) = y ∧ 0 ≤ y ∧ y ≤ 1000000000000 := ⟨_, rfl, by split <;> omega, by split <;> omega⟩
  have hab : a * b = x * y ∨ a * b = -(x * y) := by
    rcases Int.lt_or_le a 0 with s | s <;> rcases Int.lt_or_le b 0 with t | t
    · left; rw [← hx, ← hy, if_pos s, if_pos t, Int.neg_mul_neg]
    · right; rw [← hx, ← hy, if_pos s, if_neg (by omega), Int.neg_mul, Int.neg_neg]
    · right; rw [← hx, ← hy, if_neg (by omega), if_pos t, Int.mul_neg, Int.neg_neg]
    · left; rw [← hx, ← hy, if_neg (by omega), if_neg (by omega)]
  have hok := mul_okB hx0 hy0 hab
  have HE : ∀ (v c : Int), (v = (orB (a * b) (okB (a * b))).1 ∧ c = (orB (a * b) (okB (a * b))).2) → Ending.returned (.tuple #[.int .i64 v, .int .i64 c]) = .returned (.tuple #[.int .i64 (orB (a * b) (okB (a * b))).1, .int .i64 (orB (a * b) (okB (a * b))).2]) := fun v c h => ret2 h.1 h.2
  have HEX := Lib.hid HE
  clear HE
  have ea : IntKind.i64.wrap (-a) = -a := IntWalk.i64_in _ (by omega)
  have eb : IntKind.i64.wrap (-b) = -b := IntWalk.i64_in _ (by omega)
  have HA := Lib.hid ea
  have HBb := Lib.hid eb
  have HX := Lib.hid (And.intro hx0 hx1)
  have HY := Lib.hid (And.intro hy0 hy1)
  by_cases big : 0 < x ∧ 1000000000000 / x < y
  · have hbig : 1000000000000 < x * y := by have := div_big big.1 big.2; rw [Int.mul_comm] at this; exact this
    have HB : Hid (okB (a * b) = false) := by show _ = _; rw [hok]; exact decide_eq_false (by omega)
    obtain ⟨g1, g2⟩ := big
    have z1 : decide (0 < x) = true := decide_eq_true g1
    have xz : ¬ x = 0 := by omega
    have qd : Int.tdiv 1000000000000 x = 1000000000000 / x := Int.tdiv_eq_ediv_of_nonneg (by omega)
    have qb0 : 0 ≤ 1000000000000 / x := Int.ediv_nonneg (by omega) (by omega)
    have qb1 : 1000000000000 / x ≤ 1000000000000 := Int.ediv_le_self _ (by omega)
    have qw : IntKind.i64.wrap (Int.tdiv 1000000000000 x) = 1000000000000 / x := by rw [qd]; exact IntWalk.i64_in _ (by omega)
    clear qd qb0 qb1
    have z2 : decide (1000000000000 / x < y) = true := decide_eq_true g2
    clear hok hab hbig a0 a1 b0 b1 hx0 hx1 hy0 hy1 g1 g2 ea eb
    rcases Int.lt_or_le a 0 with s | s <;> rcases Int.lt_or_le b 0 with t | t
    all_goals
      first | (rw [if_pos s] at hx; have ea : IntKind.i64.wrap (-a) = x := by rw [HA.out]; exact hx) | (rw [if_neg (by omega)] at hx; subst hx)
      first | (rw [if_pos t] at hy; have eb : IntKind.i64.wrap (-b) = y := by rw [HBb.out]; exact hy) | (rw [if_neg (by omega)] at hy; subst hy)
      first | (have sa : decide (a < 0) = true := decide_eq_true s) | (have sa : decide (a < 0) = false := decide_eq_false (by omega))
      first | (have sb : decide (b < 0) = true := decide_eq_true t) | (have sb : decide (b < 0) = false := decide_eq_false (by omega))
      have S := Lib.hid s
      have T := Lib.hid t
      try have HX2 := Lib.hid hx
      try have HY2 := Lib.hid hy
      clear s t
      try clear hx
      try clear hy
      go_enter Tryz.func189, Tryz.ntmps189
      go_wp2
      go_ret2
      exact ⟨HEX.out _ _ (by rw [HB.out]; exact ⟨rfl, rfl⟩), rfl⟩
  · have hsm : x * y ≤ 1000000000000 := by
      rcases Int.lt_or_le 0 x with g | g
      · have := mul_le g (fun h => big ⟨g, h⟩); rw [Int.mul_comm]; exact this
      · obtain rfl : x = 0 := by omega
        rw [Int.zero_mul]; omega
    have HB : Hid (okB (a * b) = true) := by show _ = _; rw [hok]; exact decide_eq_true hsm
    have hnn : 0 ≤ x * y := Int.mul_nonneg hx0 hy0
    have em : IntKind.i64.wrap (a * b) = a * b := IntWalk.i64_in _ (by omega)
    have HM : Hid (∀ v c : Int, v = a * b → c = 0 → Ending.returned (.tuple #[.int .i64 v, .int .i64 c]) = .returned (.tuple #[.int .i64 (orB (a * b) (okB (a * b))).1, .int .i64 (orB (a * b) (okB (a * b))).2])) := fun v c h1 h2 => HEX.out _ _ (by rw [HB.out, h1, h2]; exact ⟨rfl, rfl⟩)
    have bg : x ≤ 0 ∨ (0 < x ∧ ¬ 1000000000000 / x < y) := by
      rcases Int.lt_or_le 0 x with g | g
      · exact .inr ⟨g, fun h => big ⟨g, h⟩⟩
      · exact .inl g
    clear hok hab hsm hnn big HB a0 a1 b0 b1 hy0 hy1 ea eb
    rcases bg with g1 | ⟨g1, g2⟩
    · have z1 : decide (0 < x) = false := decide_eq_false (by omega)
      clear g1 hx0 hx1
      rcases Int.lt_or_le a 0 with s | s <;> rcases Int.lt_or_le b 0 with t | t
      all_goals
        first | (rw [if_pos s] at hx; have ea : IntKind.i64.wrap (-a) = x := by rw [HA.out]; exact hx) | (rw [if_neg (by omega)] at hx; subst hx)
        first | (rw [if_pos t] at hy; have eb : IntKind.i64.wrap (-b) = y := by rw [HBb.out]; exact hy) | (rw [if_neg (by omega)] at hy; subst hy)
        first | (have sa : decide (a < 0) = true := decide_eq_true s) | (have sa : decide (a < 0) = false := decide_eq_false (by omega))
        first | (have sb : decide (b < 0) = true := decide_eq_true t) | (have sb : decide (b < 0) = false := decide_eq_false (by omega))
        have S := Lib.hid s
        have T := Lib.hid t
        try have HX2 := Lib.hid hx
        try have HY2 := Lib.hid hy
        clear s t
        try clear hx
        try clear hy
        go_enter Tryz.func189, Tryz.ntmps189
        go_wp2
        go_ret2
        exact ⟨HM.out _ _ rfl rfl, rfl⟩
    · have z1 : decide (0 < x) = true := decide_eq_true g1
      have xz : ¬ x = 0 := by omega
      have qd : Int.tdiv 1000000000000 x = 1000000000000 / x := Int.tdiv_eq_ediv_of_nonneg (by omega)
      have qb0 : 0 ≤ 1000000000000 / x := Int.ediv_nonneg (by omega) (by omega)
      have qb1 : 1000000000000 / x ≤ 1000000000000 := Int.ediv_le_self _ (by omega)
      have qw : IntKind.i64.wrap (Int.tdiv 1000000000000 x) = 1000000000000 / x := by rw [qd]; exact IntWalk.i64_in _ (by omega)
      clear qd qb0 qb1
      have z2 : decide (1000000000000 / x < y) = false := decide_eq_false g2
      clear g1 g2 hx0 hx1
      rcases Int.lt_or_le a 0 with s | s <;> rcases Int.lt_or_le b 0 with t | t
      all_goals
        first | (rw [if_pos s] at hx; have ea : IntKind.i64.wrap (-a) = x := by rw [HA.out]; exact hx) | (rw [if_neg (by omega)] at hx; subst hx)
        first | (rw [if_pos t] at hy; have eb : IntKind.i64.wrap (-b) = y := by rw [HBb.out]; exact hy) | (rw [if_neg (by omega)] at hy; subst hy)
        first | (have sa : decide (a < 0) = true := decide_eq_true s) | (have sa : decide (a < 0) = false := decide_eq_false (by omega))
        first | (have sb : decide (b < 0) = true := decide_eq_true t) | (have sb : decide (b < 0) = false := decide_eq_false (by omega))
        have S := Lib.hid s
        have T := Lib.hid t
        try have HX2 := Lib.hid hx
        try have HY2 := Lib.hid hy
        clear s t
        try clear hx
        try clear hy
        go_enter Tryz.func189, Tryz.ntmps189
        go_wp2
        go_ret2
        exact ⟨HM.out _ _ rfl rfl, rfl⟩
theorem amt_of {x : Int} (h : okB x = true) : Amt x := okB_yes h
set_option maxHeartbeats 4000000 in
theorem specTwo (o a b : Int) (w : World) (ho : 3 ≤ o ∧ o ≤ 8 ∧ o ≠ 6) (ha : Amt a) (hb : Amt b) :
    Calls Tryz.prog 162 #[.int .i64 o, .int .i64 a, .int .i64 b] w fun e w' => e = .returned (.tuple #[.int .i64 (twoV o a b).1, .int .i64 (twoV o a b).2]) ∧ w' = w := by
  obtain ⟨a0, a1⟩ := ha
  obtain ⟨b0, b1⟩ := hb
  have hc : o = 3 ∨ o = 4 ∨ o = 5 ∨ o = 7 ∨ o = 8 := by omega
  clear ho
  rcases hc with rfl | rfl | rfl | rfl | rfl
  · have HE : Hid (twoV 3 a b = orB (a + b) (okB (a + b))) := rfl
    rw [HE.out]
    have e1 : IntKind.i64.wrap (a + b) = a + b := IntWalk.i64_in _ (by omega)
    cases hk : okB (a + b) with
    | false =>
      have HK := Lib.hid hk
      clear hk
      go_enter Tryz.func162, Tryz.ntmps162
      go_wp2_with fail
      refine (specMoneyOk _ _).mono ?_
      rintro e w' ⟨rfl, rfl⟩
      rw [HK.out]
      go_wp2
      go_ret2
      exact ⟨rfl, rfl⟩
    | true =>
      have HK := Lib.hid hk
      clear hk
      go_enter Tryz.func162, Tryz.ntmps162
      go_wp2_with fail
      refine (specMoneyOk _ _).mono ?_
      rintro e w' ⟨rfl, rfl⟩
      rw [HK.out]
      go_wp2
      go_ret2
      exact ⟨rfl, rfl⟩
  · have HE : Hid (twoV 4 a b = orB (a - b) (okB (a - b))) := rfl
    rw [HE.out]
    have e1 : IntKind.i64.wrap (a - b) = a - b := IntWalk.i64_in _ (by omega)
    cases hk : okB (a - b) with
    | false =>
      have HK := Lib.hid hk
      clear hk
      go_enter Tryz.func162, Tryz.ntmps162
      go_wp2_with fail
      refine (specMoneyOk _ _).mono ?_
      rintro e w' ⟨rfl, rfl⟩
      rw [HK.out]
      go_wp2
      go_ret2
      exact ⟨rfl, rfl⟩
    | true =>
      have HK := Lib.hid hk
      clear hk
      go_enter Tryz.func162, Tryz.ntmps162
      go_wp2_with fail
      refine (specMoneyOk _ _).mono ?_
      rintro e w' ⟨rfl, rfl⟩
      rw [HK.out]
      go_wp2
      go_ret2
      exact ⟨rfl, rfl⟩
  · have HE : Hid (twoV 5 a b = orB (a * b) (okB (a * b))) := rfl
    rw [HE.out]
    have HM := Lib.hid (specMul a b w ⟨a0, a1⟩ ⟨b0, b1⟩)
    generalize (orB (a * b) (okB (a * b))).1 = v at *
    generalize (orB (a * b) (okB (a * b))).2 = c at *
    go_enter Tryz.func162, Tryz.ntmps162
    go_wp2_with fail
    refine HM.out.mono ?_
    rintro e w' ⟨rfl, rfl⟩
    go_wp2
    go_ret2
    exact ⟨rfl, rfl⟩
  · have HE : Hid (twoV 7 a b = (if b < a then b else a, 0)) := rfl
    rw [HE.out]
    rcases Int.lt_or_le b a with c | c
    · have z : decide (b < a) = true := decide_eq_true c
      rw [if_pos c]
      have hk := Lib.hid (okB_mk ⟨b0, b1⟩)
      clear c
      go_enter Tryz.func162, Tryz.ntmps162
      go_wp2_with fail
      refine (specMoneyOk _ _).mono ?_
      rintro e w' ⟨rfl, rfl⟩
      rw [hk.out]
      go_wp2
      go_ret2
      exact ⟨rfl, rfl⟩
    · have z : decide (b < a) = false := decide_eq_false (by omega)
      rw [if_neg (by omega)]
      have hk := Lib.hid (okB_mk ⟨a0, a1⟩)
      clear c
      go_enter Tryz.func162, Tryz.ntmps162
      go_wp2_with fail
      refine (specMoneyOk _ _).mono ?_
      rintro e w' ⟨rfl, rfl⟩
      rw [hk.out]
      go_wp2
      go_ret2
      exact ⟨rfl, rfl⟩
  · have HE : Hid (twoV 8 a b = (if a < b then b else a, 0)) := rfl
    rw [HE.out]
    rcases Int.lt_or_le a b with c | c
    · have z : decide (a < b) = true := decide_eq_true c
      rw [if_pos c]
      have hk := Lib.hid (okB_mk ⟨b0, b1⟩)
      clear c
      go_enter Tryz.func162, Tryz.ntmps162
      go_wp2_with fail
      refine (specMoneyOk _ _).mono ?_
      rintro e w' ⟨rfl, rfl⟩
      rw [hk.out]
      go_wp2
      go_ret2
      exact ⟨rfl, rfl⟩
    · have z : decide (a < b) = false := decide_eq_false (by omega)
      rw [if_neg (by omega)]
      have hk := Lib.hid (okB_mk ⟨a0, a1⟩)
      clear c
      go_enter Tryz.func162, Tryz.ntmps162
      go_wp2_with fail
      refine (specMoneyOk _ _).mono ?_
      rintro e w' ⟨rfl, rfl⟩
      rw [hk.out]
      go_wp2
      go_ret2
      exact ⟨rfl, rfl⟩
set_option maxHeartbeats 4000000 in
theorem specPartW (a b c : Int) (w : World) :
    Calls Tryz.prog 160 #[.int .i64 a, .int .i64 b, .int .i64 c] w fun e w' => e = .returned (.tuple #[.int .i64 (partW a b c).1, .int .i64 (partW a b c).2]) ∧ w' = w := by
  by_cases h : c = 0
  · subst h
    have HE : Hid (partW a b 0 = (0, 3)) := rfl
    rw [HE.out]
    go_enter Tryz.func160, Tryz.ntmps160
    go_wp2
    go_ret2
    exact ⟨rfl, rfl⟩
  · have HE : Hid (partW a b c = orB (partV a b c) (partOk a b c)) := by show _ = _; rw [partW, if_neg h]
    rw [HE.out]
    have z : (c == 0) = false := by simpa using h
    have HP := Lib.hid (specMoneyPart a b c w)
    clear h
    generalize partV a b c = v at *
    cases hk : partOk a b c with
    | false =>
      rw [hk] at HP
      clear hk
      go_enter Tryz.func160, Tryz.ntmps160
      go_wp2_with fail
      refine HP.out.mono ?_
      rintro e w' ⟨rfl, rfl⟩
      go_wp2
      go_ret2
      exact ⟨rfl, rfl⟩
    | true =>
      rw [hk] at HP
      clear hk
      go_enter Tryz.func160, Tryz.ntmps160
      go_wp2_with fail
      refine HP.out.mono ?_
      rintro e w' ⟨rfl, rfl⟩
      go_wp2
      go_ret2
      exact ⟨rfl, rfl⟩
/-- Names and their numbers in memory. -/
def PairsN (N : Nat → Prop) (w : World) (a : Option Addr) (len : Nat) (ns : List (ByteArray × Int)) : Prop :=
  len = ns.length ∧ (len = 0 ∨ ∃ b off, a = some ⟨b, off, none⟩ ∧ N b ∧ b < w.heap.size ∧ ∀ i, i < len → w.cell? ⟨b, off + i * 2, none⟩ = some (.string (ns.getD i (⟨#[]⟩, 0)).1) ∧ w.cell? ⟨b, off + i * 2 + 1, none⟩ = some (.int .i64 (ns.getD i (⟨#[]⟩, 0)).2))
theorem PairsN.kept {N : Nat → Prop} {w w' : World} {a : Option Addr} {len : Nat} {ns : List (ByteArray × Int)} (h : PairsN N w a len ns) (s : Same N w w') : PairsN N w' a len ns := by
  obtain ⟨h1, h2⟩ := h
  refine ⟨h1, ?_⟩
  rcases h2 with h | ⟨b, off, k1, k2, k3, k4⟩
  · exact Or.inl h
  · have e := s.2 b k2 k3
    exact Or.inr ⟨b, off, k1, k2, Nat.lt_of_lt_of_le k3 s.1, fun i hi => ⟨(World.cell?_of_block (a := ⟨b, off + i * 2, none⟩) e).trans (k4 i hi).1, (World.cell?_of_block (a := ⟨b, off + i * 2 + 1, none⟩) e).trans (k4 i hi).2⟩⟩
theorem PairsN.mono {N N' : Nat → Prop} (hN : ∀ b, N b → N' b) {w : World} {a : Option Addr} {len : Nat} {ns : List (ByteArray × Int)} (h : PairsN N w a len ns) : PairsN N' w a len ns := by
  obtain ⟨h1, h2⟩ := h
  refine ⟨h1, ?_⟩
  rcases h2 with h | ⟨b, off, k1, k2, k3, k4⟩
  · exact Or.inl h
  · exact Or.inr ⟨b, off, k1, hN b k2, k3, k4⟩
theorem varV_drop {ns : List (ByteArray × Int)} {k : Nat} (h : k < ns.length) {s : ByteArray} : varV (ns.drop k) s = if (ns.getD k (⟨#[]⟩, 0)).1 = s then (if okB (ns.getD k (⟨#[]⟩, 0)).2 then ((ns.getD k (⟨#[]⟩, 0)).2, 0) else (0, 2)) else varV (ns.drop (k + 1)) s := by
  have e : ns.getD k (⟨#[]⟩, 0) = ns[k] := by simp [h]
  rw [List.drop_eq_getElem_cons h, varV, e]
set_option maxHeartbeats 4000000 in
theorem specVar (a : Option Addr) (len cap : Nat) (ns : List (ByteArray × Int)) (s : ByteArray) (w : World) (h : PairsN All w a len ns) (hl : len ≤ 1048576) :
    Calls Tryz.prog 159 #[.slice a len cap, .string s] w fun e w' => e = .returned (.tuple #[.int .i64 (varV ns s).1, .int .i64 (varV ns s).2]) ∧ w' = w := by
  have H := Lib.hid h
  clear h
  go_enter Tryz.func159, Tryz.ntmps159
  go_wp2_with fail
  go_loopw [6] (fun i wr => ∃ k : Nat, k ≤ len ∧ i = .int .i64 k ∧ Hid (varV (ns.drop k) s = varV ns s) ∧ wr = w) (fun i _ => len - (intOf i).toNat)
  case atStart => exact ⟨0, Nat.zero_le _, rfl, by show _ = _; rw [List.drop_zero], rfl⟩
  case round =>
    obtain ⟨k, hk, rfl, hs, rfl⟩ := hrel
    rcases Nat.lt_or_ge k len with hlt | hge
    · obtain ⟨hln, hc | ⟨b, off, rfl, -, hbl, hrow⟩⟩ := H.out
      · omega
      obtain ⟨y0, y1⟩ := hrow k hlt
      have hV := varV_drop (s := s) (show k < ns.length by omega)
      have k1 : (k : Int) < len := by omega
      have k0 : (0 : Int) ≤ k := by omega
      clear hrow hbl
      generalize (ns.getD k (⟨#[]⟩, 0)).1 = nm at *
      generalize (ns.getD k (⟨#[]⟩, 0)).2 = v at *
      by_cases e : nm = s
      · have z := nm_eq e
        have zd : decide (nm = s) = true := decide_eq_true e
        rw [if_pos e] at hV
        have HV := Lib.hid (hs.out.symm.trans hV)
        clear e hV hs
        cases hkb : okB v with
        | true =>
          have HK := Lib.hid hkb
          clear hkb
          go_wp2_with fail
          refine (specMoneyOk _ _).mono ?_
          rintro e w' ⟨rfl, rfl⟩
          rw [HK.out]
          go_wp2
          go_ret2
          exact ⟨ret2 (by rw [HV.out, if_pos HK.out]) (by rw [HV.out, if_pos HK.out]), rfl⟩
        | false =>
          have HK := Lib.hid hkb
          clear hkb
          go_wp2_with fail
          refine (specMoneyOk _ _).mono ?_
          rintro e w' ⟨rfl, rfl⟩
          rw [HK.out]
          go_wp2
          go_ret2
          exact ⟨ret2 (by rw [HV.out, if_neg (by rw [HK.out]; decide)]) (by rw [HV.out, if_neg (by rw [HK.out]; decide)]), rfl⟩
      · have z := nm_neq e
        have zd : decide (nm = s) = false := decide_eq_false e
        rw [if_neg e] at hV
        have HV := Lib.hid hV
        clear e hV
        go_wp2
        go_roundw
        case rel => exact ⟨k + 1, by omega, by go_num, by show _ = _; rw [← hs.out, HV.out], (by first | rfl | trivial)⟩
        case measure => simp [intOf]; omega
    · obtain rfl : k = len := by omega
      have HE : Hid (varV ns s = (0, 4)) := by
        have := hs.out
        rw [List.drop_of_length_le (by have := H.out.1; omega), varV] at this
        exact this.symm
      go_wp2
      go_ret2
      exact ⟨ret2 (by rw [HE.out]) (by rw [HE.out]), rfl⟩
theorem specTierV (ma : Option Addr) (mc : Nat) (ms : List (Int × Int)) (a : Int) (w : World) (h : MarksN All w ma ms.length ms) (hm : MOk (mF ms) (mP ms) ms.length) (a0 : 0 ≤ a) (a1 : a ≤ 1000000000000) :
    Calls Tryz.prog 161 #[.int .i64 a, .slice ma ms.length mc] w fun e w' => e = .returned (.tuple #[.int .i64 (tierV ms a).1, .int .i64 (tierV ms a).2]) ∧ Below w.heap.size w w' := by
  refine (specTiers a ma ms.length mc (mF ms) (mP ms) w (marks_of_N h) hm a0 a1).mono ?_
  rintro e w' ⟨x, c, rfl, hx, hb⟩
  refine ⟨?_, hb⟩
  rw [tierV, if_neg (by omega)]
  rcases hx with ⟨rfl, rfl, h⟩ | ⟨rfl, rfl, h⟩
  · rw [decide_eq_true h]; rfl
  · rw [decide_eq_false (by omega)]; rfl
end Go.Proofs.YtemjooejfmkkbaaGreatDoor

namespace Go.Proofs.YtemjooejfmkkbaaGreatDoor
open Go.RowKit
set_option linter.unusedVariables false
set_option linter.unusedSimpArgs false

/-- What a rule is run by, in memory: the names, and the fuel that is left. -/
def Ev (w : World) (eb : Nat) (na : Option Addr) (nl nc : Nat) (fu : Int) : Prop := eb < w.heap.size ∧ w.cell? ⟨eb, 0, none⟩ = some (.slice na nl nc) ∧ w.cell? ⟨eb, 1, none⟩ = some (.int .i64 fu) ∧ w.frozen? ⟨eb, 1, none⟩ = false
theorem Ev.kept {w w' : World} {eb : Nat} {na : Option Addr} {nl nc : Nat} {fu : Int} (h : Ev w eb na nl nc fu) (hb : Below w.heap.size w w') : Ev w' eb na nl nc fu := by
  have e := hb.block eb h.1
  exact ⟨Nat.lt_of_lt_of_le h.1 hb.size, (World.cell?_of_block (a := ⟨eb, 0, none⟩) e).trans h.2.1, (World.cell?_of_block (a := ⟨eb, 1, none⟩) e).trans h.2.2.1, (World.frozen?_of_block (a := ⟨eb, 1, none⟩) e).trans h.2.2.2⟩
theorem Ev.blk {w w' : World} {eb : Nat} {na : Option Addr} {nl nc : Nat} {fu : Int} (h : Ev w eb na nl nc fu) (e : w'.heap[eb]? = w.heap[eb]?) (hs : w.heap.size ≤ w'.heap.size) : Ev w' eb na nl nc fu :=
  ⟨Nat.lt_of_lt_of_le h.1 hs, (World.cell?_of_block (a := ⟨eb, 0, none⟩) e).trans h.2.1, (World.cell?_of_block (a := ⟨eb, 1, none⟩) e).trans h.2.2.1, (World.frozen?_of_block (a := ⟨eb, 1, none⟩) e).trans h.2.2.2⟩
theorem Ev.set {w : World} {eb : Nat} {na : Option Addr} {nl nc : Nat} {fu g : Int} (h : Ev w eb na nl nc fu) : Ev (w.setCell ⟨eb, 1, none⟩ (.int .i64 g)) eb na nl nc g := by
  obtain ⟨h1, h2, h3, h4⟩ := h
  refine ⟨by simpa [World.setCell] using h1, ?_, ?_, ?_⟩
  · rw [World.cell?_setCell_other (h := by simp)]; exact h2
  · exact World.cell?_setCell_same (h := h3) ..
  · rw [World.frozen?_setCell]; exact h4
def IntsN (N : Nat → Prop) (w : World) (a : Option Addr) (len : Nat) (l : List Int) : Prop :=
  len = l.length ∧ (len = 0 ∨ ∃ b off, a = some ⟨b, off, none⟩ ∧ N b ∧ b < w.heap.size ∧ ∀ i, i < len → w.cell? ⟨b, off + i, none⟩ = some (.int .i64 (l.getD i 0)))
theorem IntsN.kept {N : Nat → Prop} {w w' : World} {a : Option Addr} {len : Nat} {l : List Int} (h : IntsN N w a len l) (s : Same N w w') : IntsN N w' a len l := by
  obtain ⟨h1, h2⟩ := h
  refine ⟨h1, ?_⟩
  rcases h2 with h | ⟨b, off, k1, k2, k3, k4⟩
  · exact Or.inl h
  · have e := s.2 b k2 k3
    exact Or.inr ⟨b, off, k1, k2, Nat.lt_of_lt_of_le k3 s.1, fun i hi => (World.cell?_of_block (a := ⟨b, off + i, none⟩) e).trans (k4 i hi)⟩
theorem ints_own {N : Nat → Prop} {w : World} {base m c : Nat} {a : Option Addr} {l : List Int} (h : w.ownsRow base 3 1 (.slice a m c) m (l.map (Value.int .i64))) (hN : ∀ b, base ≤ b → N b) : IntsN N w a m l := by
  have hl : m = l.length := by have := h.1; simpa using this.symm
  refine ⟨hl, ?_⟩
  rcases Nat.eq_zero_or_pos m with h0 | h0
  · exact Or.inl h0
  · obtain ⟨g, cap, cur, hv, hbg, hcur, -⟩ : ∃ g cap cur, (Value.slice a m c) = .slice (some ⟨g, 0, none⟩) m cap ∧ base ≤ g ∧ w.heap[g]? = some (.cells cur 3 (0, 0)) ∧ True := by
      obtain ⟨-, h | ⟨g, cap, cur, k1, k2, k3, -⟩⟩ := h
      · omega
      · exact ⟨g, cap, cur, k1, k2, k3, trivial⟩
    obtain ⟨rfl, -, rfl⟩ : a = some ⟨g, 0, none⟩ ∧ m = m ∧ c = cap := by simpa using hv
    refine Or.inr ⟨g, 0, rfl, hN g hbg, (Array.getElem?_eq_some_iff.1 hcur).1, fun i hi => ?_⟩
    rw [Nat.zero_add, h.cellAt i (by omega)]
    have hi' : i < l.length := by omega
    simp [hi']
theorem seqF_app : ∀ (l : List (Int → Said)) (g : Int → Said) (fu : Int), (seqF l fu).2.1 = 0 → seqF (l ++ [g]) fu = if (g (seqF l fu).2.2).c = 0 then ((seqF l fu).1 ++ [(g (seqF l fu).2.2).v], 0, (g (seqF l fu).2.2).f) else ((seqF l fu).1, (g (seqF l fu).2.2).c, (g (seqF l fu).2.2).f)
  | [], g, fu, _ => by by_cases h : (g fu).c = 0 <;> simp [seqF, h]
  | x :: r, g, fu, h => by
    rw [seqF] at h
    rw [List.cons_append, seqF]
    split at h
    · rename_i hx
      rw [if_pos hx]
      have hr : seqF (x :: r) fu = ((x fu).v :: (seqF r (x fu).f).1, (seqF r (x fu).f).2) := by rw [seqF, if_pos hx]
      rw [seqF_app r g (x fu).f h, hr]
      split <;> rfl
    · rename_i hx
      exact absurd h hx
theorem seqF_fail : ∀ (l r : List (Int → Said)) (fu : Int), (seqF l fu).2.1 ≠ 0 → (seqF (l ++ r) fu).2 = (seqF l fu).2
  | [], r, fu, h => by simp [seqF] at h
  | x :: l, r, fu, h => by
    rw [seqF] at h
    rw [List.cons_append, seqF, seqF]
    split
    · rename_i hx
      rw [if_pos hx] at h
      exact seqF_fail l r (x fu).f h
    · rfl
theorem take_at {α : Type} (l : List α) (k kk : Nat) (h : k + 1 ≤ kk) : l.take kk = l.take (k + 1) ++ (l.take kk).drop (k + 1) := by
  have := List.take_append_drop (k + 1) (l.take kk)
  rw [List.take_take, Nat.min_eq_left h] at this
  exact this.symm
def KidsP (ns : List (ByteArray × Int)) (ks : List Tr) (kk : Nat) (fu : Int) (eb : Nat) (na : Option Addr) (nl nc : Nat) (w : World) (e : Ending) (w' : World) : Prop :=
  ∃ (a : Option Addr) (m cp : Nat), e = .returned (.tuple #[.slice a m cp, .int .i64 (seqF ((ks.map (evalT ns)).take kk) fu).2.1]) ∧ Hid ((seqF ((ks.map (evalT ns)).take kk) fu).2.1 = 0 → IntsN (fun b => b ≠ eb) w' a m (seqF ((ks.map (evalT ns)).take kk) fu).1 ∧ Ev w' eb na nl nc (seqF ((ks.map (evalT ns)).take kk) fu).2.2) ∧ w.grownBy w' (some eb)
def EvP (ns : List (ByteArray × Int)) (t : Tr) (fu : Int) (eb : Nat) (na : Option Addr) (nl nc : Nat) (w : World) (e : Ending) (w' : World) : Prop :=
  e = .returned (.tuple #[.int .i64 (evalT ns t fu).v, .int .i64 (evalT ns t fu).c]) ∧ Hid ((evalT ns t fu).c = 0 → Ev w' eb na nl nc (evalT ns t fu).f) ∧ w.grownBy w' (some eb)
def EvAt (F : FuncId) (ns : List (ByteArray × Int)) (t : Tr) : Prop := ∀ (f : Fld) (eb : Nat) (fu : Int) (na : Option Addr) (nl nc : Nat) (w : World), TrF (fun b => b ≠ eb) w t f → OkP t → Ev w eb na nl nc fu → PairsN (fun b => b ≠ eb) w na nl ns → nl ≤ 1048576 → 0 ≤ fu → fu ≤ 1000 → Calls Tryz.prog F #[.pointer (some ⟨eb, 0, none⟩), f.val] w (EvP ns t fu eb na nl nc w)
theorem infoIntE : (Tryz.prog.info? 3).map (fun i => (i.zero, i.size, i.bytes)) = some (some (.int .i64 0), 1, 8) := by kernel_rfl
set_option maxRecDepth 20000 in
set_option maxHeartbeats 8000000 in
theorem kidsN' (ns : List (ByteArray × Int)) (o n : Int) (s : ByteArray) (ks : List Tr) (ma : Option Addr) (ml mc : Nat) (ka : Option Addr) (kc : Nat) (kk eb : Nat) (fu : Int) (na : Option Addr) (nl nc : Nat) (w : World) (ih : ∀ t ∈ ks, EvAt 102 ns t) (hk : RowsT (fun b => b ≠ eb) w ka ks.length ks) (hok : ∀ t ∈ ks, OkP t) (hkk : kk ≤ ks.length) (hkl : ks.length ≤ 29) (hev : Ev w eb na nl nc fu) (hp : PairsN (fun b => b ≠ eb) w na nl ns) (hnl : nl ≤ 1048576) (f0 : 0 ≤ fu) (f1 : fu ≤ 1000) :
    Calls Tryz.prog 157 #[.pointer (some ⟨eb, 0, none⟩), .agg #[.int .i64 o, .int .i64 n, .string s, .slice ka ks.length kc, .slice ma ml mc], .int .i64 (kk : Int)] w (KidsP ns ks kk fu eb na nl nc w) := by
  obtain ⟨it0, hi, hz0, hz1, hz2⟩ := info_parts infoIntE
  have hA : Below w.heap.size w (w.alloc (.cells #[.int .i64 o, .int .i64 n, .string s, .slice ka ks.length kc, .slice ma ml mc] 38)) := (Below.refl _ _).alloc (Nat.le_refl _) _
  have hArg : (w.alloc (.cells #[.int .i64 o, .int .i64 n, .string s, .slice ka ks.length kc, .slice ma ml mc] 38)).heap[w.heap.size]? = some (.cells #[.int .i64 o, .int .i64 n, .string s, .slice ka ks.length kc, .slice ma ml mc] 38 (0, 0)) := heap_alloc_new w _
  have HA := Lib.hid hA
  have HArg := Lib.hid hArg
  have HK := Lib.hid hk
  have IH := Lib.hid ih
  have HOK := Lib.hid hok
  have HEV := Lib.hid hev
  have HP := Lib.hid hp
  have heb := hev.1
  have HGL : Hid ((ks.map (evalT ns)).length = ks.length) := by show _ = _; simp
  have HGO : Hid (∀ (g : Int → Said), g ∈ (ks.map (evalT ns)) → ∀ fu, 0 ≤ fu → SOk fu (g fu)) := fun g hg fu hf => by
    obtain ⟨t, ht, rfl⟩ := List.mem_map.1 hg
    exact eval_ok ns _ t (Nat.le_refl _) (hok t ht) fu hf
  have HGI : Hid (∀ k, (h : k < ks.length) → (ks.map (evalT ns))[k]? = some (evalT ns ks[k])) := fun k h => by simp [h]
  clear hA hArg hk ih hok hev hp
  generalize hgs : ks.map (evalT ns) = gs at *
  have HGS := Lib.hid hgs
  clear hgs
  go_enter Tryz.func157, Tryz.ntmps157
  go_wp2_with fail
  have hsz : (w.alloc (.cells #[.int .i64 o, .int .i64 n, .string s, .slice ka ks.length kc, .slice ma ml mc] 38)).heap.size = w.heap.size + 1 := by simp
  generalize hW0 : (w.alloc (.cells #[.int .i64 o, .int .i64 n, .string s, .slice ka ks.length kc, .slice ma ml mc] 38)) = W0 at *
  clear hW0
  have sz0 : w.heap.size < W0.heap.size := (Array.getElem?_eq_some_iff.1 HArg.out).1
  have hown0 : (W0.alloc (.cells #[] 3)).ownsRow W0.heap.size 3 1 (.slice (some ⟨W0.heap.size, 0, none⟩) 0 0) 0 [] := World.ownsRow_made W0 #[] 0 (Nat.le_refl _) (by unfold maxLen; omega) rfl
  have hB1 : Below W0.heap.size W0 (W0.alloc (.cells #[] 3)) := (Below.refl _ _).alloc (Nat.le_refl _) _
  rw [show (Value.slice (some ⟨W0.heap.size, 0, none⟩) 0 0) = .slice (some ⟨w.heap.size + 1, 0, none⟩) 0 0 from by rw [hsz]] at hown0
  have HB1 := Lib.hid hB1
  have HEV1 := Lib.hid ((HEV.out.kept HA.out).kept hB1)
  have HG0 : Hid (w.grownBy (W0.alloc (.cells #[] 3)) (some eb)) := grown_trans (grown_any HA.out) (grown_any hB1)
  have HArg1 := Lib.hid ((hB1.block _ sz0).trans HArg.out)
  clear hB1
  generalize hW1 : W0.alloc (.cells #[] 3) = W1 at *
  clear hW1
  go_loopw [8, 9] (fun vl vi wr => ∃ (k c : Nat) (a : Option Addr) (vs : List Int) (fr : Int), k ≤ kk ∧ vi = .int .i64 k ∧ vl = .slice a k c ∧ wr.ownsRow W0.heap.size 3 1 (.slice a k c) k (vs.map (Value.int .i64)) ∧ Hid (seqF (gs.take k) fu = (vs, 0, fr)) ∧ 0 ≤ fr ∧ fr ≤ fu ∧ Hid (Ev wr eb na nl nc fr) ∧ W0.grownBy wr (some eb)) (fun _ vi _ => kk - (intOf vi).toNat)
  case atStart => exact ⟨0, 0, _, [], fu, Nat.zero_le _, rfl, rfl, hown0, by show _ = _; rw [List.take_zero, seqF], f0, Int.le_refl _, HEV1, grown_any HB1.out⟩
  case round =>
    clear hown0
    obtain ⟨k, c, a, vs, fr, hk, rfl, rfl, hown, hsq, r0, r1, hev, hg⟩ := hrel
    have argr := (hg.block w.heap.size sz0 (by intro e; simp only [Option.some.injEq] at e; omega)).trans HArg.out
    have ca : wr.cell? ⟨w.heap.size, 3, none⟩ = some (Value.slice ka ks.length kc) := by rw [Lib.cell_of_heap argr]; rfl
    have HGW : Hid (w.grownBy wr (some eb)) := grown_trans (grown_any HA.out) hg
    clear argr
    rcases Nat.lt_or_ge k kk with hlt | hge
    · have hlk : k < ks.length := by omega
      have k1 : (k : Int) < kk := by omega
      have k2 : (k : Int) < ks.length := by omega
      have k0 : (0 : Int) ≤ k := by omega
      obtain ⟨b, off, rfl, -, hbl, hrow⟩ := (HK.out.kept (same_ne HGW.out)).cells (by omega)
      obtain ⟨f, ⟨y0, y1, y2, y3, y4⟩, ht⟩ := hrow k hlk
      have hcall := Lib.hid (IH.out ks[k] (List.getElem_mem _) f eb fr na nl nc wr ht (HOK.out _ (List.getElem_mem _)) hev.out (HP.out.kept (same_ne HGW.out)) hnl r0 (by omega))
      have hgl := HGL.out
      have hgk : gs[k]'(by omega) = evalT ns ks[k] := by
        have h1 := HGI.out k hlk
        rw [List.getElem?_eq_getElem (by omega)] at h1
        exact Option.some.inj h1
      have hT : gs.take (k + 1) = gs.take k ++ [evalT ns ks[k]] := by rw [List.take_succ_eq_append_getElem (by omega), hgk]
      have HAP := seqF_app (gs.take k) (evalT ns ks[k]) fu (by rw [hsq.out])
      rw [← hT, hsq.out] at HAP
      have hso := eval_ok ns _ ks[k] (Nat.le_refl _) (HOK.out _ (List.getElem_mem (l := ks) (n := k) hlk)) fr r0
      have HFA : Hid ((evalT ns ks[k] fr).c ≠ 0 → (seqF (gs.take kk) fu).2.1 = (evalT ns ks[k] fr).c) := fun hne => by
        have h1 : (seqF (gs.take (k + 1)) fu).2.1 = (evalT ns ks[k] fr).c := by rw [HAP, if_neg hne]
        rw [take_at gs k kk (by omega), seqF_fail _ _ _ (by rw [h1]; exact hne), h1]
      have HOW := Lib.hid hown
      have HAP2 := Lib.hid HAP
      clear hrow hbl ht HAP hT hgk hgl hown
      unfold EvP at hcall
      obtain ⟨⟨so1, so2⟩, so3, so4, so5⟩ : (Amt (evalT ns ks[k] fr).v) ∧ (0 ≤ (evalT ns ks[k] fr).c ∧ (evalT ns ks[k] fr).c ≤ 4) ∧ (0 ≤ (evalT ns ks[k] fr).f ∧ (evalT ns ks[k] fr).f ≤ fr) ∧ True := ⟨okB_yes hso.1, hso.2.1, hso.2.2.1, trivial⟩
      clear hso
      generalize hsv : evalT ns ks[k] fr = sv at *
      obtain ⟨v, cd, fn⟩ := sv
      dsimp only at *
      have HSV := Lib.hid hsv
      clear hsv
      go_wp2_with fail
      refine hcall.out.mono ?_
      rintro e w2 ⟨rfl, hev2, hg2⟩
      clear y0 y1 y2 y3 y4 ca hcall
      have hown2 : Hid (w2.ownsRow W0.heap.size 3 1 (.slice a k c) k (vs.map (Value.int .i64))) := HOW.out.kept (row := some eb) hg2 (Or.inr (fun e => by have := (HOW.out.lt eb e).1; omega))
      have HG2 := Lib.hid (grown_trans hg hg2)
      have HGW2 := Lib.hid (grown_trans HGW.out hg2)
      have hz2' : W0.heap.size ≤ w2.heap.size := HG2.out.size
      clear hg2 hg
      by_cases hc : cd = 0
      · subst hc
        have HE2 := Lib.hid (hev2.out rfl)
        have HSQ : Hid (seqF (gs.take (k + 1)) fu = (vs ++ [v], 0, fn)) := by show _ = _; rw [HAP2.out, if_pos rfl]
        go_wp2_with (at_builtin; refine wpList_append_lies ?pw ?p1 ?ps ?px 86 ?p2 W0.heap.size 3 it0 (.int .i64 0) 1 8 ?p3 ?p4 ?p5 ?p6 ?p7 ?p8 ?p9 (.slice a k c) k (vs.map (Value.int .i64)) ?p10 ?ph1 ⟨w2.heap.size, 0, none⟩ 1 1 [.int .i64 v] ?p11 ?p12 ?ph2 ?ph3 ?pc1 ?pc2 ?pc3 ?pc4 (w2.heap.size + 1) ?pc5 ?_; (case p1 => rfl); (case p2 => rfl); (case p10 => rfl); (case p11 => rfl); (case ph1 => exact hown2.out.alloc _); (case p3 => exact Tryz.underlying86); (case p4 => exact hi); (case p5 => exact hz0); (case p6 => exact hz1); (case p7 => exact hz2); (case p8 => rfl); (case p9 => decide); (case p12 => rfl); (case ph2 => exact World.news_of_block (heap_alloc_new w2 _)); (case ph3 => intro u hu; simp at hu; subst hu; rfl); (case pc1 => decide); (case pc2 => unfold maxLen; omega); (case pc3 => omega); (case pc4 => simp only [World.size_alloc]; omega); (case pc5 => simp only [World.size_alloc]); intro g2 cp2 wz hownZ hgrowZ hatZ hltZ)
        have hbx : Below w2.heap.size w2 (w2.alloc (.cells #[.int .i64 v] 3)) := (Below.refl _ _).alloc (Nat.le_refl _) _
        have hnb : ∀ i, i < W0.heap.size → some i ≠ (Value.slice a k c).ownBlock := fun i hi e => by have := (hown2.out.lt i e.symm).1; omega
        have hE3 : Hid (Ev wz eb na nl nc fn) := (HE2.out.kept hbx).blk (hgrowZ.block eb (by have := hbx.size; omega) (hnb eb (by omega))) hgrowZ.size
        have hgz : W0.grownBy wz (some eb) := ⟨hgrowZ.os.trans (hbx.os.trans HG2.out.os), hgrowZ.tape.trans (hbx.tape.trans HG2.out.tape), hgrowZ.output.trans (hbx.output.trans HG2.out.output), Nat.le_trans HG2.out.size (Nat.le_trans hbx.size hgrowZ.size), fun i hi hne => (hgrowZ.block i (by have := hbx.size; omega) (hnb i hi)).trans ((hbx.block i (by omega)).trans (HG2.out.block i hi hne))⟩
        have hownV : wz.ownsRow W0.heap.size 3 1 (.slice (some ⟨g2, 0, none⟩) (k + 1) cp2) (k + 1) ((vs ++ [v]).map (Value.int .i64)) := by rw [List.map_append]; exact hownZ
        go_roundw
        case rel => exact ⟨k + 1, cp2, some ⟨g2, 0, none⟩, vs ++ [v], fn, by omega, by go_num, rfl, hownV, HSQ, so4.1, by omega, hE3, hgz⟩
        case measure => simp [intOf]; omega
      · have z : (cd != 0) = true := by simpa using hc
        have HFAc : Hid ((seqF ((ks.map (evalT ns)).take kk) fu).2.1 = cd) := by show _ = _; rw [HGS.out]; exact HFA.out hc
        have HC := Lib.hid hc
        clear hc
        go_wp2
        go_ret2
        refine ⟨a, k, c, ?_, fun h => absurd (HFAc.out.symm.trans h) HC.out, HGW2.out⟩
        show Ending.returned (.tuple #[.slice a k c, .int .i64 cd]) = _
        rw [HFAc.out]
    · obtain rfl : k = kk := by omega
      have HQ : Hid (seqF ((ks.map (evalT ns)).take k) fu = (vs, 0, fr)) := by show _ = _; rw [HGS.out]; exact hsq.out
      have HIN := Lib.hid (ints_own (N := fun b => b ≠ eb) hown (fun b hb => by omega))
      clear hown
      go_wp2
      go_ret2
      refine ⟨a, k, c, ?_, fun _ => by rw [HQ.out]; exact ⟨HIN.out, hev.out⟩, HGW.out⟩
      show Ending.returned (.tuple #[.slice a k c, .int .i64 0]) = _
      rw [HQ.out]
end Go.Proofs.YtemjooejfmkkbaaGreatDoor
