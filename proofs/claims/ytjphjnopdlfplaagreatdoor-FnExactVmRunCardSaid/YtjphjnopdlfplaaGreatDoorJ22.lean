/-
  What the model does to numbers: two, a product, a part, a name's number, tiers; its fuel.
  What the model says of a rule: fuel in memory, the kids one behind the other.
  What the model says of a rule.
  What the program's ops say, each by its row in the table.
-/
import Derived.Test.YtjphjnopdlfplaaGreatDoorJ21
import Derived.Deep.RegionWith
import Derived.Lib.QuietBelow
import Derived.Deep.AppendLies
import Derived.Deep.Cut
import Derived.Test.YtjphjnopdlfplaaGreatDoorJ16
namespace Go.Proofs.YtjphjnopdlfplaaGreatDoor
open Go.RowKit
set_option linter.unusedVariables false
set_option linter.unusedSimpArgs false

theorem nm_eq {a b : ByteArray} (h : a = b) : (a.toList == b.toList) = true := by rw [h]; simp
theorem nm_neq {a b : ByteArray} (h : ¬ a = b) : (a.toList == b.toList) = false := by
  rw [beq_eq_false_iff_ne]
  intro e
  rw [Lib.toList_data, Lib.toList_data] at e
  exact h (ByteArray.ext (Array.ext' e))
theorem ret2 {a b c d : Int} (h : a = c) (k : b = d) : Ending.returned (.tuple #[.int .i64 a, .int .i64 b]) = .returned (.tuple #[.int .i64 c, .int .i64 d]) := by rw [h, k]
def Amt (x : Int) : Prop := -1000000000000 ≤ x ∧ x ≤ 1000000000000
theorem mul_okB {x y a b : Int} (hx : 0 ≤ x) (hy : 0 ≤ y) (hab : a * b = x * y ∨ a * b = -(x * y)) : okB (a * b) = decide (x * y ≤ 1000000000000) := by
  have h0 : 0 ≤ x * y := Int.mul_nonneg hx hy
  by_cases h : x * y ≤ 1000000000000
  · rw [decide_eq_true h]; exact okB_mk (by omega)
  · rw [decide_eq_false h]; exact okB_no (by omega)
theorem mul_le {x y : Int} (hx : 0 < x) (h : ¬ 1000000000000 / x < y) : y * x ≤ 1000000000000 := by
  have h2 : y ≤ 1000000000000 / x := by omega
  exact Int.mul_le_of_le_ediv hx h2
set_option maxHeartbeats 4000000 in
theorem specMul (a b : Int) (w : World) (ha : Amt a) (hb : Amt b) :
    Calls Tryz.prog 116 #[.int .i64 a, .int .i64 b] w fun e w' => e = .returned (.tuple #[.int .i64 (orB (a * b) (okB (a * b))).1, .int .i64 (orB (a * b) (okB (a * b))).2]) ∧ w' = w := by
  obtain ⟨a0, a1⟩ := ha
  obtain ⟨b0, b1⟩ := hb
  -- the two without their signs
  obtain ⟨x, hx, hx0, hx1⟩ : ∃ x, (if a < 0 then -a else a) = x ∧ 0 ≤ x ∧ x ≤ 1000000000000 := ⟨_, rfl, by split <;> omega, by split <;> omega⟩
  obtain ⟨y, hy, hy0, hy1⟩ : ∃ y, (if b < 0 then -b else b) = y ∧ 0 ≤ y ∧ y ≤ 1000000000000 := ⟨_, rfl, by split <;> omega, by split <;> omega⟩
  have hab : a * b = x * y ∨ a * b = -(x * y) := by
    rcases Int.lt_or_le a 0 with s | s <;> rcases Int.lt_or_le b 0 with t | t
    · left; rw [← hx, ← hy, if_pos s, if_pos t, Int.neg_mul_neg]
    · right; rw [← hx, ← hy, if_pos s, if_neg (by omega), Int.neg_mul, Int.neg_neg]
    · right; rw [← hx, ← hy, if_neg (by omega), if_pos t, Int.mul_neg, Int.neg_neg]
    · left; rw [← hx, ← hy, if_neg (by omega), if_neg (by omega)]
  have hok := mul_okB hx0 hy0 hab
  have HE : ∀ (v c : Int), (v = (orB (a * b) (okB (a * b))).1 ∧ c = (orB (a * b) (okB (a * b))).2) → Ending.returned (.tuple #[.int .i64 v, .int .i64 c]) = .returned (.tuple #[.int .i64 (orB (a * b) (okB (a * b))).1, .int .i64 (orB (a * b) (okB (a * b))).2]) := fun v c h => ret2 h.1 h.2
  have HEX := Lib.hid HE
  clear HE
  have ea : IntKind.i64.wrap (-a) = -a := IntWalk.i64_in _ (by omega)
  have eb : IntKind.i64.wrap (-b) = -b := IntWalk.i64_in _ (by omega)
  have HA := Lib.hid ea
  have HBb := Lib.hid eb
  have HX := Lib.hid (And.intro hx0 hx1)
  have HY := Lib.hid (And.intro hy0 hy1)
  by_cases big : 0 < x ∧ 1000000000000 / x < y
  · have hbig : 1000000000000 < x * y := by have := div_big big.1 big.2; rw [Int.mul_comm] at this; exact this
    have HB : Hid (okB (a * b) = false) := by show _ = _; rw [hok]; exact decide_eq_false (by omega)
    obtain ⟨g1, g2⟩ := big
    have z1 : decide (0 < x) = true := decide_eq_true g1
    have xz : ¬ x = 0 := by omega
    have qd : Int.tdiv 1000000000000 x = 1000000000000 / x := Int.tdiv_eq_ediv_of_nonneg (by omega)
    have qb0 : 0 ≤ 1000000000000 / x := Int.ediv_nonneg (by omega) (by omega)
    have qb1 : 1000000000000 / x ≤ 1000000000000 := Int.ediv_le_self _ (by omega)
    have qw : IntKind.i64.wrap (Int.tdiv 1000000000000 x) = 1000000000000 / x := by rw [qd]; exact IntWalk.i64_in _ (by omega)
    clear qd qb0 qb1
    have z2 : decide (1000000000000 / x < y) = true := decide_eq_true g2
    clear hok hab hbig a0 a1 b0 b1 hx0 hx1 hy0 hy1 g1 g2 ea eb
    rcases Int.lt_or_le a 0 with s | s <;> rcases Int.lt_or_le b 0 with t | t
    all_goals
      first | (rw [if_pos s] at hx; have ea : IntKind.i64.wrap (-a) = x := by rw [HA.out]; exact hx) | (rw [if_neg (by omega)] at hx; subst hx)
      first | (rw [if_pos t] at hy; have eb : IntKind.i64.wrap (-b) = y := by rw [HBb.out]; exact hy) | (rw [if_neg (by omega)] at hy; subst hy)
      first | (have sa : decide (a < 0) = true := decide_eq_true s) | (have sa : decide (a < 0) = false := decide_eq_false (by omega))
      first | (have sb : decide (b < 0) = true := decide_eq_true t) | (have sb : decide (b < 0) = false := decide_eq_false (by omega))
      have S := Lib.hid s
      have T := Lib.hid t
      try have HX2 := Lib.hid hx
      try have HY2 := Lib.hid hy
      clear s t
      try clear hx
      try clear hy
      go_enter Tryz.func116, Tryz.ntmps116
      go_wp2
      go_ret2
      exact ⟨HEX.out _ _ (by rw [HB.out]; exact ⟨rfl, rfl⟩), rfl⟩
  · have hsm : x * y ≤ 1000000000000 := by
      rcases Int.lt_or_le 0 x with g | g
      · have := mul_le g (fun h => big ⟨g, h⟩); rw [Int.mul_comm]; exact this
      · obtain rfl : x = 0 := by omega
        rw [Int.zero_mul]; omega
    have HB : Hid (okB (a * b) = true) := by show _ = _; rw [hok]; exact decide_eq_true hsm
    have hnn : 0 ≤ x * y := Int.mul_nonneg hx0 hy0
    have em : IntKind.i64.wrap (a * b) = a * b := IntWalk.i64_in _ (by omega)
    have HM : Hid (∀ v c : Int, v = a * b → c = 0 → Ending.returned (.tuple #[.int .i64 v, .int .i64 c]) = .returned (.tuple #[.int .i64 (orB (a * b) (okB (a * b))).1, .int .i64 (orB (a * b) (okB (a * b))).2])) := fun v c h1 h2 => HEX.out _ _ (by rw [HB.out, h1, h2]; exact ⟨rfl, rfl⟩)
    have bg : x ≤ 0 ∨ (0 < x ∧ ¬ 1000000000000 / x < y) := by
      rcases Int.lt_or_le 0 x with g | g
      · exact .inr ⟨g, fun h => big ⟨g, h⟩⟩
      · exact .inl g
    clear hok hab hsm hnn big HB a0 a1 b0 b1 hy0 hy1 ea eb
    rcases bg with g1 | ⟨g1, g2⟩
    · have z1 : decide (0 < x) = false := decide_eq_false (by omega)
      clear g1 hx0 hx1
      rcases Int.lt_or_le a 0 with s | s <;> rcases Int.lt_or_le b 0 with t | t
      all_goals
        first | (rw [if_pos s] at hx; have ea : IntKind.i64.wrap (-a) = x := by rw [HA.out]; exact hx) | (rw [if_neg (by omega)] at hx; subst hx)
        first | (rw [if_pos t] at hy; have eb : IntKind.i64.wrap (-b) = y := by rw [HBb.out]; exact hy) | (rw [if_neg (by omega)] at hy; subst hy)
        first | (have sa : decide (a < 0) = true := decide_eq_true s) | (have sa : decide (a < 0) = false := decide_eq_false (by omega))
        first | (have sb : decide (b < 0) = true := decide_eq_true t) | (have sb : decide (b < 0) = false := decide_eq_false (by omega))
        have S := Lib.hid s
        have T := Lib.hid t
        try have HX2 := Lib.hid hx
        try have HY2 := Lib.hid hy
        clear s t
        try clear hx
        try clear hy
        go_enter Tryz.func116, Tryz.ntmps116
        go_wp2
        go_ret2
        exact ⟨HM.out _ _ rfl rfl, rfl⟩
    · have z1 : decide (0 < x) = true := decide_eq_true g1
      have xz : ¬ x = 0 := by omega
      have qd : Int.tdiv 1000000000000 x = 1000000000000 / x := Int.tdiv_eq_ediv_of_nonneg (by omega)
      have qb0 : 0 ≤ 1000000000000 / x := Int.ediv_nonneg (by omega) (by omega)
      have qb1 : 1000000000000 / x ≤ 1000000000000 := Int.ediv_le_self _ (by omega)
      have qw : IntKind.i64.wrap (Int.tdiv 1000000000000 x) = 1000000000000 / x := by rw [qd]; exact IntWalk.i64_in _ (by omega)
      clear qd qb0 qb1
      have z2 : decide (1000000000000 / x < y) = false := decide_eq_false g2
      clear g1 g2 hx0 hx1
      rcases Int.lt_or_le a 0 with s | s <;> rcases Int.lt_or_le b 0 with t | t
      all_goals
        first | (rw [if_pos s] at hx; have ea : IntKind.i64.wrap (-a) = x := by rw [HA.out]; exact hx) | (rw [if_neg (by omega)] at hx; subst hx)
        first | (rw [if_pos t] at hy; have eb : IntKind.i64.wrap (-b) = y := by rw [HBb.out]; exact hy) | (rw [if_neg (by omega)] at hy; subst hy)
        first | (have sa : decide (a < 0) = true := decide_eq_true s) | (have sa : decide (a < 0) = false := decide_eq_false (by omega))
        first | (have sb : decide (b < 0) = true := decide_eq_true t) | (have sb : decide (b < 0) = false := decide_eq_false (by omega))
        have S := Lib.hid s
        have T := Lib.hid t
        try have HX2 := Lib.hid hx
        try have HY2 := Lib.hid hy
        clear s t
        try clear hx
        try clear hy
        go_enter Tryz.func116, Tryz.ntmps116
        go_wp2
        go_ret2
        exact ⟨HM.out _ _ rfl rfl, rfl⟩
theorem amt_of {x : Int} (h : okB x = true) : Amt x := okB_yes h
set_option maxHeartbeats 4000000 in
theorem specTwo (o a b : Int) (w : World) (ho : 3 ≤ o ∧ o ≤ 8 ∧ o ≠ 6) (ha : Amt a) (hb : Amt b) :
    Calls Tryz.prog 93 #[.int .i64 o, .int .i64 a, .int .i64 b] w fun e w' => e = .returned (.tuple #[.int .i64 (twoV o a b).1, .int .i64 (twoV o a b).2]) ∧ w' = w := by
  obtain ⟨a0, a1⟩ := ha
  obtain ⟨b0, b1⟩ := hb
  have hc : o = 3 ∨ o = 4 ∨ o = 5 ∨ o = 7 ∨ o = 8 := by omega
  clear ho
  rcases hc with rfl | rfl | rfl | rfl | rfl
  · have HE : Hid (twoV 3 a b = orB (a + b) (okB (a + b))) := rfl
    rw [HE.out]
    have e1 : IntKind.i64.wrap (a + b) = a + b := IntWalk.i64_in _ (by omega)
    cases hk : okB (a + b) with
    | false =>
      have HK := Lib.hid hk
      clear hk
      go_enter Tryz.func93, Tryz.ntmps93
      go_wp2_with fail
      refine (specMoneyOk _ _).mono ?_
      rintro e w' ⟨rfl, rfl⟩
      rw [HK.out]
      go_wp2
      go_ret2
      exact ⟨rfl, rfl⟩
    | true =>
      have HK := Lib.hid hk
      clear hk
      go_enter Tryz.func93, Tryz.ntmps93
      go_wp2_with fail
      refine (specMoneyOk _ _).mono ?_
      rintro e w' ⟨rfl, rfl⟩
      rw [HK.out]
      go_wp2
      go_ret2
      exact ⟨rfl, rfl⟩
  · have HE : Hid (twoV 4 a b = orB (a - b) (okB (a - b))) := rfl
    rw [HE.out]
    have e1 : IntKind.i64.wrap (a - b) = a - b := IntWalk.i64_in _ (by omega)
    cases hk : okB (a - b) with
    | false =>
      have HK := Lib.hid hk
      clear hk
      go_enter Tryz.func93, Tryz.ntmps93
      go_wp2_with fail
      refine (specMoneyOk _ _).mono ?_
      rintro e w' ⟨rfl, rfl⟩
      rw [HK.out]
      go_wp2
      go_ret2
      exact ⟨rfl, rfl⟩
    | true =>
      have HK := Lib.hid hk
      clear hk
      go_enter Tryz.func93, Tryz.ntmps93
      go_wp2_with fail
      refine (specMoneyOk _ _).mono ?_
      rintro e w' ⟨rfl, rfl⟩
      rw [HK.out]
      go_wp2
      go_ret2
      exact ⟨rfl, rfl⟩
  · have HE : Hid (twoV 5 a b = orB (a * b) (okB (a * b))) := rfl
    rw [HE.out]
    have HM := Lib.hid (specMul a b w ⟨a0, a1⟩ ⟨b0, b1⟩)
    generalize (orB (a * b) (okB (a * b))).1 = v at *
    generalize (orB (a * b) (okB (a * b))).2 = c at *
    go_enter Tryz.func93, Tryz.ntmps93
    go_wp2_with fail
    refine HM.out.mono ?_
    rintro e w' ⟨rfl, rfl⟩
    go_wp2
    go_ret2
    exact ⟨rfl, rfl⟩
  · have HE : Hid (twoV 7 a b = (if b < a then b else a, 0)) := rfl
    rw [HE.out]
    rcases Int.lt_or_le b a with c | c
    · have z : decide (b < a) = true := decide_eq_true c
      rw [if_pos c]
      have hk := Lib.hid (okB_mk ⟨b0, b1⟩)
      clear c
      go_enter Tryz.func93, Tryz.ntmps93
      go_wp2_with fail
      refine (specMoneyOk _ _).mono ?_
      rintro e w' ⟨rfl, rfl⟩
      rw [hk.out]
      go_wp2
      go_ret2
      exact ⟨rfl, rfl⟩
    · have z : decide (b < a) = false := decide_eq_false (by omega)
      rw [if_neg (by omega)]
      have hk := Lib.hid (okB_mk ⟨a0, a1⟩)
      clear c
      go_enter Tryz.func93, Tryz.ntmps93
      go_wp2_with fail
      refine (specMoneyOk _ _).mono ?_
      rintro e w' ⟨rfl, rfl⟩
      rw [hk.out]
      go_wp2
      go_ret2
      exact ⟨rfl, rfl⟩
  · have HE : Hid (twoV 8 a b = (if a < b then b else a, 0)) := rfl
    rw [HE.out]
    rcases Int.lt_or_le a b with c | c
    · have z : decide (a < b) = true := decide_eq_true c
      rw [if_pos c]
      have hk := Lib.hid (okB_mk ⟨b0, b1⟩)
      clear c
      go_enter Tryz.func93, Tryz.ntmps93
      go_wp2_with fail
      refine (specMoneyOk _ _).mono ?_
      rintro e w' ⟨rfl, rfl⟩
      rw [hk.out]
      go_wp2
      go_ret2
      exact ⟨rfl, rfl⟩
    · have z : decide (a < b) = false := decide_eq_false (by omega)
      rw [if_neg (by omega)]
      have hk := Lib.hid (okB_mk ⟨a0, a1⟩)
      clear c
      go_enter Tryz.func93, Tryz.ntmps93
      go_wp2_with fail
      refine (specMoneyOk _ _).mono ?_
      rintro e w' ⟨rfl, rfl⟩
      rw [hk.out]
      go_wp2
      go_ret2
      exact ⟨rfl, rfl⟩
set_option maxHeartbeats 4000000 in
theorem specPartW (a b c : Int) (w : World) :
    Calls Tryz.prog 91 #[.int .i64 a, .int .i64 b, .int .i64 c] w fun e w' => e = .returned (.tuple #[.int .i64 (partW a b c).1, .int .i64 (partW a b c).2]) ∧ w' = w := by
  by_cases h : c = 0
  · subst h
    have HE : Hid (partW a b 0 = (0, 3)) := rfl
    rw [HE.out]
    go_enter Tryz.func91, Tryz.ntmps91
    go_wp2
    go_ret2
    exact ⟨rfl, rfl⟩
  · have HE : Hid (partW a b c = orB (partV a b c) (partOk a b c)) := by show _ = _; rw [partW, if_neg h]
    rw [HE.out]
    have z : (c == 0) = false := by simpa using h
    have HP := Lib.hid (specMoneyPart a b c w)
    clear h
    generalize partV a b c = v at *
    cases hk : partOk a b c with
    | false =>
      rw [hk] at HP
      clear hk
      go_enter Tryz.func91, Tryz.ntmps91
      go_wp2_with fail
      refine HP.out.mono ?_
      rintro e w' ⟨rfl, rfl⟩
      go_wp2
      go_ret2
      exact ⟨rfl, rfl⟩
    | true =>
      rw [hk] at HP
      clear hk
      go_enter Tryz.func91, Tryz.ntmps91
      go_wp2_with fail
      refine HP.out.mono ?_
      rintro e w' ⟨rfl, rfl⟩
      go_wp2
      go_ret2
      exact ⟨rfl, rfl⟩
/-- Names and their numbers in memory. -/
def PairsN (N : Nat → Prop) (w : World) (a : Option Addr) (len : Nat) (ns : List (ByteArray × Int)) : Prop :=
  len = ns.length ∧ (len = 0 ∨ ∃ b off, a = some ⟨b, off, none⟩ ∧ N b ∧ b < w.heap.size ∧ ∀ i, i < len → w.cell? ⟨b, off + i * 2, none⟩ = some (.string (ns.getD i (⟨#[]⟩, 0)).1) ∧ w.cell? ⟨b, off + i * 2 + 1, none⟩ = some (.int .i64 (ns.getD i (⟨#[]⟩, 0)).2))
theorem PairsN.kept {N : Nat → Prop} {w w' : World} {a : Option Addr} {len : Nat} {ns : List (ByteArray × Int)} (h : PairsN N w a len ns) (s : Same N w w') : PairsN N w' a len ns := by
  obtain ⟨h1, h2⟩ := h
  refine ⟨h1, ?_⟩
  rcases h2 with h | ⟨b, off, k1, k2, k3, k4⟩
  · exact Or.inl h
  · have e := s.2 b k2 k3
    exact Or.inr ⟨b, off, k1, k2, Nat.lt_of_lt_of_le k3 s.1, fun i hi => ⟨(World.cell?_of_block (a := ⟨b, off + i * 2, none⟩) e).trans (k4 i hi).1, (World.cell?_of_block (a := ⟨b, off + i * 2 + 1, none⟩) e).trans (k4 i hi).2⟩⟩
theorem PairsN.mono {N N' : Nat → Prop} (hN : ∀ b, N b → N' b) {w : World} {a : Option Addr} {len : Nat} {ns : List (ByteArray × Int)} (h : PairsN N w a len ns) : PairsN N' w a len ns := by
  obtain ⟨h1, h2⟩ := h
  refine ⟨h1, ?_⟩
  rcases h2 with h | ⟨b, off, k1, k2, k3, k4⟩
  · exact Or.inl h
  · exact Or.inr ⟨b, off, k1, hN b k2, k3, k4⟩
theorem varV_drop {ns : List (ByteArray × Int)} {k : Nat} (h : k < ns.length) {s : ByteArray} : varV (ns.drop k) s = if (ns.getD k (⟨#[]⟩, 0)).1 = s then (if okB (ns.getD k (⟨#[]⟩, 0)).2 then ((ns.getD k (⟨#[]⟩, 0)).2, 0) else (0, 2)) else varV (ns.drop (k + 1)) s := by
  have e : ns.getD k (⟨#[]⟩, 0) = ns[k] := by simp [h]
  rw [List.drop_eq_getElem_cons h, varV, e]
set_option maxHeartbeats 4000000 in
theorem specVar (a : Option Addr) (len cap : Nat) (ns : List (ByteArray × Int)) (s : ByteArray) (w : World) (h : PairsN All w a len ns) (hl : len ≤ 1048576) :
    Calls Tryz.prog 90 #[.slice a len cap, .string s] w fun e w' => e = .returned (.tuple #[.int .i64 (varV ns s).1, .int .i64 (varV ns s).2]) ∧ w' = w := by
  have H := Lib.hid h
  clear h
  go_enter Tryz.func90, Tryz.ntmps90
  go_wp2_with fail
  go_loopw [6] (fun i wr => ∃ k : Nat, k ≤ len ∧ i = .int .i64 k ∧ Hid (varV (ns.drop k) s = varV ns s) ∧ wr = w) (fun i _ => len - (intOf i).toNat)
  case atStart => exact ⟨0, Nat.zero_le _, rfl, by show _ = _; rw [List.drop_zero], rfl⟩
  case round =>
    obtain ⟨k, hk, rfl, hs, rfl⟩ := hrel
    rcases Nat.lt_or_ge k len with hlt | hge
    · obtain ⟨hln, hc | ⟨b, off, rfl, -, hbl, hrow⟩⟩ := H.out
      · omega
      obtain ⟨y0, y1⟩ := hrow k hlt
      have hV := varV_drop (s := s) (show k < ns.length by omega)
      have k1 : (k : Int) < len := by omega
      have k0 : (0 : Int) ≤ k := by omega
      clear hrow hbl
      generalize (ns.getD k (⟨#[]⟩, 0)).1 = nm at *
      generalize (ns.getD k (⟨#[]⟩, 0)).2 = v at *
      by_cases e : nm = s
      · have z := nm_eq e
        have zd : decide (nm = s) = true := decide_eq_true e
        rw [if_pos e] at hV
        have HV := Lib.hid (hs.out.symm.trans hV)
        clear e hV hs
        cases hkb : okB v with
        | true =>
          have HK := Lib.hid hkb
          clear hkb
          go_wp2_with fail
          refine (specMoneyOk _ _).mono ?_
          rintro e w' ⟨rfl, rfl⟩
          rw [HK.out]
          go_wp2
          go_ret2
          exact ⟨ret2 (by rw [HV.out, if_pos HK.out]) (by rw [HV.out, if_pos HK.out]), rfl⟩
        | false =>
          have HK := Lib.hid hkb
          clear hkb
          go_wp2_with fail
          refine (specMoneyOk _ _).mono ?_
          rintro e w' ⟨rfl, rfl⟩
          rw [HK.out]
          go_wp2
          go_ret2
          exact ⟨ret2 (by rw [HV.out, if_neg (by rw [HK.out]; decide)]) (by rw [HV.out, if_neg (by rw [HK.out]; decide)]), rfl⟩
      · have z := nm_neq e
        have zd : decide (nm = s) = false := decide_eq_false e
        rw [if_neg e] at hV
        have HV := Lib.hid hV
        clear e hV
        go_wp2
        go_roundw
        case rel => exact ⟨k + 1, by omega, by go_num, by show _ = _; rw [← hs.out, HV.out], (by first | rfl | trivial)⟩
        case measure => simp [intOf]; omega
    · obtain rfl : k = len := by omega
      have HE : Hid (varV ns s = (0, 4)) := by
        have := hs.out
        rw [List.drop_of_length_le (by have := H.out.1; omega), varV] at this
        exact this.symm
      go_wp2
      go_ret2
      exact ⟨ret2 (by rw [HE.out]) (by rw [HE.out]), rfl⟩
theorem specTierV (ma : Option Addr) (mc : Nat) (ms : List (Int × Int)) (a : Int) (w : World) (h : MarksN All w ma ms.length ms) (hm : MOk (mF ms) (mP ms) ms.length) (a0 : 0 ≤ a) (a1 : a ≤ 1000000000000) :
    Calls Tryz.prog 92 #[.int .i64 a, .slice ma ms.length mc] w fun e w' => e = .returned (.tuple #[.int .i64 (tierV ms a).1, .int .i64 (tierV ms a).2]) ∧ Below w.heap.size w w' := by
  refine (specTiers a ma ms.length mc (mF ms) (mP ms) w (marks_of_N h) hm a0 a1).mono ?_
  rintro e w' ⟨x, c, rfl, hx, hb⟩
  refine ⟨?_, hb⟩
  rw [tierV, if_neg (by omega)]
  rcases hx with ⟨rfl, rfl, h⟩ | ⟨rfl, rfl, h⟩
  · rw [decide_eq_true h]; rfl
  · rw [decide_eq_false (by omega)]; rfl
end Go.Proofs.YtjphjnopdlfplaaGreatDoor

namespace Go.Proofs.YtjphjnopdlfplaaGreatDoor
open Go.RowKit
set_option linter.unusedVariables false
set_option linter.unusedSimpArgs false

/-- What a rule is run by, in memory: the names, and the fuel that is left. -/
def Ev (w : World) (eb : Nat) (na : Option Addr) (nl nc : Nat) (fu : Int) : Prop := eb < w.heap.size ∧ w.cell? ⟨eb, 0, none⟩ = some (.slice na nl nc) ∧ w.cell? ⟨eb, 1, none⟩ = some (.int .i64 fu) ∧ w.frozen? ⟨eb, 1, none⟩ = false
theorem Ev.kept {w w' : World} {eb : Nat} {na : Option Addr} {nl nc : Nat} {fu : Int} (h : Ev w eb na nl nc fu) (hb : Below w.heap.size w w') : Ev w' eb na nl nc fu := by
  have e := hb.block eb h.1
  exact ⟨Nat.lt_of_lt_of_le h.1 hb.size, (World.cell?_of_block (a := ⟨eb, 0, none⟩) e).trans h.2.1, (World.cell?_of_block (a := ⟨eb, 1, none⟩) e).trans h.2.2.1, (World.frozen?_of_block (a := ⟨eb, 1, none⟩) e).trans h.2.2.2⟩
theorem Ev.blk {w w' : World} {eb : Nat} {na : Option Addr} {nl nc : Nat} {fu : Int} (h : Ev w eb na nl nc fu) (e : w'.heap[eb]? = w.heap[eb]?) (hs : w.heap.size ≤ w'.heap.size) : Ev w' eb na nl nc fu :=
  ⟨Nat.lt_of_lt_of_le h.1 hs, (World.cell?_of_block (a := ⟨eb, 0, none⟩) e).trans h.2.1, (World.cell?_of_block (a := ⟨eb, 1, none⟩) e).trans h.2.2.1, (World.frozen?_of_block (a := ⟨eb, 1, none⟩) e).trans h.2.2.2⟩
theorem Ev.set {w : World} {eb : Nat} {na : Option Addr} {nl nc : Nat} {fu g : Int} (h : Ev w eb na nl nc fu) : Ev (w.setCell ⟨eb, 1, none⟩ (.int .i64 g)) eb na nl nc g := by
  obtain ⟨h1, h2, h3, h4⟩ := h
  refine ⟨by simpa [World.setCell] using h1, ?_, ?_, ?_⟩
  · rw [World.cell?_setCell_other (h := by simp)]; exact h2
  · exact World.cell?_setCell_same (h := h3) ..
  · rw [World.frozen?_setCell]; exact h4
def IntsN (N : Nat → Prop) (w : World) (a : Option Addr) (len : Nat) (l : List Int) : Prop :=
  len = l.length ∧ (len = 0 ∨ ∃ b off, a = some ⟨b, off, none⟩ ∧ N b ∧ b < w.heap.size ∧ ∀ i, i < len → w.cell? ⟨b, off + i, none⟩ = some (.int .i64 (l.getD i 0)))
theorem IntsN.kept {N : Nat → Prop} {w w' : World} {a : Option Addr} {len : Nat} {l : List Int} (h : IntsN N w a len l) (s : Same N w w') : IntsN N w' a len l := by
  obtain ⟨h1, h2⟩ := h
  refine ⟨h1, ?_⟩
  rcases h2 with h | ⟨b, off, k1, k2, k3, k4⟩
  · exact Or.inl h
  · have e := s.2 b k2 k3
    exact Or.inr ⟨b, off, k1, k2, Nat.lt_of_lt_of_le k3 s.1, fun i hi => (World.cell?_of_block (a := ⟨b, off + i, none⟩) e).trans (k4 i hi)⟩
theorem ints_own {N : Nat → Prop} {w : World} {base m c : Nat} {a : Option Addr} {l : List Int} (h : w.ownsRow base 3 1 (.slice a m c) m (l.map (Value.int .i64))) (hN : ∀ b, base ≤ b → N b) : IntsN N w a m l := by
  have hl : m = l.length := by have := h.1; simpa using this.symm
  refine ⟨hl, ?_⟩
  rcases Nat.eq_zero_or_pos m with h0 | h0
  · exact Or.inl h0
  · obtain ⟨g, cap, cur, hv, hbg, hcur, -⟩ : ∃ g cap cur, (Value.slice a m c) = .slice (some ⟨g, 0, none⟩) m cap ∧ base ≤ g ∧ w.heap[g]? = some (.cells cur 3 (0, 0)) ∧ True := by
      obtain ⟨-, h | ⟨g, cap, cur, k1, k2, k3, -⟩⟩ := h
      · omega
      · exact ⟨g, cap, cur, k1, k2, k3, trivial⟩
    obtain ⟨rfl, -, rfl⟩ : a = some ⟨g, 0, none⟩ ∧ m = m ∧ c = cap := by simpa using hv
    refine Or.inr ⟨g, 0, rfl, hN g hbg, (Array.getElem?_eq_some_iff.1 hcur).1, fun i hi => ?_⟩
    rw [Nat.zero_add, h.cellAt i (by omega)]
    have hi' : i < l.length := by omega
    simp [hi']
theorem seqF_app : ∀ (l : List (Int → Said)) (g : Int → Said) (fu : Int), (seqF l fu).2.1 = 0 → seqF (l ++ [g]) fu = if (g (seqF l fu).2.2).c = 0 then ((seqF l fu).1 ++ [(g (seqF l fu).2.2).v], 0, (g (seqF l fu).2.2).f) else ((seqF l fu).1, (g (seqF l fu).2.2).c, (g (seqF l fu).2.2).f)
  | [], g, fu, _ => by by_cases h : (g fu).c = 0 <;> simp [seqF, h]
  | x :: r, g, fu, h => by
    rw [seqF] at h
    rw [List.cons_append, seqF]
    split at h
    · rename_i hx
      rw [if_pos hx]
      have hr : seqF (x :: r) fu = ((x fu).v :: (seqF r (x fu).f).1, (seqF r (x fu).f).2) := by rw [seqF, if_pos hx]
      rw [seqF_app r g (x fu).f h, hr]
      split <;> rfl
    · rename_i hx
      exact absurd h hx
theorem seqF_fail : ∀ (l r : List (Int → Said)) (fu : Int), (seqF l fu).2.1 ≠ 0 → (seqF (l ++ r) fu).2 = (seqF l fu).2
  | [], r, fu, h => by simp [seqF] at h
  | x :: l, r, fu, h => by
    rw [seqF] at h
    rw [List.cons_append, seqF, seqF]
    split
    · rename_i hx
      rw [if_pos hx] at h
      exact seqF_fail l r (x fu).f h
    · rfl
theorem take_at {α : Type} (l : List α) (k kk : Nat) (h : k + 1 ≤ kk) : l.take kk = l.take (k + 1) ++ (l.take kk).drop (k + 1) := by
  have := List.take_append_drop (k + 1) (l.take kk)
  rw [List.take_take, Nat.min_eq_left h] at this
  exact this.symm
def KidsP (ns : List (ByteArray × Int)) (ks : List Tr) (kk : Nat) (fu : Int) (eb : Nat) (na : Option Addr) (nl nc : Nat) (w : World) (e : Ending) (w' : World) : Prop :=
  ∃ (a : Option Addr) (m cp : Nat), e = .returned (.tuple #[.slice a m cp, .int .i64 (seqF ((ks.map (evalT ns)).take kk) fu).2.1]) ∧ Hid ((seqF ((ks.map (evalT ns)).take kk) fu).2.1 = 0 → IntsN (fun b => b ≠ eb) w' a m (seqF ((ks.map (evalT ns)).take kk) fu).1 ∧ Ev w' eb na nl nc (seqF ((ks.map (evalT ns)).take kk) fu).2.2) ∧ w.grownBy w' (some eb)
def EvP (ns : List (ByteArray × Int)) (t : Tr) (fu : Int) (eb : Nat) (na : Option Addr) (nl nc : Nat) (w : World) (e : Ending) (w' : World) : Prop :=
  e = .returned (.tuple #[.int .i64 (evalT ns t fu).v, .int .i64 (evalT ns t fu).c]) ∧ Hid ((evalT ns t fu).c = 0 → Ev w' eb na nl nc (evalT ns t fu).f) ∧ w.grownBy w' (some eb)
def EvAt (F : FuncId) (ns : List (ByteArray × Int)) (t : Tr) : Prop := ∀ (f : Fld) (eb : Nat) (fu : Int) (na : Option Addr) (nl nc : Nat) (w : World), TrF (fun b => b ≠ eb) w t f → OkP t → Ev w eb na nl nc fu → PairsN (fun b => b ≠ eb) w na nl ns → nl ≤ 1048576 → 0 ≤ fu → fu ≤ 1000 → Calls Tryz.prog F #[.pointer (some ⟨eb, 0, none⟩), f.val] w (EvP ns t fu eb na nl nc w)
theorem infoIntE : (Tryz.prog.info? 3).map (fun i => (i.zero, i.size, i.bytes)) = some (some (.int .i64 0), 1, 8) := by kernel_rfl
end Go.Proofs.YtjphjnopdlfplaaGreatDoor

namespace Go.Proofs.YtjphjnopdlfplaaGreatDoor
open Go.RowKit
set_option linter.unusedVariables false
set_option linter.unusedSimpArgs false

theorem IntsN.cells {N : Nat → Prop} {w : World} {a : Option Addr} {len : Nat} {l : List Int} (h : IntsN N w a len l) (h0 : 0 < len) : ∃ b off, a = some ⟨b, off, none⟩ ∧ b < w.heap.size ∧ ∀ i, i < len → w.cell? ⟨b, off + i, none⟩ = some (.int .i64 (l.getD i 0)) := by
  obtain ⟨-, h2 | ⟨b, off, k1, -, k3, k4⟩⟩ := h
  · omega
  · exact ⟨b, off, k1, k3, k4⟩
theorem evalN {ns : List (ByteArray × Int)} {o n : Int} {s : ByteArray} {ks : List Tr} {ms : List (Int × Int)} {fu : Int} {q : List Int × Int × Int} (hq : seqF ((ks.map (evalT ns)).take (if o = 9 then 2 else ks.length)) fu = q) :
    evalT ns (.node o n s ks ms) fu = if q.2.1 ≠ 0 then ⟨0, q.2.1, q.2.2⟩ else if q.2.2 < 1 + ms.length then ⟨0, 1, q.2.2⟩
      else if o = 9 then (if q.1.getD 0 0 < q.1.getD 1 0 then (ks.map (evalT ns)).getD 2 noSaid else (ks.map (evalT ns)).getD 3 noSaid) (q.2.2 - (1 + ms.length))
      else ⟨(doR ns o n s ms q.1).1, (doR ns o n s ms q.1).2, q.2.2 - (1 + ms.length)⟩ := by
  have hl : (ks.map (evalT ns)).length = ks.length := by simp
  rw [evalT, evalFs_eq]
  unfold nodeV
  rw [hl, hq]
end Go.Proofs.YtjphjnopdlfplaaGreatDoor

namespace Go.Proofs.YtjphjnopdlfplaaGreatDoor
open Go.RowKit
set_option linter.unusedVariables false
set_option linter.unusedSimpArgs false

def saysF (o : Int) : FuncId := if o = 1 then 154 else if o = 2 then 156 else if o = 3 then 161 else if o = 4 then 163 else if o = 5 then 165 else if o = 6 then 168 else if o = 7 then 173 else if o = 8 then 175 else if o = 9 then 178 else 182
theorem meth_says (o : Int) (h : 1 ≤ o ∧ o ≤ 10) (w : World) : (method 313 (opT o) (.agg #[]) "loop.example/stopover/impl.says").run Tryz.prog w = .ok (saysF o, .agg #[]) w := by
  rcases ops10 h with rfl | rfl | rfl | rfl | rfl | rfl | rfl | rfl | rfl | rfl <;> kernel_rfl
theorem call_says (o : Int) (h : 1 ≤ o ∧ o ≤ 10) (args : Array Value) (w : World) : (callFunc (saysF o) args).run Tryz.prog w = .ok (.enter (saysF o) args) w := by
  rcases ops10 h with rfl | rfl | rfl | rfl | rfl | rfl | rfl | rfl | rfl | rfl <;> kernel_rfl
set_option maxHeartbeats 4000000 in
theorem implOrBig (x : Int) (b : Bool) (w : World) :
    Calls Tryz.prog 158 #[.int .i64 x, .bool b] w fun e w' => e = .returned (.tuple #[.int .i64 (orB x b).1, .int .i64 (orB x b).2]) ∧ w' = w := by
  cases b with
  | true =>
    go_enter Tryz.func158, Tryz.ntmps158
    go_wp2
    go_ret2
    exact ⟨rfl, rfl⟩
  | false =>
    go_enter Tryz.func158, Tryz.ntmps158
    go_wp2
    go_ret2
    exact ⟨rfl, rfl⟩
theorem two_boxes (w : World) (a b : Obj) : Below w.heap.size w ((w.alloc a).alloc b) := ((Below.refl _ _).alloc (Nat.le_refl _) _).alloc (by simp only [World.size_alloc]; omega) _
theorem add_orB {a b : Int} (ha : okB a = true) (hb : okB b = true) : orB (addV a b) (addOk a b) = orB (a + b) (okB (a + b)) := by
  unfold addV addOk
  rw [ha, hb]
  simp only [Bool.true_and]
  cases okB (a + b) <;> rfl
theorem okB_neg {a : Int} (h : okB a = true) : okB (-a) = true := by have := okB_yes h; exact okB_mk (by omega)
theorem part_orB (a b c : Int) : orB (partV a b c) (partOk a b c) = orB (partV a b c) (partOk a b c) := rfl
def SaysP (r : Int × Int) (w : World) (e : Ending) (w' : World) : Prop := e = .returned (.tuple #[.int .i64 r.1, .int .i64 r.2]) ∧ Below w.heap.size w w'
set_option maxRecDepth 20000 in
set_option maxHeartbeats 8000000 in
theorem saysNum (o n : Int) (s : ByteArray) (ka : Option Addr) (kl kc : Nat) (ma : Option Addr) (ml mc : Nat) (p : Value) (w : World) (v : Value) :
    Calls Tryz.prog 154 #[.agg #[], p, .agg #[.int .i64 o, .int .i64 n, .string s, .slice ka kl kc, .slice ma ml mc], v] w (SaysP (n, 0) w) := by
  have hA : Below w.heap.size w ((w.alloc (.cells #[] 146)).alloc (.cells #[.int .i64 o, .int .i64 n, .string s, .slice ka kl kc, .slice ma ml mc] 39)) := two_boxes w _ _
  have HA := Lib.hid hA
  clear hA
  go_enter Tryz.func154, Tryz.ntmps154
  go_wp2
  go_ret2
  exact ⟨rfl, HA.out⟩
set_option maxRecDepth 20000 in
set_option maxHeartbeats 8000000 in
theorem saysAdd (o n : Int) (s : ByteArray) (ka : Option Addr) (kl kc : Nat) (ma : Option Addr) (ml mc : Nat) (p : Value) (w : World) (b off len cp : Nat) (hl : 1 < len) (x y : Int) (hb : b < w.heap.size) (hx : w.cell? ⟨b, off, none⟩ = some (.int .i64 x)) (hy : w.cell? ⟨b, off + 1, none⟩ = some (.int .i64 y)) (ax : okB x = true) (ay : okB y = true) :
    Calls Tryz.prog 161 #[.agg #[], p, .agg #[.int .i64 o, .int .i64 n, .string s, .slice ka kl kc, .slice ma ml mc], .slice (some ⟨b, off, none⟩) len cp] w (SaysP (orB (x + y) (okB (x + y))) w) := by
  have hA : Below w.heap.size w ((w.alloc (.cells #[] 152)).alloc (.cells #[.int .i64 o, .int .i64 n, .string s, .slice ka kl kc, .slice ma ml mc] 39)) := two_boxes w _ _
  have HA := Lib.hid hA
  have x0 := (hA.cell (p := ⟨b, off, none⟩) hb).trans hx
  have x1 := (hA.cell (p := ⟨b, off + 1, none⟩) hb).trans hy
  have l0 : (0 : Int) < len := by omega
  have l1 : (1 : Int) < len := by omega
  have l0n : 0 < len := by omega
  have lx := okB_yes ax
  have ly := okB_yes ay
  clear hA hx hy
  have HR : Hid (orB (addV x y) (addOk x y) = (orB (x + y) (okB (x + y)))) := by show _ = _; rw [add_orB ax ay]
  have e1 : IntKind.i64.wrap (-y) = -y := IntWalk.i64_in _ (by omega)
  have hC := Lib.hid (fun W => (implMoneyAdd x y W).mono fun e w' h => And.intro h.1 h.2.symm)
  have hO := Lib.hid (fun W => implOrBig (addV x y) (addOk x y) W)
  generalize hv : (orB (addV x y) (addOk x y)) = r at *
  generalize addV x y = av at *
  generalize addOk x y = ao at *
  obtain ⟨r1, r2⟩ := r
  dsimp only at *
  have HV := Lib.hid hv
  clear hv
  go_enter Tryz.func161, Tryz.ntmps161
  go_wp2_with fail
  go_quiet (first | (go_at_call 31; exact Calls.quiet_of_same (hC.out _)) | (go_at_call 158; exact Calls.quiet_of_same (hO.out _)))
  go_wp2
  go_ret2
  refine ⟨?_, HA.out.trans ((belowN (Below.refl _ _) nq).mono HA.out.size)⟩
  rw [← HR.out]
  rfl
set_option maxRecDepth 20000 in
set_option maxHeartbeats 8000000 in
theorem saysSub (o n : Int) (s : ByteArray) (ka : Option Addr) (kl kc : Nat) (ma : Option Addr) (ml mc : Nat) (p : Value) (w : World) (b off len cp : Nat) (hl : 1 < len) (x y : Int) (hb : b < w.heap.size) (hx : w.cell? ⟨b, off, none⟩ = some (.int .i64 x)) (hy : w.cell? ⟨b, off + 1, none⟩ = some (.int .i64 y)) (ax : okB x = true) (ay : okB y = true) :
    Calls Tryz.prog 163 #[.agg #[], p, .agg #[.int .i64 o, .int .i64 n, .string s, .slice ka kl kc, .slice ma ml mc], .slice (some ⟨b, off, none⟩) len cp] w (SaysP (orB (x - y) (okB (x - y))) w) := by
  have hA : Below w.heap.size w ((w.alloc (.cells #[] 153)).alloc (.cells #[.int .i64 o, .int .i64 n, .string s, .slice ka kl kc, .slice ma ml mc] 39)) := two_boxes w _ _
  have HA := Lib.hid hA
  have x0 := (hA.cell (p := ⟨b, off, none⟩) hb).trans hx
  have x1 := (hA.cell (p := ⟨b, off + 1, none⟩) hb).trans hy
  have l0 : (0 : Int) < len := by omega
  have l1 : (1 : Int) < len := by omega
  have l0n : 0 < len := by omega
  have lx := okB_yes ax
  have ly := okB_yes ay
  clear hA hx hy
  have HR : Hid (orB (addV x (-y)) (addOk x (-y)) = (orB (x - y) (okB (x - y)))) := by show _ = _; rw [add_orB ax (okB_neg ay)]; rw [show x + -y = x - y from by omega]
  have e1 : IntKind.i64.wrap (-y) = -y := IntWalk.i64_in _ (by omega)
  have hC := Lib.hid (fun W => (implMoneyAdd x (-y) W).mono fun e w' h => And.intro h.1 h.2.symm)
  have hO := Lib.hid (fun W => implOrBig (addV x (-y)) (addOk x (-y)) W)
  generalize hv : (orB (addV x (-y)) (addOk x (-y))) = r at *
  generalize addV x (-y) = av at *
  generalize addOk x (-y) = ao at *
  obtain ⟨r1, r2⟩ := r
  dsimp only at *
  have HV := Lib.hid hv
  clear hv
  go_enter Tryz.func163, Tryz.ntmps163
  go_wp2_with fail
  go_quiet (first | (go_at_call 31; exact Calls.quiet_of_same (hC.out _)) | (go_at_call 158; exact Calls.quiet_of_same (hO.out _)))
  go_wp2
  go_ret2
  refine ⟨?_, HA.out.trans ((belowN (Below.refl _ _) nq).mono HA.out.size)⟩
  rw [← HR.out]
  rfl
set_option maxRecDepth 20000 in
set_option maxHeartbeats 8000000 in
theorem saysMin (o n : Int) (s : ByteArray) (ka : Option Addr) (kl kc : Nat) (ma : Option Addr) (ml mc : Nat) (p : Value) (w : World) (b off len cp : Nat) (hl : 1 < len) (x y : Int) (hb : b < w.heap.size) (hx : w.cell? ⟨b, off, none⟩ = some (.int .i64 x)) (hy : w.cell? ⟨b, off + 1, none⟩ = some (.int .i64 y)) (ax : okB x = true) (ay : okB y = true) :
    Calls Tryz.prog 173 #[.agg #[], p, .agg #[.int .i64 o, .int .i64 n, .string s, .slice ka kl kc, .slice ma ml mc], .slice (some ⟨b, off, none⟩) len cp] w (SaysP (if y < x then y else x, 0) w) := by
  have hA : Below w.heap.size w ((w.alloc (.cells #[] 156)).alloc (.cells #[.int .i64 o, .int .i64 n, .string s, .slice ka kl kc, .slice ma ml mc] 39)) := two_boxes w _ _
  have HA := Lib.hid hA
  have x0 := (hA.cell (p := ⟨b, off, none⟩) hb).trans hx
  have x1 := (hA.cell (p := ⟨b, off + 1, none⟩) hb).trans hy
  have l0 : (0 : Int) < len := by omega
  have l1 : (1 : Int) < len := by omega
  have l0n : 0 < len := by omega
  have lx := okB_yes ax
  have ly := okB_yes ay
  clear hA hx hy
  have HM : Hid (min x y = if y < x then y else x) := by
    show _ = _
    rcases Int.lt_or_le y x with c | c
    · rw [if_pos c, Int.min_eq_right (by omega)]
    · rw [if_neg (by omega), Int.min_eq_left c]
  generalize (if y < x then y else x) = r at HM ⊢
  go_enter Tryz.func173, Tryz.ntmps173
  go_wp2_with fail
  go_quiet (fail)
  go_wp2
  go_ret2
  refine ⟨?_, HA.out.trans ((belowN (Below.refl _ _) nq).mono HA.out.size)⟩
  show Ending.returned (.tuple #[.int .i64 (min x y), .int .i64 0]) = _
  rw [HM.out]
set_option maxRecDepth 20000 in
set_option maxHeartbeats 8000000 in
theorem saysMax (o n : Int) (s : ByteArray) (ka : Option Addr) (kl kc : Nat) (ma : Option Addr) (ml mc : Nat) (p : Value) (w : World) (b off len cp : Nat) (hl : 1 < len) (x y : Int) (hb : b < w.heap.size) (hx : w.cell? ⟨b, off, none⟩ = some (.int .i64 x)) (hy : w.cell? ⟨b, off + 1, none⟩ = some (.int .i64 y)) (ax : okB x = true) (ay : okB y = true) :
    Calls Tryz.prog 175 #[.agg #[], p, .agg #[.int .i64 o, .int .i64 n, .string s, .slice ka kl kc, .slice ma ml mc], .slice (some ⟨b, off, none⟩) len cp] w (SaysP (if x < y then y else x, 0) w) := by
  have hA : Below w.heap.size w ((w.alloc (.cells #[] 157)).alloc (.cells #[.int .i64 o, .int .i64 n, .string s, .slice ka kl kc, .slice ma ml mc] 39)) := two_boxes w _ _
  have HA := Lib.hid hA
  have x0 := (hA.cell (p := ⟨b, off, none⟩) hb).trans hx
  have x1 := (hA.cell (p := ⟨b, off + 1, none⟩) hb).trans hy
  have l0 : (0 : Int) < len := by omega
  have l1 : (1 : Int) < len := by omega
  have l0n : 0 < len := by omega
  have lx := okB_yes ax
  have ly := okB_yes ay
  clear hA hx hy
  have HM : Hid (max x y = if x < y then y else x) := by
    show _ = _
    rcases Int.lt_or_le x y with c | c
    · rw [if_pos c, Int.max_eq_right (by omega)]
    · rw [if_neg (by omega), Int.max_eq_left c]
  generalize (if x < y then y else x) = r at HM ⊢
  go_enter Tryz.func175, Tryz.ntmps175
  go_wp2_with fail
  go_quiet (fail)
  go_wp2
  go_ret2
  refine ⟨?_, HA.out.trans ((belowN (Below.refl _ _) nq).mono HA.out.size)⟩
  show Ending.returned (.tuple #[.int .i64 (max x y), .int .i64 0]) = _
  rw [HM.out]
theorem abs_max (a : Int) : max a (-a) = if a < 0 then -a else a := by
  rcases Int.lt_or_le a 0 with c | c
  · rw [if_pos c, Int.max_eq_right (by omega)]
  · rw [if_neg (by omega), Int.max_eq_left (by omega)]
theorem le_div_iff {x y : Int} (hy : 0 < y) : decide (x ≤ 1000000000000 / y) = decide (x * y ≤ 1000000000000) := by
  refine decide_eq_decide.2 ⟨fun h => ?_, fun h => ?_⟩
  · exact Int.mul_le_of_le_ediv hy h
  · exact Int.le_ediv_of_mul_le hy h
set_option maxRecDepth 20000 in
set_option maxHeartbeats 8000000 in
theorem saysMul (o n : Int) (s : ByteArray) (ka : Option Addr) (kl kc : Nat) (ma : Option Addr) (ml mc : Nat) (p : Value) (w : World) (b off len cp : Nat) (hl : 1 < len) (x y : Int) (hb : b < w.heap.size) (hx : w.cell? ⟨b, off, none⟩ = some (.int .i64 x)) (hy : w.cell? ⟨b, off + 1, none⟩ = some (.int .i64 y)) (ax : okB x = true) (ay : okB y = true) :
    Calls Tryz.prog 165 #[.agg #[], p, .agg #[.int .i64 o, .int .i64 n, .string s, .slice ka kl kc, .slice ma ml mc], .slice (some ⟨b, off, none⟩) len cp] w (SaysP (orB (x * y) (okB (x * y))) w) := by
  have hA : Below w.heap.size w ((w.alloc (.cells #[] 154)).alloc (.cells #[.int .i64 o, .int .i64 n, .string s, .slice ka kl kc, .slice ma ml mc] 39)) := two_boxes w _ _
  have HA := Lib.hid hA
  have x0 := (hA.cell (p := ⟨b, off, none⟩) hb).trans hx
  have x1 := (hA.cell (p := ⟨b, off + 1, none⟩) hb).trans hy
  have l0 : (0 : Int) < len := by omega
  have l1 : (1 : Int) < len := by omega
  have l0n : 0 < len := by omega
  have lx := okB_yes ax
  have ly := okB_yes ay
  clear hA hx hy
  obtain ⟨mx, hmx, mx0, mx1⟩ : ∃ m, max x (-x) = m ∧ 0 ≤ m ∧ m ≤ 1000000000000 := ⟨_, rfl, by rw [abs_max]; split <;> omega, by rw [abs_max]; split <;> omega⟩
  obtain ⟨my, hmy, my0, my1⟩ : ∃ m, max y (-y) = m ∧ 0 ≤ m ∧ m ≤ 1000000000000 := ⟨_, rfl, by rw [abs_max]; split <;> omega, by rw [abs_max]; split <;> omega⟩
  have hab : x * y = mx * my ∨ x * y = -(mx * my) := by
    rw [abs_max] at hmx hmy
    rcases Int.lt_or_le x 0 with s | s <;> rcases Int.lt_or_le y 0 with t | t
    · left; rw [← hmx, ← hmy, if_pos s, if_pos t, Int.neg_mul_neg]
    · right; rw [← hmx, ← hmy, if_pos s, if_neg (by omega), Int.neg_mul, Int.neg_neg]
    · right; rw [← hmx, ← hmy, if_neg (by omega), if_pos t, Int.mul_neg, Int.neg_neg]
    · left; rw [← hmx, ← hmy, if_neg (by omega), if_neg (by omega)]
  have hok := mul_okB mx0 my0 hab
  have enx : IntKind.i64.wrap (-x) = -x := IntWalk.i64_in _ (by omega)
  have eny : IntKind.i64.wrap (-y) = -y := IntWalk.i64_in _ (by omega)
  have HOK : Hid (∀ (pv : Int) (bv : Bool), bv = okB (x * y) → (okB (x * y) = true → pv = x * y) → orB pv bv = orB (x * y) (okB (x * y))) := fun pv bv h1 h2 => by
    subst h1
    unfold orB
    split
    · rename_i h; rw [h2 h]
    · rfl
  obtain ⟨pv, hpv, hpv2⟩ : ∃ pv, IntKind.i64.wrap (x * y) = pv ∧ (okB (x * y) = true → pv = x * y) := ⟨_, rfl, fun h => IntWalk.i64_in _ (by have := okB_yes h; omega)⟩
  have hO := Lib.hid (fun b W => implOrBig pv b W)
  have HPV := Lib.hid hpv2
  by_cases hy0 : y = 0
  · subst hy0
    have HRR : Hid (orB 0 true = orB (x * 0) (okB (x * 0))) := by show _ = _; rw [Int.mul_zero]; rfl
    rw [← HRR.out]
    clear hab hok hmx hmy hpv2 hpv
    have hO := Lib.hid (fun W => implOrBig 0 true W)
    go_enter Tryz.func165, Tryz.ntmps165
    go_wp2_with fail
    go_quiet (fail)
    go_wp2_with fail
    refine (hO.out _).mono ?_
    rintro e w' ⟨rfl, rfl⟩
    go_wp2
    go_ret2
    exact ⟨rfl, HA.out.trans ((belowN (Below.refl _ _) nq).mono HA.out.size)⟩
  · have z : (y == 0) = false := by simpa using hy0
    have hmyp : 0 < my := by
      rw [abs_max] at hmy
      split at hmy <;> omega
    have hd := le_div_iff (x := mx) hmyp
    rw [← hok] at hd
    have qd : Int.tdiv 1000000000000 my = 1000000000000 / my := Int.tdiv_eq_ediv_of_nonneg (by omega)
    have qb0 : 0 ≤ 1000000000000 / my := Int.ediv_nonneg (by omega) (by omega)
    have qb1 : 1000000000000 / my ≤ 1000000000000 := Int.ediv_le_self _ (by omega)
    have qw : IntKind.i64.wrap (Int.tdiv 1000000000000 my) = 1000000000000 / my := by rw [qd]; exact IntWalk.i64_in _ (by omega)
    have xz : ¬ my = 0 := by omega
    obtain ⟨bv, hbv⟩ : ∃ bv, decide (mx ≤ 1000000000000 / my) = bv := ⟨_, rfl⟩
    have HB : Hid (bv = okB (x * y)) := by show _ = _; rw [← hd, hbv]
    have HRR := Lib.hid (HOK.out pv bv HB.out HPV.out)
    rw [← HRR.out]
    clear hab hok hd qd qb0 qb1 hmyp mx0 mx1 my0 my1 hpv2 hy0 lx ly
    go_enter Tryz.func165, Tryz.ntmps165
    go_wp2_with fail
    go_quiet (fail)
    go_wp2_with fail
    refine (hO.out bv _).mono ?_
    rintro e w' ⟨rfl, rfl⟩
    go_wp2
    go_ret2
    exact ⟨rfl, HA.out.trans ((belowN (Below.refl _ _) nq).mono HA.out.size)⟩
end Go.Proofs.YtjphjnopdlfplaaGreatDoor
