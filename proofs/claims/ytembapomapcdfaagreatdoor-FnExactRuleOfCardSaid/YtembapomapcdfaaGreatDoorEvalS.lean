/-
  What the model does to numbers: two, a product, a part, a name's number, tiers; its fuel.
-/
import Derived.Test.YtembapomapcdfaaGreatDoorEval
import Derived.Deep.RegionWith
import Derived.Lib.QuietBelow
namespace Go.Proofs.YtembapomapcdfaaGreatDoor
open Go.RowKit
set_option linter.unusedVariables false
set_option linter.unusedSimpArgs false

theorem nm_eq {a b : ByteArray} (h : a = b) : (a.toList == b.toList) = true := by rw [h]; simp
theorem nm_neq {a b : ByteArray} (h : ¬ a = b) : (a.toList == b.toList) = false := by
  rw [beq_eq_false_iff_ne]
  intro e
  rw [Lib.toList_data, Lib.toList_data] at e
  exact h (ByteArray.ext (Array.ext' e))
theorem ret2 {a b c d : Int} (h : a = c) (k : b = d) : Ending.returned (.tuple #[.int .i64 a, .int .i64 b]) = .returned (.tuple #[.int .i64 c, .int .i64 d]) := by rw [h, k]
def Amt (x : Int) : Prop := -1000000000000 ≤ x ∧ x ≤ 1000000000000
theorem mul_okB {x y a b : Int} (hx : 0 ≤ x) (hy : 0 ≤ y) (hab : a * b = x * y ∨ a * b = -(x * y)) : okB (a * b) = decide (x * y ≤ 1000000000000) := by
  have h0 : 0 ≤ x * y := Int.mul_nonneg hx hy
  by_cases h : x * y ≤ 1000000000000
  · rw [decide_eq_true h]; exact okB_mk (by omega)
  · rw [decide_eq_false h]; exact okB_no (by omega)
theorem mul_le {x y : Int} (hx : 0 < x) (h : ¬ 1000000000000 / x < y) : y * x ≤ 1000000000000 := by
  have h2 : y ≤ 1000000000000 / x := by omega
  exact Int.mul_le_of_le_ediv hx h2
set_option maxHeartbeats 4000000 in
theorem specMul (a b : Int) (w : World) (ha : Amt a) (hb : Amt b) :
    Calls Tryz.prog 69 #[.int .i64 a, .int .i64 b] w fun e w' => e = .returned (.tuple #[.int .i64 (orB (a * b) (okB (a * b))).1, .int .i64 (orB (a * b) (okB (a * b))).2]) ∧ w' = w := by
  obtain ⟨a0, a1⟩ := ha
  obtain ⟨b0, b1⟩ := hb
  -- the two without their signs
  obtain ⟨x, hx, hx0, hx1⟩ : ∃ x, (if a < 0 then -a else a) = x ∧ 0 ≤ x ∧ x ≤ 1000000000000 := ⟨_, rfl, by split <;> omega, by split <;> omega⟩
  obtain ⟨y, hy, hy0, hy1⟩ : ∃ y, (if b < 0 then -b else b) = y ∧ 0 ≤ y ∧ y ≤ 1000000000000 := ⟨_, rfl, by split <;> omega, by split <;> omega⟩
  have hab : a * b = x * y ∨ a * b = -(x * y) := by
    rcases Int.lt_or_le a 0 with s | s <;> rcases Int.lt_or_le b 0 with t | t
    · left; rw [← hx, ← hy, if_pos s, if_pos t, Int.neg_mul_neg]
    · right; rw [← hx, ← hy, if_pos s, if_neg (by omega), Int.neg_mul, Int.neg_neg]
    · right; rw [← hx, ← hy, if_neg (by omega), if_pos t, Int.mul_neg, Int.neg_neg]
    · left; rw [← hx, ← hy, if_neg (by omega), if_neg (by omega)]
  have hok := mul_okB hx0 hy0 hab
  have HE : ∀ (v c : Int), (v = (orB (a * b) (okB (a * b))).1 ∧ c = (orB (a * b) (okB (a * b))).2) → Ending.returned (.tuple #[.int .i64 v, .int .i64 c]) = .returned (.tuple #[.int .i64 (orB (a * b) (okB (a * b))).1, .int .i64 (orB (a * b) (okB (a * b))).2]) := fun v c h => ret2 h.1 h.2
  have HEX := Lib.hid HE
  clear HE
  have ea : IntKind.i64.wrap (-a) = -a := IntWalk.i64_in _ (by omega)
  have eb : IntKind.i64.wrap (-b) = -b := IntWalk.i64_in _ (by omega)
  have HA := Lib.hid ea
  have HBb := Lib.hid eb
  have HX := Lib.hid (And.intro hx0 hx1)
  have HY := Lib.hid (And.intro hy0 hy1)
  by_cases big : 0 < x ∧ 1000000000000 / x < y
  · have hbig : 1000000000000 < x * y := by have := div_big big.1 big.2; rw [Int.mul_comm] at this; exact this
    have HB : Hid (okB (a * b) = false) := by show _ = _; rw [hok]; exact decide_eq_false (by omega)
    obtain ⟨g1, g2⟩ := big
    have z1 : decide (0 < x) = true := decide_eq_true g1
    have xz : ¬ x = 0 := by omega
    have qd : Int.tdiv 1000000000000 x = 1000000000000 / x := Int.tdiv_eq_ediv_of_nonneg (by omega)
    have qb0 : 0 ≤ 1000000000000 / x := Int.ediv_nonneg (by omega) (by omega)
    have qb1 : 1000000000000 / x ≤ 1000000000000 := Int.ediv_le_self _ (by omega)
    have qw : IntKind.i64.wrap (Int.tdiv 1000000000000 x) = 1000000000000 / x := by rw [qd]; exact IntWalk.i64_in _ (by omega)
    clear qd qb0 qb1
    have z2 : decide (1000000000000 / x < y) = true := decide_eq_true g2
    clear hok hab hbig a0 a1 b0 b1 hx0 hx1 hy0 hy1 g1 g2 ea eb
    rcases Int.lt_or_le a 0 with s | s <;> rcases Int.lt_or_le b 0 with t | t
    all_goals
      first | (rw [if_pos s] at hx; have ea : IntKind.i64.wrap (-a) = x := by rw [HA.out]; exact hx) | (rw [if_neg (by omega)] at hx; subst hx)
      first | (rw [if_pos t] at hy; have eb : IntKind.i64.wrap (-b) = y := by rw [HBb.out]; exact hy) | (rw [if_neg (by omega)] at hy; subst hy)
      first | (have sa : decide (a < 0) = true := decide_eq_true s) | (have sa : decide (a < 0) = false := decide_eq_false (by omega))
      first | (have sb : decide (b < 0) = true := decide_eq_true t) | (have sb : decide (b < 0) = false := decide_eq_false (by omega))
      have S := Lib.hid s
      have T := Lib.hid t
      try have HX2 := Lib.hid hx
      try have HY2 := Lib.hid hy
      clear s t
      try clear hx
      try clear hy
      go_enter Tryz.func69, Tryz.ntmps69
      go_wp2
      go_ret2
      exact ⟨HEX.out _ _ (by rw [HB.out]; exact ⟨rfl, rfl⟩), rfl⟩
  · have hsm : x * y ≤ 1000000000000 := by
      rcases Int.lt_or_le 0 x with g | g
      · have := mul_le g (fun h => big ⟨g, h⟩); rw [Int.mul_comm]; exact this
      · obtain rfl : x = 0 := by omega
        rw [Int.zero_mul]; omega
    have HB : Hid (okB (a * b) = true) := by show _ = _; rw [hok]; exact decide_eq_true hsm
    have hnn : 0 ≤ x * y := Int.mul_nonneg hx0 hy0
    have em : IntKind.i64.wrap (a * b) = a * b := IntWalk.i64_in _ (by omega)
    have HM : Hid (∀ v c : Int, v = a * b → c = 0 → Ending.returned (.tuple #[.int .i64 v, .int .i64 c]) = .returned (.tuple #[.int .i64 (orB (a * b) (okB (a * b))).1, .int .i64 (orB (a * b) (okB (a * b))).2])) := fun v c h1 h2 => HEX.out _ _ (by rw [HB.out, h1, h2]; exact ⟨rfl, rfl⟩)
    have bg : x ≤ 0 ∨ (0 < x ∧ ¬ 1000000000000 / x < y) := by
      rcases Int.lt_or_le 0 x with g | g
      · exact .inr ⟨g, fun h => big ⟨g, h⟩⟩
      · exact .inl g
    clear hok hab hsm hnn big HB a0 a1 b0 b1 hy0 hy1 ea eb
    rcases bg with g1 | ⟨g1, g2⟩
    · have z1 : decide (0 < x) = false := decide_eq_false (by omega)
      clear g1 hx0 hx1
      rcases Int.lt_or_le a 0 with s | s <;> rcases Int.lt_or_le b 0 with t | t
      all_goals
        first | (rw [if_pos s] at hx; have ea : IntKind.i64.wrap (-a) = x := by rw [HA.out]; exact hx) | (rw [if_neg (by omega)] at hx; subst hx)
        first | (rw [if_pos t] at hy; have eb : IntKind.i64.wrap (-b) = y := by rw [HBb.out]; exact hy) | (rw [if_neg (by omega)] at hy; subst hy)
        first | (have sa : decide (a < 0) = true := decide_eq_true s) | (have sa : decide (a < 0) = false := decide_eq_false (by omega))
        first | (have sb : decide (b < 0) = true := decide_eq_true t) | (have sb : decide (b < 0) = false := decide_eq_false (by omega))
        have S := Lib.hid s
        have T := Lib.hid t
        try have HX2 := Lib.hid hx
        try have HY2 := Lib.hid hy
        clear s t
        try clear hx
        try clear hy
        go_enter Tryz.func69, Tryz.ntmps69
        go_wp2
        go_ret2
        exact ⟨HM.out _ _ rfl rfl, rfl⟩
    · have z1 : decide (0 < x) = true := decide_eq_true g1
      have xz : ¬ x = 0 := by omega
      have qd : Int.tdiv 1000000000000 x = 1000000000000 / x := Int.tdiv_eq_ediv_of_nonneg (by omega)
      have qb0 : 0 ≤ 1000000000000 / x := Int.ediv_nonneg (by omega) (by omega)
      have qb1 : 1000000000000 / x ≤ 1000000000000 := Int.ediv_le_self _ (by omega)
      have qw : IntKind.i64.wrap (Int.tdiv 1000000000000 x) = 1000000000000 / x := by rw [qd]; exact IntWalk.i64_in _ (by omega)
      clear qd qb0 qb1
      have z2 : decide (1000000000000 / x < y) = false := decide_eq_false g2
      clear g1 g2 hx0 hx1
      rcases Int.lt_or_le a 0 with s | s <;> rcases Int.lt_or_le b 0 with t | t
      all_goals
        first | (rw [if_pos s] at hx; have ea : IntKind.i64.wrap (-a) = x := by rw [HA.out]; exact hx) | (rw [if_neg (by omega)] at hx; subst hx)
        first | (rw [if_pos t] at hy; have eb : IntKind.i64.wrap (-b) = y := by rw [HBb.out]; exact hy) | (rw [if_neg (by omega)] at hy; subst hy)
        first | (have sa : decide (a < 0) = true := decide_eq_true s) | (have sa : decide (a < 0) = false := decide_eq_false (by omega))
        first | (have sb : decide (b < 0) = true := decide_eq_true t) | (have sb : decide (b < 0) = false := decide_eq_false (by omega))
        have S := Lib.hid s
        have T := Lib.hid t
        try have HX2 := Lib.hid hx
        try have HY2 := Lib.hid hy
        clear s t
        try clear hx
        try clear hy
        go_enter Tryz.func69, Tryz.ntmps69
        go_wp2
        go_ret2
        exact ⟨HM.out _ _ rfl rfl, rfl⟩
theorem amt_of {x : Int} (h : okB x = true) : Amt x := okB_yes h
set_option maxHeartbeats 4000000 in
theorem specTwo (o a b : Int) (w : World) (ho : 3 ≤ o ∧ o ≤ 8 ∧ o ≠ 6) (ha : Amt a) (hb : Amt b) :
    Calls Tryz.prog 47 #[.int .i64 o, .int .i64 a, .int .i64 b] w fun e w' => e = .returned (.tuple #[.int .i64 (twoV o a b).1, .int .i64 (twoV o a b).2]) ∧ w' = w := by
  obtain ⟨a0, a1⟩ := ha
  obtain ⟨b0, b1⟩ := hb
  have hc : o = 3 ∨ o = 4 ∨ o = 5 ∨ o = 7 ∨ o = 8 := by omega
  clear ho
  rcases hc with rfl | rfl | rfl | rfl | rfl
  · have HE : Hid (twoV 3 a b = orB (a + b) (okB (a + b))) := rfl
    rw [HE.out]
    have e1 : IntKind.i64.wrap (a + b) = a + b := IntWalk.i64_in _ (by omega)
    cases hk : okB (a + b) with
    | false =>
      have HK := Lib.hid hk
      clear hk
      go_enter Tryz.func47, Tryz.ntmps47
      go_wp2_with fail
      refine (specMoneyOk _ _).mono ?_
      rintro e w' ⟨rfl, rfl⟩
      rw [HK.out]
      go_wp2
      go_ret2
      exact ⟨rfl, rfl⟩
    | true =>
      have HK := Lib.hid hk
      clear hk
      go_enter Tryz.func47, Tryz.ntmps47
      go_wp2_with fail
      refine (specMoneyOk _ _).mono ?_
      rintro e w' ⟨rfl, rfl⟩
      rw [HK.out]
      go_wp2
      go_ret2
      exact ⟨rfl, rfl⟩
  · have HE : Hid (twoV 4 a b = orB (a - b) (okB (a - b))) := rfl
    rw [HE.out]
    have e1 : IntKind.i64.wrap (a - b) = a - b := IntWalk.i64_in _ (by omega)
    cases hk : okB (a - b) with
    | false =>
      have HK := Lib.hid hk
      clear hk
      go_enter Tryz.func47, Tryz.ntmps47
      go_wp2_with fail
      refine (specMoneyOk _ _).mono ?_
      rintro e w' ⟨rfl, rfl⟩
      rw [HK.out]
      go_wp2
      go_ret2
      exact ⟨rfl, rfl⟩
    | true =>
      have HK := Lib.hid hk
      clear hk
      go_enter Tryz.func47, Tryz.ntmps47
      go_wp2_with fail
      refine (specMoneyOk _ _).mono ?_
      rintro e w' ⟨rfl, rfl⟩
      rw [HK.out]
      go_wp2
      go_ret2
      exact ⟨rfl, rfl⟩
  · have HE : Hid (twoV 5 a b = orB (a * b) (okB (a * b))) := rfl
    rw [HE.out]
    have HM := Lib.hid (specMul a b w ⟨a0, a1⟩ ⟨b0, b1⟩)
    generalize (orB (a * b) (okB (a * b))).1 = v at *
    generalize (orB (a * b) (okB (a * b))).2 = c at *
    go_enter Tryz.func47, Tryz.ntmps47
    go_wp2_with fail
    refine HM.out.mono ?_
    rintro e w' ⟨rfl, rfl⟩
    go_wp2
    go_ret2
    exact ⟨rfl, rfl⟩
  · have HE : Hid (twoV 7 a b = (if b < a then b else a, 0)) := rfl
    rw [HE.out]
    rcases Int.lt_or_le b a with c | c
    · have z : decide (b < a) = true := decide_eq_true c
      rw [if_pos c]
      have hk := Lib.hid (okB_mk ⟨b0, b1⟩)
      clear c
      go_enter Tryz.func47, Tryz.ntmps47
      go_wp2_with fail
      refine (specMoneyOk _ _).mono ?_
      rintro e w' ⟨rfl, rfl⟩
      rw [hk.out]
      go_wp2
      go_ret2
      exact ⟨rfl, rfl⟩
    · have z : decide (b < a) = false := decide_eq_false (by omega)
      rw [if_neg (by omega)]
      have hk := Lib.hid (okB_mk ⟨a0, a1⟩)
      clear c
      go_enter Tryz.func47, Tryz.ntmps47
      go_wp2_with fail
      refine (specMoneyOk _ _).mono ?_
      rintro e w' ⟨rfl, rfl⟩
      rw [hk.out]
      go_wp2
      go_ret2
      exact ⟨rfl, rfl⟩
  · have HE : Hid (twoV 8 a b = (if a < b then b else a, 0)) := rfl
    rw [HE.out]
    rcases Int.lt_or_le a b with c | c
    · have z : decide (a < b) = true := decide_eq_true c
      rw [if_pos c]
      have hk := Lib.hid (okB_mk ⟨b0, b1⟩)
      clear c
      go_enter Tryz.func47, Tryz.ntmps47
      go_wp2_with fail
      refine (specMoneyOk _ _).mono ?_
      rintro e w' ⟨rfl, rfl⟩
      rw [hk.out]
      go_wp2
      go_ret2
      exact ⟨rfl, rfl⟩
    · have z : decide (a < b) = false := decide_eq_false (by omega)
      rw [if_neg (by omega)]
      have hk := Lib.hid (okB_mk ⟨a0, a1⟩)
      clear c
      go_enter Tryz.func47, Tryz.ntmps47
      go_wp2_with fail
      refine (specMoneyOk _ _).mono ?_
      rintro e w' ⟨rfl, rfl⟩
      rw [hk.out]
      go_wp2
      go_ret2
      exact ⟨rfl, rfl⟩
set_option maxHeartbeats 4000000 in
theorem specPartW (a b c : Int) (w : World) :
    Calls Tryz.prog 45 #[.int .i64 a, .int .i64 b, .int .i64 c] w fun e w' => e = .returned (.tuple #[.int .i64 (partW a b c).1, .int .i64 (partW a b c).2]) ∧ w' = w := by
  by_cases h : c = 0
  · subst h
    have HE : Hid (partW a b 0 = (0, 3)) := rfl
    rw [HE.out]
    go_enter Tryz.func45, Tryz.ntmps45
    go_wp2
    go_ret2
    exact ⟨rfl, rfl⟩
  · have HE : Hid (partW a b c = orB (partV a b c) (partOk a b c)) := by show _ = _; rw [partW, if_neg h]
    rw [HE.out]
    have z : (c == 0) = false := by simpa using h
    have HP := Lib.hid (specMoneyPart a b c w)
    clear h
    generalize partV a b c = v at *
    cases hk : partOk a b c with
    | false =>
      rw [hk] at HP
      clear hk
      go_enter Tryz.func45, Tryz.ntmps45
      go_wp2_with fail
      refine HP.out.mono ?_
      rintro e w' ⟨rfl, rfl⟩
      go_wp2
      go_ret2
      exact ⟨rfl, rfl⟩
    | true =>
      rw [hk] at HP
      clear hk
      go_enter Tryz.func45, Tryz.ntmps45
      go_wp2_with fail
      refine HP.out.mono ?_
      rintro e w' ⟨rfl, rfl⟩
      go_wp2
      go_ret2
      exact ⟨rfl, rfl⟩
/-- Names and their numbers in memory. -/
def PairsN (N : Nat → Prop) (w : World) (a : Option Addr) (len : Nat) (ns : List (ByteArray × Int)) : Prop :=
  len = ns.length ∧ (len = 0 ∨ ∃ b off, a = some ⟨b, off, none⟩ ∧ N b ∧ b < w.heap.size ∧ ∀ i, i < len → w.cell? ⟨b, off + i * 2, none⟩ = some (.string (ns.getD i (⟨#[]⟩, 0)).1) ∧ w.cell? ⟨b, off + i * 2 + 1, none⟩ = some (.int .i64 (ns.getD i (⟨#[]⟩, 0)).2))
theorem PairsN.kept {N : Nat → Prop} {w w' : World} {a : Option Addr} {len : Nat} {ns : List (ByteArray × Int)} (h : PairsN N w a len ns) (s : Same N w w') : PairsN N w' a len ns := by
  obtain ⟨h1, h2⟩ := h
  refine ⟨h1, ?_⟩
  rcases h2 with h | ⟨b, off, k1, k2, k3, k4⟩
  · exact Or.inl h
  · have e := s.2 b k2 k3
    exact Or.inr ⟨b, off, k1, k2, Nat.lt_of_lt_of_le k3 s.1, fun i hi => ⟨(World.cell?_of_block (a := ⟨b, off + i * 2, none⟩) e).trans (k4 i hi).1, (World.cell?_of_block (a := ⟨b, off + i * 2 + 1, none⟩) e).trans (k4 i hi).2⟩⟩
theorem PairsN.mono {N N' : Nat → Prop} (hN : ∀ b, N b → N' b) {w : World} {a : Option Addr} {len : Nat} {ns : List (ByteArray × Int)} (h : PairsN N w a len ns) : PairsN N' w a len ns := by
  obtain ⟨h1, h2⟩ := h
  refine ⟨h1, ?_⟩
  rcases h2 with h | ⟨b, off, k1, k2, k3, k4⟩
  · exact Or.inl h
  · exact Or.inr ⟨b, off, k1, hN b k2, k3, k4⟩
theorem varV_drop {ns : List (ByteArray × Int)} {k : Nat} (h : k < ns.length) {s : ByteArray} : varV (ns.drop k) s = if (ns.getD k (⟨#[]⟩, 0)).1 = s then (if okB (ns.getD k (⟨#[]⟩, 0)).2 then ((ns.getD k (⟨#[]⟩, 0)).2, 0) else (0, 2)) else varV (ns.drop (k + 1)) s := by
  have e : ns.getD k (⟨#[]⟩, 0) = ns[k] := by simp [h]
  rw [List.drop_eq_getElem_cons h, varV, e]
set_option maxHeartbeats 4000000 in
theorem specVar (a : Option Addr) (len cap : Nat) (ns : List (ByteArray × Int)) (s : ByteArray) (w : World) (h : PairsN All w a len ns) (hl : len ≤ 1048576) :
    Calls Tryz.prog 44 #[.slice a len cap, .string s] w fun e w' => e = .returned (.tuple #[.int .i64 (varV ns s).1, .int .i64 (varV ns s).2]) ∧ w' = w := by
  have H := Lib.hid h
  clear h
  go_enter Tryz.func44, Tryz.ntmps44
  go_wp2_with fail
  go_loopw [6] (fun i wr => ∃ k : Nat, k ≤ len ∧ i = .int .i64 k ∧ Hid (varV (ns.drop k) s = varV ns s) ∧ wr = w) (fun i _ => len - (intOf i).toNat)
  case atStart => exact ⟨0, Nat.zero_le _, rfl, by show _ = _; rw [List.drop_zero], rfl⟩
  case round =>
    obtain ⟨k, hk, rfl, hs, rfl⟩ := hrel
    rcases Nat.lt_or_ge k len with hlt | hge
    · obtain ⟨hln, hc | ⟨b, off, rfl, -, hbl, hrow⟩⟩ := H.out
      · omega
      obtain ⟨y0, y1⟩ := hrow k hlt
      have hV := varV_drop (s := s) (show k < ns.length by omega)
      have k1 : (k : Int) < len := by omega
      have k0 : (0 : Int) ≤ k := by omega
      clear hrow hbl
      generalize (ns.getD k (⟨#[]⟩, 0)).1 = nm at *
      generalize (ns.getD k (⟨#[]⟩, 0)).2 = v at *
      by_cases e : nm = s
      · have z := nm_eq e
        have zd : decide (nm = s) = true := decide_eq_true e
        rw [if_pos e] at hV
        have HV := Lib.hid (hs.out.symm.trans hV)
        clear e hV hs
        cases hkb : okB v with
        | true =>
          have HK := Lib.hid hkb
          clear hkb
          go_wp2_with fail
          refine (specMoneyOk _ _).mono ?_
          rintro e w' ⟨rfl, rfl⟩
          rw [HK.out]
          go_wp2
          go_ret2
          exact ⟨ret2 (by rw [HV.out, if_pos HK.out]) (by rw [HV.out, if_pos HK.out]), rfl⟩
        | false =>
          have HK := Lib.hid hkb
          clear hkb
          go_wp2_with fail
          refine (specMoneyOk _ _).mono ?_
          rintro e w' ⟨rfl, rfl⟩
          rw [HK.out]
          go_wp2
          go_ret2
          exact ⟨ret2 (by rw [HV.out, if_neg (by rw [HK.out]; decide)]) (by rw [HV.out, if_neg (by rw [HK.out]; decide)]), rfl⟩
      · have z := nm_neq e
        have zd : decide (nm = s) = false := decide_eq_false e
        rw [if_neg e] at hV
        have HV := Lib.hid hV
        clear e hV
        go_wp2
        go_roundw
        case rel => exact ⟨k + 1, by omega, by go_num, by show _ = _; rw [← hs.out, HV.out], (by first | rfl | trivial)⟩
        case measure => simp [intOf]; omega
    · obtain rfl : k = len := by omega
      have HE : Hid (varV ns s = (0, 4)) := by
        have := hs.out
        rw [List.drop_of_length_le (by have := H.out.1; omega), varV] at this
        exact this.symm
      go_wp2
      go_ret2
      exact ⟨ret2 (by rw [HE.out]) (by rw [HE.out]), rfl⟩
theorem specTierV (ma : Option Addr) (mc : Nat) (ms : List (Int × Int)) (a : Int) (w : World) (h : MarksN All w ma ms.length ms) (hm : MOk (mF ms) (mP ms) ms.length) (a0 : 0 ≤ a) (a1 : a ≤ 1000000000000) :
    Calls Tryz.prog 46 #[.int .i64 a, .slice ma ms.length mc] w fun e w' => e = .returned (.tuple #[.int .i64 (tierV ms a).1, .int .i64 (tierV ms a).2]) ∧ Below w.heap.size w w' := by
  refine (specTiers a ma ms.length mc (mF ms) (mP ms) w (marks_of_N h) hm a0 a1).mono ?_
  rintro e w' ⟨x, c, rfl, hx, hb⟩
  refine ⟨?_, hb⟩
  rw [tierV, if_neg (by omega)]
  rcases hx with ⟨rfl, rfl, h⟩ | ⟨rfl, rfl, h⟩
  · rw [decide_eq_true h]; rfl
  · rw [decide_eq_false (by omega)]; rfl
end Go.Proofs.YtembapomapcdfaaGreatDoor
