/-
  What the program's ops say, each by its row in the table.
-/
import Derived.Test.YtemjooejfmkkbaaGreatDoorEvalO
import Derived.Test.YtemjooejfmkkbaaGreatDoorJ18
namespace Go.Proofs.YtemjooejfmkkbaaGreatDoor
open Go.RowKit
set_option linter.unusedVariables false
set_option linter.unusedSimpArgs false

def saysF (o : Int) : FuncId := if o = 1 then 273 else if o = 2 then 275 else if o = 3 then 280 else if o = 4 then 282 else if o = 5 then 284 else if o = 6 then 287 else if o = 7 then 292 else if o = 8 then 294 else if o = 9 then 297 else 301
theorem meth_says (o : Int) (h : 1 ≤ o ∧ o ≤ 10) (w : World) : (method 419 (opT o) (.agg #[]) "loop.example/stopover/impl.says").run Tryz.prog w = .ok (saysF o, .agg #[]) w := by
  rcases ops10 h with rfl | rfl | rfl | rfl | rfl | rfl | rfl | rfl | rfl | rfl <;> kernel_rfl
theorem call_says (o : Int) (h : 1 ≤ o ∧ o ≤ 10) (args : Array Value) (w : World) : (callFunc (saysF o) args).run Tryz.prog w = .ok (.enter (saysF o) args) w := by
  rcases ops10 h with rfl | rfl | rfl | rfl | rfl | rfl | rfl | rfl | rfl | rfl <;> kernel_rfl
set_option maxHeartbeats 4000000 in
theorem implOrBig (x : Int) (b : Bool) (w : World) :
    Calls Tryz.prog 277 #[.int .i64 x, .bool b] w fun e w' => e = .returned (.tuple #[.int .i64 (orB x b).1, .int .i64 (orB x b).2]) ∧ w' = w := by
  cases b with
  | true =>
    go_enter Tryz.func277, Tryz.ntmps277
    go_wp2
    go_ret2
    exact ⟨rfl, rfl⟩
  | false =>
    go_enter Tryz.func277, Tryz.ntmps277
    go_wp2
    go_ret2
    exact ⟨rfl, rfl⟩
theorem two_boxes (w : World) (a b : Obj) : Below w.heap.size w ((w.alloc a).alloc b) := ((Below.refl _ _).alloc (Nat.le_refl _) _).alloc (by simp only [World.size_alloc]; omega) _
theorem add_orB {a b : Int} (ha : okB a = true) (hb : okB b = true) : orB (addV a b) (addOk a b) = orB (a + b) (okB (a + b)) := by
  unfold addV addOk
  rw [ha, hb]
  simp only [Bool.true_and]
  cases okB (a + b) <;> rfl
theorem okB_neg {a : Int} (h : okB a = true) : okB (-a) = true := by have := okB_yes h; exact okB_mk (by omega)
theorem part_orB (a b c : Int) : orB (partV a b c) (partOk a b c) = orB (partV a b c) (partOk a b c) := rfl
def SaysP (r : Int × Int) (w : World) (e : Ending) (w' : World) : Prop := e = .returned (.tuple #[.int .i64 r.1, .int .i64 r.2]) ∧ Below w.heap.size w w'
set_option maxRecDepth 20000 in
set_option maxHeartbeats 8000000 in
theorem saysNum (o n : Int) (s : ByteArray) (ka : Option Addr) (kl kc : Nat) (ma : Option Addr) (ml mc : Nat) (p : Value) (w : World) (v : Value) :
    Calls Tryz.prog 273 #[.agg #[], p, .agg #[.int .i64 o, .int .i64 n, .string s, .slice ka kl kc, .slice ma ml mc], v] w (SaysP (n, 0) w) := by
  have hA : Below w.heap.size w ((w.alloc (.cells #[] 211)).alloc (.cells #[.int .i64 o, .int .i64 n, .string s, .slice ka kl kc, .slice ma ml mc] 38)) := two_boxes w _ _
  have HA := Lib.hid hA
  clear hA
  go_enter Tryz.func273, Tryz.ntmps273
  go_wp2
  go_ret2
  exact ⟨rfl, HA.out⟩
set_option maxRecDepth 20000 in
set_option maxHeartbeats 8000000 in
theorem saysAdd (o n : Int) (s : ByteArray) (ka : Option Addr) (kl kc : Nat) (ma : Option Addr) (ml mc : Nat) (p : Value) (w : World) (b off len cp : Nat) (hl : 1 < len) (x y : Int) (hb : b < w.heap.size) (hx : w.cell? ⟨b, off, none⟩ = some (.int .i64 x)) (hy : w.cell? ⟨b, off + 1, none⟩ = some (.int .i64 y)) (ax : okB x = true) (ay : okB y = true) :
    Calls Tryz.prog 280 #[.agg #[], p, .agg #[.int .i64 o, .int .i64 n, .string s, .slice ka kl kc, .slice ma ml mc], .slice (some ⟨b, off, none⟩) len cp] w (SaysP (orB (x + y) (okB (x + y))) w) := by
  have hA : Below w.heap.size w ((w.alloc (.cells #[] 217)).alloc (.cells #[.int .i64 o, .int .i64 n, .string s, .slice ka kl kc, .slice ma ml mc] 38)) := two_boxes w _ _
  have HA := Lib.hid hA
  have x0 := (hA.cell (p := ⟨b, off, none⟩) hb).trans hx
  have x1 := (hA.cell (p := ⟨b, off + 1, none⟩) hb).trans hy
  have l0 : (0 : Int) < len := by omega
  have l1 : (1 : Int) < len := by omega
  have l0n : 0 < len := by omega
  have lx := okB_yes ax
  have ly := okB_yes ay
  clear hA hx hy
  have HR : Hid (orB (addV x y) (addOk x y) = (orB (x + y) (okB (x + y)))) := by show _ = _; rw [add_orB ax ay]
  have e1 : IntKind.i64.wrap (-y) = -y := IntWalk.i64_in _ (by omega)
  have hC := Lib.hid (fun W => (implMoneyAdd x y W).mono fun e w' h => And.intro h.1 h.2.symm)
  have hO := Lib.hid (fun W => implOrBig (addV x y) (addOk x y) W)
  generalize hv : (orB (addV x y) (addOk x y)) = r at *
  generalize addV x y = av at *
  generalize addOk x y = ao at *
  obtain ⟨r1, r2⟩ := r
  dsimp only at *
  have HV := Lib.hid hv
  clear hv
  go_enter Tryz.func280, Tryz.ntmps280
  go_wp2_with fail
  go_quiet (first | (go_at_call 58; exact Calls.quiet_of_same (hC.out _)) | (go_at_call 277; exact Calls.quiet_of_same (hO.out _)))
  go_wp2
  go_ret2
  refine ⟨?_, HA.out.trans ((belowN (Below.refl _ _) nq).mono HA.out.size)⟩
  rw [← HR.out]
  rfl
set_option maxRecDepth 20000 in
set_option maxHeartbeats 8000000 in
theorem saysSub (o n : Int) (s : ByteArray) (ka : Option Addr) (kl kc : Nat) (ma : Option Addr) (ml mc : Nat) (p : Value) (w : World) (b off len cp : Nat) (hl : 1 < len) (x y : Int) (hb : b < w.heap.size) (hx : w.cell? ⟨b, off, none⟩ = some (.int .i64 x)) (hy : w.cell? ⟨b, off + 1, none⟩ = some (.int .i64 y)) (ax : okB x = true) (ay : okB y = true) :
    Calls Tryz.prog 282 #[.agg #[], p, .agg #[.int .i64 o, .int .i64 n, .string s, .slice ka kl kc, .slice ma ml mc], .slice (some ⟨b, off, none⟩) len cp] w (SaysP (orB (x - y) (okB (x - y))) w) := by
  have hA : Below w.heap.size w ((w.alloc (.cells #[] 218)).alloc (.cells #[.int .i64 o, .int .i64 n, .string s, .slice ka kl kc, .slice ma ml mc] 38)) := two_boxes w _ _
  have HA := Lib.hid hA
  have x0 := (hA.cell (p := ⟨b, off, none⟩) hb).trans hx
  have x1 := (hA.cell (p := ⟨b, off + 1, none⟩) hb).trans hy
  have l0 : (0 : Int) < len := by omega
  have l1 : (1 : Int) < len := by omega
  have l0n : 0 < len := by omega
  have lx := okB_yes ax
  have ly := okB_yes ay
  clear hA hx hy
  have HR : Hid (orB (addV x (-y)) (addOk x (-y)) = (orB (x - y) (okB (x - y)))) := by show _ = _; rw [add_orB ax (okB_neg ay)]; rw [show x + -y = x - y from by omega]
  have e1 : IntKind.i64.wrap (-y) = -y := IntWalk.i64_in _ (by omega)
  have hC := Lib.hid (fun W => (implMoneyAdd x (-y) W).mono fun e w' h => And.intro h.1 h.2.symm)
  have hO := Lib.hid (fun W => implOrBig (addV x (-y)) (addOk x (-y)) W)
  generalize hv : (orB (addV x (-y)) (addOk x (-y))) = r at *
  generalize addV x (-y) = av at *
  generalize addOk x (-y) = ao at *
  obtain ⟨r1, r2⟩ := r
  dsimp only at *
  have HV := Lib.hid hv
  clear hv
  go_enter Tryz.func282, Tryz.ntmps282
  go_wp2_with fail
  go_quiet (first | (go_at_call 58; exact Calls.quiet_of_same (hC.out _)) | (go_at_call 277; exact Calls.quiet_of_same (hO.out _)))
  go_wp2
  go_ret2
  refine ⟨?_, HA.out.trans ((belowN (Below.refl _ _) nq).mono HA.out.size)⟩
  rw [← HR.out]
  rfl
set_option maxRecDepth 20000 in
set_option maxHeartbeats 8000000 in
theorem saysMin (o n : Int) (s : ByteArray) (ka : Option Addr) (kl kc : Nat) (ma : Option Addr) (ml mc : Nat) (p : Value) (w : World) (b off len cp : Nat) (hl : 1 < len) (x y : Int) (hb : b < w.heap.size) (hx : w.cell? ⟨b, off, none⟩ = some (.int .i64 x)) (hy : w.cell? ⟨b, off + 1, none⟩ = some (.int .i64 y)) (ax : okB x = true) (ay : okB y = true) :
    Calls Tryz.prog 292 #[.agg #[], p, .agg #[.int .i64 o, .int .i64 n, .string s, .slice ka kl kc, .slice ma ml mc], .slice (some ⟨b, off, none⟩) len cp] w (SaysP (if y < x then y else x, 0) w) := by
  have hA : Below w.heap.size w ((w.alloc (.cells #[] 221)).alloc (.cells #[.int .i64 o, .int .i64 n, .string s, .slice ka kl kc, .slice ma ml mc] 38)) := two_boxes w _ _
  have HA := Lib.hid hA
  have x0 := (hA.cell (p := ⟨b, off, none⟩) hb).trans hx
  have x1 := (hA.cell (p := ⟨b, off + 1, none⟩) hb).trans hy
  have l0 : (0 : Int) < len := by omega
  have l1 : (1 : Int) < len := by omega
  have l0n : 0 < len := by omega
  have lx := okB_yes ax
  have ly := okB_yes ay
  clear hA hx hy
  have HM : Hid (min x y = if y < x then y else x) := by
    show _ = _
    rcases Int.lt_or_le y x with c | c
    · rw [if_pos c, Int.min_eq_right (by omega)]
    · rw [if_neg (by omega), Int.min_eq_left c]
  generalize (if y < x then y else x) = r at HM ⊢
  go_enter Tryz.func292, Tryz.ntmps292
  go_wp2_with fail
  go_quiet (fail)
  go_wp2
  go_ret2
  refine ⟨?_, HA.out.trans ((belowN (Below.refl _ _) nq).mono HA.out.size)⟩
  show Ending.returned (.tuple #[.int .i64 (min x y), .int .i64 0]) = _
  rw [HM.out]
set_option maxRecDepth 20000 in
set_option maxHeartbeats 8000000 in
theorem saysMax (o n : Int) (s : ByteArray) (ka : Option Addr) (kl kc : Nat) (ma : Option Addr) (ml mc : Nat) (p : Value) (w : World) (b off len cp : Nat) (hl : 1 < len) (x y : Int) (hb : b < w.heap.size) (hx : w.cell? ⟨b, off, none⟩ = some (.int .i64 x)) (hy : w.cell? ⟨b, off + 1, none⟩ = some (.int .i64 y)) (ax : okB x = true) (ay : okB y = true) :
    Calls Tryz.prog 294 #[.agg #[], p, .agg #[.int .i64 o, .int .i64 n, .string s, .slice ka kl kc, .slice ma ml mc], .slice (some ⟨b, off, none⟩) len cp] w (SaysP (if x < y then y else x, 0) w) := by
  have hA : Below w.heap.size w ((w.alloc (.cells #[] 222)).alloc (.cells #[.int .i64 o, .int .i64 n, .string s, .slice ka kl kc, .slice ma ml mc] 38)) := two_boxes w _ _
  have HA := Lib.hid hA
  have x0 := (hA.cell (p := ⟨b, off, none⟩) hb).trans hx
  have x1 := (hA.cell (p := ⟨b, off + 1, none⟩) hb).trans hy
  have l0 : (0 : Int) < len := by omega
  have l1 : (1 : Int) < len := by omega
  have l0n : 0 < len := by omega
  have lx := okB_yes ax
  have ly := okB_yes ay
  clear hA hx hy
  have HM : Hid (max x y = if x < y then y else x) := by
    show _ = _
    rcases Int.lt_or_le x y with c | c
    · rw [if_pos c, Int.max_eq_right (by omega)]
    · rw [if_neg (by omega), Int.max_eq_left c]
  generalize (if x < y then y else x) = r at HM ⊢
  go_enter Tryz.func294, Tryz.ntmps294
  go_wp2_with fail
  go_quiet (fail)
  go_wp2
  go_ret2
  refine ⟨?_, HA.out.trans ((belowN (Below.refl _ _) nq).mono HA.out.size)⟩
  show Ending.returned (.tuple #[.int .i64 (max x y), .int .i64 0]) = _
  rw [HM.out]
theorem abs_max (a : Int) : max a (-a) = if a < 0 then -a else a := by
  rcases Int.lt_or_le a 0 with c | c
  · rw [if_pos c, Int.max_eq_right (by omega)]
  · rw [if_neg (by omega), Int.max_eq_left (by omega)]
theorem le_div_iff {x y : Int} (hy : 0 < y) : decide (x ≤ 1000000000000 / y) = decide (x * y ≤ 1000000000000) := by
  refine decide_eq_decide.2 ⟨fun h => ?_, fun h => ?_⟩
  · exact Int.mul_le_of_le_ediv hy h
  · exact Int.le_ediv_of_mul_le hy h
set_option maxRecDepth 20000 in
set_option maxHeartbeats 8000000 in
theorem saysMul (o n : Int) (s : ByteArray) (ka : Option Addr) (kl kc : Nat) (ma : Option Addr) (ml mc : Nat) (p : Value) (w : World) (b off len cp : Nat) (hl : 1 < len) (x y : Int) (hb : b < w.heap.size) (hx : w.cell? ⟨b, off, none⟩ = some (.int .i64 x)) (hy : w.cell? ⟨b, off + 1, none⟩ = some (.int .i64 y)) (ax : okB x = true) (ay : okB y = true) :
    Calls Tryz.prog 284 #[.agg #[], p, .agg #[.int .i64 o, .int .i64 n, .string s, .slice ka kl kc, .slice ma ml mc], .slice (some ⟨b, off, none⟩) len cp] w (SaysP (orB (x * y) (okB (x * y))) w) := by
  have hA : Below w.heap.size w ((w.alloc (.cells #[] 219)).alloc (.cells #[.int .i64 o, .int .i64 n, .string s, .slice ka kl kc, .slice ma ml mc] 38)) := two_boxes w _ _
  have HA := Lib.hid hA
  have x0 := (hA.cell (p := ⟨b, off, none⟩) hb).trans hx
  have x1 := (hA.cell (p := ⟨b, off + 1, none⟩) hb).trans hy
  have l0 : (0 : Int) < len := by omega
  have l1 : (1 : Int) < len := by omega
  have l0n : 0 < len := by omega
  have lx := okB_yes ax
  have ly := okB_yes ay
  clear hA hx hy
  obtain ⟨mx, hmx, mx0, mx1⟩ : ∃ m, max x (-x) = m ∧ 0 ≤ m ∧ m ≤ 1000000000000 := ⟨_, rfl, by rw [abs_max]; split <;> omega, by rw [abs_max]; split <;> omega⟩
  obtain ⟨my, hmy, my0, my1⟩ : ∃ m, max y (-y) = m ∧ 0 ≤ m ∧ m ≤ 1000000000000 := ⟨_, rfl, by rw [abs_max]; split <;> omega, by rw [abs_max]; split <;> omega⟩
  have hab : x * y = mx * my ∨ x * y = -(mx * my) := by
    rw [abs_max] at hmx hmy
    rcases Int.lt_or_le x 0 with s | s <;> rcases Int.lt_or_le y 0 with t | t
    · left; rw [← hmx, ← hmy, if_pos s, if_pos t, Int.neg_mul_neg]
    · right; rw [← hmx, ← hmy, if_pos s, if_neg (by omega), Int.neg_mul, Int.neg_neg]
    · right; rw [← hmx, ← hmy, if_neg (by omega), if_pos t, Int.mul_neg, Int.neg_neg]
    · left; rw [← hmx, ← hmy, if_neg (by omega), if_neg (by omega)]
  have hok := mul_okB mx0 my0 hab
  have enx : IntKind.i64.wrap (-x) = -x := IntWalk.i64_in _ (by omega)
  have eny : IntKind.i64.wrap (-y) = -y := IntWalk.i64_in _ (by omega)
  have HOK : Hid (∀ (pv : Int) (bv : Bool), bv = okB (x * y) → (okB (x * y) = true → pv = x * y) → orB pv bv = orB (x * y) (okB (x * y))) := fun pv bv h1 h2 => by
    subst h1
    unfold orB
    split
    · rename_i h; rw [h2 h]
    · rfl
  obtain ⟨pv, hpv, hpv2⟩ : ∃ pv, IntKind.i64.wrap (x * y) = pv ∧ (okB (x * y) = true → pv = x * y) := ⟨_, rfl, fun h => IntWalk.i64_in _ (by have := okB_yes h; omega)⟩
  have hO := Lib.hid (fun b W => implOrBig pv b W)
  have HPV := Lib.hid hpv2
  by_cases hy0 : y = 0
  · subst hy0
    have HRR : Hid (orB 0 true = orB (x * 0) (okB (x * 0))) := by show _ = _; rw [Int.mul_zero]; rfl
    rw [← HRR.out]
    clear hab hok hmx hmy hpv2 hpv
    have hO := Lib.hid (fun W => implOrBig 0 true W)
    go_enter Tryz.func284, Tryz.ntmps284
    go_wp2_with fail
    go_quiet (fail)
    go_wp2_with fail
    refine (hO.out _).mono ?_
    rintro e w' ⟨rfl, rfl⟩
    go_wp2
    go_ret2
    exact ⟨rfl, HA.out.trans ((belowN (Below.refl _ _) nq).mono HA.out.size)⟩
  · have z : (y == 0) = false := by simpa using hy0
    have hmyp : 0 < my := by
      rw [abs_max] at hmy
      split at hmy <;> omega
    have hd := le_div_iff (x := mx) hmyp
    rw [← hok] at hd
    have qd : Int.tdiv 1000000000000 my = 1000000000000 / my := Int.tdiv_eq_ediv_of_nonneg (by omega)
    have qb0 : 0 ≤ 1000000000000 / my := Int.ediv_nonneg (by omega) (by omega)
    have qb1 : 1000000000000 / my ≤ 1000000000000 := Int.ediv_le_self _ (by omega)
    have qw : IntKind.i64.wrap (Int.tdiv 1000000000000 my) = 1000000000000 / my := by rw [qd]; exact IntWalk.i64_in _ (by omega)
    have xz : ¬ my = 0 := by omega
    obtain ⟨bv, hbv⟩ : ∃ bv, decide (mx ≤ 1000000000000 / my) = bv := ⟨_, rfl⟩
    have HB : Hid (bv = okB (x * y)) := by show _ = _; rw [← hd, hbv]
    have HRR := Lib.hid (HOK.out pv bv HB.out HPV.out)
    rw [← HRR.out]
    clear hab hok hd qd qb0 qb1 hmyp mx0 mx1 my0 my1 hpv2 hy0 lx ly
    go_enter Tryz.func284, Tryz.ntmps284
    go_wp2_with fail
    go_quiet (fail)
    go_wp2_with fail
    refine (hO.out bv _).mono ?_
    rintro e w' ⟨rfl, rfl⟩
    go_wp2
    go_ret2
    exact ⟨rfl, HA.out.trans ((belowN (Below.refl _ _) nq).mono HA.out.size)⟩
end Go.Proofs.YtemjooejfmkkbaaGreatDoor
