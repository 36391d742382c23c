/-
  Whether a rule has just what its op has, but for the kids: the program's answer, by its table.
-/
import Derived.Test.YtgoaajnppadmjaaGreatDoorRulePlain
import Derived.Test.YtgoaajnppadmjaaGreatDoorRuleOps
namespace Go.Proofs.YtgoaajnppadmjaaGreatDoor
open Go.RowKit
set_option linter.unusedVariables false
set_option linter.unusedSimpArgs false

set_option maxHeartbeats 8000000 in
theorem holdsNum (o n : Int) (s : ByteArray) (ka ma : Option Addr) (k kc mc : Nat) (ms : List (Int × Int)) (w : World) (hs : s.size ≤ maxLen) (hm : MarksN All w ma ms.length ms) (hml : ms.length ≤ 1048576) :
    Calls Tryz.prog 192 #[.agg #[], .agg #[.int .i64 o, .int .i64 n, .string s, .slice ka k kc, .slice ma ms.length mc]] w (BoolP (-1000000000 ≤ n ∧ n ≤ 1000000000 ∧ s.size = 0 ∧ ms.length = 0) w) := by
  have HM := Lib.hid hm
  have HML := Lib.hid hml
  clear hm hml
  have hA : Hid (Below w.heap.size w ((w.alloc (.cells #[] 169)).alloc (.cells #[.int .i64 o, .int .i64 n, .string s, .slice ka k kc, .slice ma ms.length mc] 32))) := ((Below.refl w.heap.size w).alloc (Nat.le_refl _) _).alloc (by simp only [World.size_alloc]; omega) _
  cases h0 : (decide (-1000000000 ≤ n)) with
  | false =>
    have x0 := Lib.hid ((by simpa using h0 : n < -1000000000))
    go_enter Tryz.func192, Tryz.ntmps192
    go_wp2
    go_ret
    exact ⟨false, rfl, ⟨fun h => (by cases h), fun h => (by have hx := x0.out; have a1 := h.1; have a2 := h.2.1; have a3 := h.2.2.1; have a4 := h.2.2.2; omega)⟩, hA.out⟩
  | true =>
    have x0 := Lib.hid ((by simpa using h0 : -1000000000 ≤ n))
    cases h1 : (decide (n ≤ 1000000000)) with
    | false =>
      have x1 := Lib.hid ((by simpa using h1 : 1000000000 < n))
      go_enter Tryz.func192, Tryz.ntmps192
      go_wp2
      go_ret
      exact ⟨false, rfl, ⟨fun h => (by cases h), fun h => (by have hx := x1.out; have a1 := h.1; have a2 := h.2.1; have a3 := h.2.2.1; have a4 := h.2.2.2; omega)⟩, hA.out⟩
    | true =>
      have x1 := Lib.hid ((by simpa using h1 : n ≤ 1000000000))
      cases h2 : (s.toList.isEmpty) with
      | false =>
        have x2 := Lib.hid (str_full h2)
        go_enter Tryz.func192, Tryz.ntmps192
        go_wp2
        go_ret
        exact ⟨false, rfl, ⟨fun h => (by cases h), fun h => (by have hx := x2.out; have a1 := h.1; have a2 := h.2.1; have a3 := h.2.2.1; have a4 := h.2.2.2; omega)⟩, hA.out⟩
      | true =>
        have x2 := Lib.hid (str_empty h2)
        cases h3 : (((ms.length : Int) == 0)) with
        | false =>
          have x3 := Lib.hid ((by simpa using h3 : ms.length ≠ 0))
          go_enter Tryz.func192, Tryz.ntmps192
          go_wp2
          go_ret
          exact ⟨false, rfl, ⟨fun h => (by cases h), fun h => (by have hx := x3.out; have a1 := h.1; have a2 := h.2.1; have a3 := h.2.2.1; have a4 := h.2.2.2; omega)⟩, hA.out⟩
        | true =>
          have x3 := Lib.hid ((by simpa using h3 : ms.length = 0))
          go_enter Tryz.func192, Tryz.ntmps192
          go_wp2
          go_ret
          exact ⟨true, rfl, ⟨fun _ => (by have y0 := x0.out; have y1 := x1.out; have y2 := x2.out; have y3 := x3.out; exact ⟨y0, y1, y2, y3⟩), fun _ => rfl⟩, hA.out⟩

set_option maxHeartbeats 8000000 in
theorem holdsBare (o n : Int) (s : ByteArray) (ka ma : Option Addr) (k kc mc : Nat) (ms : List (Int × Int)) (w : World) (hs : s.size ≤ maxLen) (hm : MarksN All w ma ms.length ms) (hml : ms.length ≤ 1048576) :
    Calls Tryz.prog 198 #[.agg #[], .agg #[.int .i64 o, .int .i64 n, .string s, .slice ka k kc, .slice ma ms.length mc]] w (BoolP (n = 0 ∧ s.size = 0 ∧ ms.length = 0) w) := by
  have HM := Lib.hid hm
  have HML := Lib.hid hml
  clear hm hml
  have hA : Hid (Below w.heap.size w ((w.alloc (.cells #[] 171)).alloc (.cells #[.int .i64 o, .int .i64 n, .string s, .slice ka k kc, .slice ma ms.length mc] 32))) := ((Below.refl w.heap.size w).alloc (Nat.le_refl _) _).alloc (by simp only [World.size_alloc]; omega) _
  cases h0 : ((n == 0)) with
  | false =>
    have x0 := Lib.hid ((by simpa using h0 : n ≠ 0))
    go_enter Tryz.func198, Tryz.ntmps198
    go_wp2
    go_ret
    exact ⟨false, rfl, ⟨fun h => (by cases h), fun h => (by have hx := x0.out; have a1 := h.1; have a2 := h.2.1; have a3 := h.2.2; omega)⟩, hA.out⟩
  | true =>
    have x0 := Lib.hid ((by simpa using h0 : n = 0))
    cases h1 : (s.toList.isEmpty) with
    | false =>
      have x1 := Lib.hid (str_full h1)
      go_enter Tryz.func198, Tryz.ntmps198
      go_wp2
      go_ret
      exact ⟨false, rfl, ⟨fun h => (by cases h), fun h => (by have hx := x1.out; have a1 := h.1; have a2 := h.2.1; have a3 := h.2.2; omega)⟩, hA.out⟩
    | true =>
      have x1 := Lib.hid (str_empty h1)
      cases h2 : (((ms.length : Int) == 0)) with
      | false =>
        have x2 := Lib.hid ((by simpa using h2 : ms.length ≠ 0))
        go_enter Tryz.func198, Tryz.ntmps198
        go_wp2
        go_ret
        exact ⟨false, rfl, ⟨fun h => (by cases h), fun h => (by have hx := x2.out; have a1 := h.1; have a2 := h.2.1; have a3 := h.2.2; omega)⟩, hA.out⟩
      | true =>
        have x2 := Lib.hid ((by simpa using h2 : ms.length = 0))
        go_enter Tryz.func198, Tryz.ntmps198
        go_wp2
        go_ret
        exact ⟨true, rfl, ⟨fun _ => (by have y0 := x0.out; have y1 := x1.out; have y2 := x2.out; exact ⟨y0, y1, y2⟩), fun _ => rfl⟩, hA.out⟩

set_option maxHeartbeats 8000000 in
theorem holdsVar (o n : Int) (s : ByteArray) (ka ma : Option Addr) (k kc mc : Nat) (ms : List (Int × Int)) (w : World) (hs : s.size ≤ maxLen) (hm : MarksN All w ma ms.length ms) (hml : ms.length ≤ 1048576) :
    Calls Tryz.prog 194 #[.agg #[], .agg #[.int .i64 o, .int .i64 n, .string s, .slice ka k kc, .slice ma ms.length mc]] w (BoolP (nameB s.data.toList = true ∧ n = 0 ∧ ms.length = 0) w) := by
  have HM := Lib.hid hm
  have HML := Lib.hid hml
  clear hm hml
  have hA : Hid (Below w.heap.size w ((w.alloc (.cells #[] 170)).alloc (.cells #[.int .i64 o, .int .i64 n, .string s, .slice ka k kc, .slice ma ms.length mc] 32))) := ((Below.refl w.heap.size w).alloc (Nat.le_refl _) _).alloc (by simp only [World.size_alloc]; omega) _
  have HC : Hid (Calls Tryz.prog 196 #[.string s] ((w.alloc (.cells #[] 170)).alloc (.cells #[.int .i64 o, .int .i64 n, .string s, .slice ka k kc, .slice ma ms.length mc] 32)) fun e w' => e = .returned (.bool (nameB s.data.toList)) ∧ ((w.alloc (.cells #[] 170)).alloc (.cells #[.int .i64 o, .int .i64 n, .string s, .slice ka k kc, .slice ma ms.length mc] 32)) = w') := implName s _ hs
  generalize hnb : nameB s.data.toList = nb at *
  have HN := Lib.hid hnb
  clear hnb
  cases h0 : (nb) with
  | false =>
    have x0 := Lib.hid (h0)
    go_enter Tryz.func194, Tryz.ntmps194
    go_wp2_with fail
    refine HC.out.mono ?_
    rintro e w' ⟨rfl, rfl⟩
    go_wp2
    go_ret
    exact ⟨false, rfl, ⟨fun h => (by cases h), fun h => (by have hx := x0.out; first | (have a2 := h.2.1; have a3 := h.2.2; omega) | (exact absurd h.1 (by simp)))⟩, hA.out⟩
  | true =>
    have x0 := Lib.hid (h0)
    cases h1 : ((n == 0)) with
    | false =>
      have x1 := Lib.hid ((by simpa using h1 : n ≠ 0))
      go_enter Tryz.func194, Tryz.ntmps194
      go_wp2_with fail
      refine HC.out.mono ?_
      rintro e w' ⟨rfl, rfl⟩
      go_wp2
      go_ret
      exact ⟨false, rfl, ⟨fun h => (by cases h), fun h => (by have hx := x1.out; first | (have a2 := h.2.1; have a3 := h.2.2; omega) | (exact absurd h.1 (by simp)))⟩, hA.out⟩
    | true =>
      have x1 := Lib.hid ((by simpa using h1 : n = 0))
      cases h2 : (((ms.length : Int) == 0)) with
      | false =>
        have x2 := Lib.hid ((by simpa using h2 : ms.length ≠ 0))
        go_enter Tryz.func194, Tryz.ntmps194
        go_wp2_with fail
        refine HC.out.mono ?_
        rintro e w' ⟨rfl, rfl⟩
        go_wp2
        go_ret
        exact ⟨false, rfl, ⟨fun h => (by cases h), fun h => (by have hx := x2.out; first | (have a2 := h.2.1; have a3 := h.2.2; omega) | (exact absurd h.1 (by simp)))⟩, hA.out⟩
      | true =>
        have x2 := Lib.hid ((by simpa using h2 : ms.length = 0))
        go_enter Tryz.func194, Tryz.ntmps194
        go_wp2_with fail
        refine HC.out.mono ?_
        rintro e w' ⟨rfl, rfl⟩
        go_wp2
        go_ret
        exact ⟨true, rfl, ⟨fun _ => (by have y0 := x0.out; have y1 := x1.out; have y2 := x2.out; exact ⟨trivial, y1, y2⟩), fun _ => rfl⟩, hA.out⟩

set_option maxHeartbeats 8000000 in
theorem holdsTiers (o n : Int) (s : ByteArray) (ka ma : Option Addr) (k kc mc : Nat) (ms : List (Int × Int)) (w : World) (hs : s.size ≤ maxLen) (hm : MarksN All w ma ms.length ms) (hml : ms.length ≤ 1048576) :
    Calls Tryz.prog 219 #[.agg #[], .agg #[.int .i64 o, .int .i64 n, .string s, .slice ka k kc, .slice ma ms.length mc]] w (BoolP (n = 0 ∧ s.size = 0 ∧ MOk (mF ms) (mP ms) ms.length) w) := by
  have HM := Lib.hid hm
  have HML := Lib.hid hml
  clear hm hml
  have hA : Hid (Below w.heap.size w ((w.alloc (.cells #[] 182)).alloc (.cells #[.int .i64 o, .int .i64 n, .string s, .slice ka k kc, .slice ma ms.length mc] 32))) := ((Below.refl w.heap.size w).alloc (Nat.le_refl _) _).alloc (by simp only [World.size_alloc]; omega) _
  cases h0 : ((n == 0)) with
  | false =>
    have x0 := Lib.hid ((by simpa using h0 : n ≠ 0))
    go_enter Tryz.func219, Tryz.ntmps219
    go_wp2
    go_ret
    exact ⟨false, rfl, ⟨fun h => (by cases h), fun h => (by have hx := x0.out; have a1 := h.1; have a2 := h.2.1; omega)⟩, hA.out⟩
  | true =>
    have x0 := Lib.hid ((by simpa using h0 : n = 0))
    cases h1 : (s.toList.isEmpty) with
    | false =>
      have x1 := Lib.hid (str_full h1)
      go_enter Tryz.func219, Tryz.ntmps219
      go_wp2
      go_ret
      exact ⟨false, rfl, ⟨fun h => (by cases h), fun h => (by have hx := x1.out; have a1 := h.1; have a2 := h.2.1; omega)⟩, hA.out⟩
    | true =>
      have x1 := Lib.hid (str_empty h1)
      go_enter Tryz.func219, Tryz.ntmps219
      go_wp2_with fail
      refine (implMarksOk ma ms.length mc (mF ms) (mP ms) _ (marks_of_N (HM.out.kept (same_of_below hA.out))) HML.out).mono ?_
      rintro e w1 ⟨b, rfl, hb, d1⟩
      have Hb : Hid (b = true ↔ MOk (mF ms) (mP ms) ms.length) := hb
      clear hb
      go_wp2
      go_ret
      have y0 := x0.out; have y1 := x1.out;
      exact ⟨b, rfl, ⟨fun h => ⟨y0, y1, Hb.out.1 h⟩, fun h => Hb.out.2 h.2.2⟩, hA.out.trans (d1.mono hA.out.size)⟩

theorem BoolP.iff {p q : Prop} {w : World} {e : Ending} {w' : World} (h : BoolP p w e w') (k : p ↔ q) : BoolP q w e w' := by
  obtain ⟨b, h1, h2, h3⟩ := h
  exact ⟨b, h1, h2.out.trans k, h3⟩
theorem holdsI (o n : Int) (s : ByteArray) (ka ma : Option Addr) (k kc mc : Nat) (ms : List (Int × Int)) (w : World) (h : 1 ≤ o ∧ o ≤ 10) (hs : s.size ≤ maxLen) (hm : MarksN All w ma ms.length ms) (hml : ms.length ≤ 1048576) :
    Calls Tryz.prog (holdsF o) #[.agg #[], .agg #[.int .i64 o, .int .i64 n, .string s, .slice ka k kc, .slice ma ms.length mc]] w (BoolP (HoldsN o n s ms) w) := by
  rcases ops10 h with rfl | rfl | rfl | rfl | rfl | rfl | rfl | rfl | rfl | rfl
  · exact (holdsNum 1 n s ka ma k kc mc ms w hs hm hml).mono fun _ _ q => q.iff ⟨fun h => ⟨⟨h.1, h.2.1⟩, h.2.2.1, h.2.2.2⟩, fun h => ⟨h.1.1, h.1.2, h.2.1, h.2.2⟩⟩
  · exact (holdsVar 2 n s ka ma k kc mc ms w hs hm hml).mono fun _ _ q => q.iff Iff.rfl
  · exact (holdsBare 3 n s ka ma k kc mc ms w hs hm hml).mono fun _ _ q => q.iff Iff.rfl
  · exact (holdsBare 4 n s ka ma k kc mc ms w hs hm hml).mono fun _ _ q => q.iff Iff.rfl
  · exact (holdsBare 5 n s ka ma k kc mc ms w hs hm hml).mono fun _ _ q => q.iff Iff.rfl
  · exact (holdsBare 6 n s ka ma k kc mc ms w hs hm hml).mono fun _ _ q => q.iff Iff.rfl
  · exact (holdsBare 7 n s ka ma k kc mc ms w hs hm hml).mono fun _ _ q => q.iff Iff.rfl
  · exact (holdsBare 8 n s ka ma k kc mc ms w hs hm hml).mono fun _ _ q => q.iff Iff.rfl
  · exact (holdsBare 9 n s ka ma k kc mc ms w hs hm hml).mono fun _ _ q => q.iff Iff.rfl
  · exact (holdsTiers 10 n s ka ma k kc mc ms w hs hm hml).mono fun _ _ q => q.iff Iff.rfl
end Go.Proofs.YtgoaajnppadmjaaGreatDoor
