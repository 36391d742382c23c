/-
  The table of ops in the program: each op's row, and what its methods are.
  Whether a rule has just what its op has, but for the kids: the program's answer, by its table.
-/
import Derived.Test.YtjhgmmcglonokaaGreatDoorJ15
import Derived.Deep.Quiet
namespace Go.Proofs.YtjhgmmcglonokaaGreatDoor
open Go.RowKit
set_option linter.unusedVariables false
set_option linter.unusedSimpArgs false

def opT (o : Int) : TypeId := if o = 1 then 140 else if o = 2 then 141 else if o = 3 then 146 else if o = 4 then 147 else if o = 5 then 148 else if o = 6 then 149 else if o = 7 then 150 else if o = 8 then 151 else if o = 9 then 152 else 153
def kidsF (o : Int) : FuncId := if o = 1 then 179 else if o = 2 then 179 else if o = 3 then 187 else if o = 4 then 187 else if o = 5 then 187 else if o = 6 then 194 else if o = 7 then 187 else if o = 8 then 187 else if o = 9 then 201 else 205
def wordF (o : Int) : FuncId := if o = 1 then 180 else if o = 2 then 180 else if o = 3 then 189 else if o = 4 then 191 else if o = 5 then 193 else if o = 6 then 196 else if o = 7 then 198 else if o = 8 then 200 else if o = 9 then 203 else 207
def holdsF (o : Int) : FuncId := if o = 1 then 181 else if o = 2 then 183 else if o = 3 then 186 else if o = 4 then 186 else if o = 5 then 186 else if o = 6 then 186 else if o = 7 then 186 else if o = 8 then 186 else if o = 9 then 186 else 204
theorem ops10 {o : Int} (h : 1 ≤ o ∧ o ≤ 10) : o = 1 ∨ o = 2 ∨ o = 3 ∨ o = 4 ∨ o = 5 ∨ o = 6 ∨ o = 7 ∨ o = 8 ∨ o = 9 ∨ o = 10 := by omega
set_option maxHeartbeats 4000000 in
theorem opOf (o : Int) (w : World) (h : 1 ≤ o ∧ o ≤ 10) :
    Calls Tryz.prog 96 #[.int .i64 o] w fun e w' => e = .returned (.iface (opT o) (.agg #[])) ∧ Below w.heap.size w w' := by
  rcases ops10 h with rfl | rfl | rfl | rfl | rfl | rfl | rfl | rfl | rfl | rfl
  all_goals
    go_enter Tryz.func96, Tryz.ntmps96
    go_wp2
    go_ret
    exact ⟨rfl, (Below.refl _ _).alloc (Nat.le_refl _) _⟩
set_option maxHeartbeats 4000000 in
theorem opNone (o : Int) (w : World) (h0 : ¬ (1 ≤ o ∧ o ≤ 10)) :
    Calls Tryz.prog 96 #[.int .i64 o] w fun e w' => e = .returned .nilIface ∧ Below w.heap.size w w' := by
  rcases Int.lt_or_le o 1 with h | h
  · have z0 : decide (o < 1) = true := decide_eq_true h
    clear h0
    go_enter Tryz.func96, Tryz.ntmps96
    go_wp2
    go_ret
    exact ⟨rfl, Below.refl _ _⟩
  · have z0 : decide (o < 1) = false := decide_eq_false (by omega)
    have z1 : decide (10 < o) = true := decide_eq_true (by omega)
    clear h0
    go_enter Tryz.func96, Tryz.ntmps96
    go_wp2
    go_ret
    exact ⟨rfl, Below.refl _ _⟩
theorem meth_kids (o : Int) (h : 1 ≤ o ∧ o ≤ 10) (w : World) : (method 332 (opT o) (.agg #[]) "loop.example/stopover/impl.kids").run Tryz.prog w = .ok (kidsF o, .agg #[]) w := by
  rcases ops10 h with rfl | rfl | rfl | rfl | rfl | rfl | rfl | rfl | rfl | rfl <;> kernel_rfl
theorem nil_kids (o : Int) (h : 1 ≤ o ∧ o ≤ 10) (w : World) : (nilAhead 332 (opT o) (.agg #[]) "loop.example/stopover/impl.kids").run Tryz.prog w = .ok (some false) w := by
  rcases ops10 h with rfl | rfl | rfl | rfl | rfl | rfl | rfl | rfl | rfl | rfl <;> kernel_rfl
theorem call_kids (o : Int) (h : 1 ≤ o ∧ o ≤ 10) (args : Array Value) (w : World) : (callFunc (kidsF o) args).run Tryz.prog w = .ok (.enter (kidsF o) args) w := by
  rcases ops10 h with rfl | rfl | rfl | rfl | rfl | rfl | rfl | rfl | rfl | rfl <;> kernel_rfl
theorem meth_word (o : Int) (h : 1 ≤ o ∧ o ≤ 10) (w : World) : (method 332 (opT o) (.agg #[]) "loop.example/stopover/impl.word").run Tryz.prog w = .ok (wordF o, .agg #[]) w := by
  rcases ops10 h with rfl | rfl | rfl | rfl | rfl | rfl | rfl | rfl | rfl | rfl <;> kernel_rfl
theorem nil_word (o : Int) (h : 1 ≤ o ∧ o ≤ 10) (w : World) : (nilAhead 332 (opT o) (.agg #[]) "loop.example/stopover/impl.word").run Tryz.prog w = .ok (some false) w := by
  rcases ops10 h with rfl | rfl | rfl | rfl | rfl | rfl | rfl | rfl | rfl | rfl <;> kernel_rfl
theorem call_word (o : Int) (h : 1 ≤ o ∧ o ≤ 10) (args : Array Value) (w : World) : (callFunc (wordF o) args).run Tryz.prog w = .ok (.enter (wordF o) args) w := by
  rcases ops10 h with rfl | rfl | rfl | rfl | rfl | rfl | rfl | rfl | rfl | rfl <;> kernel_rfl
theorem meth_holds (o : Int) (h : 1 ≤ o ∧ o ≤ 10) (w : World) : (method 332 (opT o) (.agg #[]) "loop.example/stopover/impl.holds").run Tryz.prog w = .ok (holdsF o, .agg #[]) w := by
  rcases ops10 h with rfl | rfl | rfl | rfl | rfl | rfl | rfl | rfl | rfl | rfl <;> kernel_rfl
theorem nil_holds (o : Int) (h : 1 ≤ o ∧ o ≤ 10) (w : World) : (nilAhead 332 (opT o) (.agg #[]) "loop.example/stopover/impl.holds").run Tryz.prog w = .ok (some false) w := by
  rcases ops10 h with rfl | rfl | rfl | rfl | rfl | rfl | rfl | rfl | rfl | rfl <;> kernel_rfl
theorem call_holds (o : Int) (h : 1 ≤ o ∧ o ≤ 10) (args : Array Value) (w : World) : (callFunc (holdsF o) args).run Tryz.prog w = .ok (.enter (holdsF o) args) w := by
  rcases ops10 h with rfl | rfl | rfl | rfl | rfl | rfl | rfl | rfl | rfl | rfl <;> kernel_rfl
theorem kidsI (o : Int) (h : 1 ≤ o ∧ o ≤ 10) (w : World) : Calls Tryz.prog (kidsF o) #[.agg #[]] w fun e w' => e = .returned (.int .i64 (kidsN o)) ∧ Below w.heap.size w w' := by
  rcases ops10 h with rfl | rfl | rfl | rfl | rfl | rfl | rfl | rfl | rfl | rfl
  · show Calls Tryz.prog 179 _ _ _
    go_enter Tryz.func179, Tryz.ntmps179
    go_wp2
    go_ret
    exact ⟨rfl, by first | exact Below.refl _ _ | exact (Below.refl _ _).alloc (Nat.le_refl _) _⟩
  · show Calls Tryz.prog 179 _ _ _
    go_enter Tryz.func179, Tryz.ntmps179
    go_wp2
    go_ret
    exact ⟨rfl, by first | exact Below.refl _ _ | exact (Below.refl _ _).alloc (Nat.le_refl _) _⟩
  · show Calls Tryz.prog 187 _ _ _
    go_enter Tryz.func187, Tryz.ntmps187
    go_wp2
    go_ret
    exact ⟨rfl, by first | exact Below.refl _ _ | exact (Below.refl _ _).alloc (Nat.le_refl _) _⟩
  · show Calls Tryz.prog 187 _ _ _
    go_enter Tryz.func187, Tryz.ntmps187
    go_wp2
    go_ret
    exact ⟨rfl, by first | exact Below.refl _ _ | exact (Below.refl _ _).alloc (Nat.le_refl _) _⟩
  · show Calls Tryz.prog 187 _ _ _
    go_enter Tryz.func187, Tryz.ntmps187
    go_wp2
    go_ret
    exact ⟨rfl, by first | exact Below.refl _ _ | exact (Below.refl _ _).alloc (Nat.le_refl _) _⟩
  · show Calls Tryz.prog 194 _ _ _
    go_enter Tryz.func194, Tryz.ntmps194
    go_wp2
    go_ret
    exact ⟨rfl, by first | exact Below.refl _ _ | exact (Below.refl _ _).alloc (Nat.le_refl _) _⟩
  · show Calls Tryz.prog 187 _ _ _
    go_enter Tryz.func187, Tryz.ntmps187
    go_wp2
    go_ret
    exact ⟨rfl, by first | exact Below.refl _ _ | exact (Below.refl _ _).alloc (Nat.le_refl _) _⟩
  · show Calls Tryz.prog 187 _ _ _
    go_enter Tryz.func187, Tryz.ntmps187
    go_wp2
    go_ret
    exact ⟨rfl, by first | exact Below.refl _ _ | exact (Below.refl _ _).alloc (Nat.le_refl _) _⟩
  · show Calls Tryz.prog 201 _ _ _
    go_enter Tryz.func201, Tryz.ntmps201
    go_wp2
    go_ret
    exact ⟨rfl, by first | exact Below.refl _ _ | exact (Below.refl _ _).alloc (Nat.le_refl _) _⟩
  · show Calls Tryz.prog 205 _ _ _
    go_enter Tryz.func205, Tryz.ntmps205
    go_wp2
    go_ret
    exact ⟨rfl, by first | exact Below.refl _ _ | exact (Below.refl _ _).alloc (Nat.le_refl _) _⟩
theorem wordI (o : Int) (h : 1 ≤ o ∧ o ≤ 10) (w : World) : Calls Tryz.prog (wordF o) #[.agg #[]] w fun e w' => e = .returned (.string ⟨(wordT o).toArray⟩) ∧ Below w.heap.size w w' := by
  rcases ops10 h with rfl | rfl | rfl | rfl | rfl | rfl | rfl | rfl | rfl | rfl
  · show Calls Tryz.prog 180 _ _ _
    go_enter Tryz.func180, Tryz.ntmps180
    go_wp2
    go_ret
    exact ⟨rfl, by first | exact Below.refl _ _ | exact (Below.refl _ _).alloc (Nat.le_refl _) _⟩
  · show Calls Tryz.prog 180 _ _ _
    go_enter Tryz.func180, Tryz.ntmps180
    go_wp2
    go_ret
    exact ⟨rfl, by first | exact Below.refl _ _ | exact (Below.refl _ _).alloc (Nat.le_refl _) _⟩
  · show Calls Tryz.prog 189 _ _ _
    go_enter Tryz.func189, Tryz.ntmps189
    go_wp2
    go_ret
    exact ⟨rfl, by first | exact Below.refl _ _ | exact (Below.refl _ _).alloc (Nat.le_refl _) _⟩
  · show Calls Tryz.prog 191 _ _ _
    go_enter Tryz.func191, Tryz.ntmps191
    go_wp2
    go_ret
    exact ⟨rfl, by first | exact Below.refl _ _ | exact (Below.refl _ _).alloc (Nat.le_refl _) _⟩
  · show Calls Tryz.prog 193 _ _ _
    go_enter Tryz.func193, Tryz.ntmps193
    go_wp2
    go_ret
    exact ⟨rfl, by first | exact Below.refl _ _ | exact (Below.refl _ _).alloc (Nat.le_refl _) _⟩
  · show Calls Tryz.prog 196 _ _ _
    go_enter Tryz.func196, Tryz.ntmps196
    go_wp2
    go_ret
    exact ⟨rfl, by first | exact Below.refl _ _ | exact (Below.refl _ _).alloc (Nat.le_refl _) _⟩
  · show Calls Tryz.prog 198 _ _ _
    go_enter Tryz.func198, Tryz.ntmps198
    go_wp2
    go_ret
    exact ⟨rfl, by first | exact Below.refl _ _ | exact (Below.refl _ _).alloc (Nat.le_refl _) _⟩
  · show Calls Tryz.prog 200 _ _ _
    go_enter Tryz.func200, Tryz.ntmps200
    go_wp2
    go_ret
    exact ⟨rfl, by first | exact Below.refl _ _ | exact (Below.refl _ _).alloc (Nat.le_refl _) _⟩
  · show Calls Tryz.prog 203 _ _ _
    go_enter Tryz.func203, Tryz.ntmps203
    go_wp2
    go_ret
    exact ⟨rfl, by first | exact Below.refl _ _ | exact (Below.refl _ _).alloc (Nat.le_refl _) _⟩
  · show Calls Tryz.prog 207 _ _ _
    go_enter Tryz.func207, Tryz.ntmps207
    go_wp2
    go_ret
    exact ⟨rfl, by first | exact Below.refl _ _ | exact (Below.refl _ _).alloc (Nat.le_refl _) _⟩
end Go.Proofs.YtjhgmmcglonokaaGreatDoor

namespace Go.Proofs.YtjhgmmcglonokaaGreatDoor
open Go.RowKit
set_option linter.unusedVariables false
set_option linter.unusedSimpArgs false

set_option maxHeartbeats 8000000 in
theorem holdsNum (o n : Int) (s : ByteArray) (ka ma : Option Addr) (k kc mc : Nat) (ms : List (Int × Int)) (w : World) (hs : s.size ≤ maxLen) (hm : MarksN All w ma ms.length ms) (hml : ms.length ≤ 1048576) :
    Calls Tryz.prog 181 #[.agg #[], .agg #[.int .i64 o, .int .i64 n, .string s, .slice ka k kc, .slice ma ms.length mc]] w (BoolP (-1000000000 ≤ n ∧ n ≤ 1000000000 ∧ s.size = 0 ∧ ms.length = 0) w) := by
  have HM := Lib.hid hm
  have HML := Lib.hid hml
  clear hm hml
  have hA : Hid (Below w.heap.size w ((w.alloc (.cells #[] 140)).alloc (.cells #[.int .i64 o, .int .i64 n, .string s, .slice ka k kc, .slice ma ms.length mc] 37))) := ((Below.refl w.heap.size w).alloc (Nat.le_refl _) _).alloc (by simp only [World.size_alloc]; omega) _
  cases h0 : (decide (-1000000000 ≤ n)) with
  | false =>
    have x0 := Lib.hid ((by simpa using h0 : n < -1000000000))
    go_enter Tryz.func181, Tryz.ntmps181
    go_wp2
    go_ret
    exact ⟨false, rfl, ⟨fun h => (by cases h), fun h => (by have hx := x0.out; have a1 := h.1; have a2 := h.2.1; have a3 := h.2.2.1; have a4 := h.2.2.2; omega)⟩, hA.out⟩
  | true =>
    have x0 := Lib.hid ((by simpa using h0 : -1000000000 ≤ n))
    cases h1 : (decide (n ≤ 1000000000)) with
    | false =>
      have x1 := Lib.hid ((by simpa using h1 : 1000000000 < n))
      go_enter Tryz.func181, Tryz.ntmps181
      go_wp2
      go_ret
      exact ⟨false, rfl, ⟨fun h => (by cases h), fun h => (by have hx := x1.out; have a1 := h.1; have a2 := h.2.1; have a3 := h.2.2.1; have a4 := h.2.2.2; omega)⟩, hA.out⟩
    | true =>
      have x1 := Lib.hid ((by simpa using h1 : n ≤ 1000000000))
      cases h2 : (s.toList.isEmpty) with
      | false =>
        have x2 := Lib.hid (str_full h2)
        go_enter Tryz.func181, Tryz.ntmps181
        go_wp2
        go_ret
        exact ⟨false, rfl, ⟨fun h => (by cases h), fun h => (by have hx := x2.out; have a1 := h.1; have a2 := h.2.1; have a3 := h.2.2.1; have a4 := h.2.2.2; omega)⟩, hA.out⟩
      | true =>
        have x2 := Lib.hid (str_empty h2)
        cases h3 : (((ms.length : Int) == 0)) with
        | false =>
          have x3 := Lib.hid ((by simpa using h3 : ms.length ≠ 0))
          go_enter Tryz.func181, Tryz.ntmps181
          go_wp2
          go_ret
          exact ⟨false, rfl, ⟨fun h => (by cases h), fun h => (by have hx := x3.out; have a1 := h.1; have a2 := h.2.1; have a3 := h.2.2.1; have a4 := h.2.2.2; omega)⟩, hA.out⟩
        | true =>
          have x3 := Lib.hid ((by simpa using h3 : ms.length = 0))
          go_enter Tryz.func181, Tryz.ntmps181
          go_wp2
          go_ret
          exact ⟨true, rfl, ⟨fun _ => (by have y0 := x0.out; have y1 := x1.out; have y2 := x2.out; have y3 := x3.out; exact ⟨y0, y1, y2, y3⟩), fun _ => rfl⟩, hA.out⟩

set_option maxHeartbeats 8000000 in
theorem holdsBare (o n : Int) (s : ByteArray) (ka ma : Option Addr) (k kc mc : Nat) (ms : List (Int × Int)) (w : World) (hs : s.size ≤ maxLen) (hm : MarksN All w ma ms.length ms) (hml : ms.length ≤ 1048576) :
    Calls Tryz.prog 186 #[.agg #[], .agg #[.int .i64 o, .int .i64 n, .string s, .slice ka k kc, .slice ma ms.length mc]] w (BoolP (n = 0 ∧ s.size = 0 ∧ ms.length = 0) w) := by
  have HM := Lib.hid hm
  have HML := Lib.hid hml
  clear hm hml
  have hA : Hid (Below w.heap.size w ((w.alloc (.cells #[] 142)).alloc (.cells #[.int .i64 o, .int .i64 n, .string s, .slice ka k kc, .slice ma ms.length mc] 37))) := ((Below.refl w.heap.size w).alloc (Nat.le_refl _) _).alloc (by simp only [World.size_alloc]; omega) _
  cases h0 : ((n == 0)) with
  | false =>
    have x0 := Lib.hid ((by simpa using h0 : n ≠ 0))
    go_enter Tryz.func186, Tryz.ntmps186
    go_wp2
    go_ret
    exact ⟨false, rfl, ⟨fun h => (by cases h), fun h => (by have hx := x0.out; have a1 := h.1; have a2 := h.2.1; have a3 := h.2.2; omega)⟩, hA.out⟩
  | true =>
    have x0 := Lib.hid ((by simpa using h0 : n = 0))
    cases h1 : (s.toList.isEmpty) with
    | false =>
      have x1 := Lib.hid (str_full h1)
      go_enter Tryz.func186, Tryz.ntmps186
      go_wp2
      go_ret
      exact ⟨false, rfl, ⟨fun h => (by cases h), fun h => (by have hx := x1.out; have a1 := h.1; have a2 := h.2.1; have a3 := h.2.2; omega)⟩, hA.out⟩
    | true =>
      have x1 := Lib.hid (str_empty h1)
      cases h2 : (((ms.length : Int) == 0)) with
      | false =>
        have x2 := Lib.hid ((by simpa using h2 : ms.length ≠ 0))
        go_enter Tryz.func186, Tryz.ntmps186
        go_wp2
        go_ret
        exact ⟨false, rfl, ⟨fun h => (by cases h), fun h => (by have hx := x2.out; have a1 := h.1; have a2 := h.2.1; have a3 := h.2.2; omega)⟩, hA.out⟩
      | true =>
        have x2 := Lib.hid ((by simpa using h2 : ms.length = 0))
        go_enter Tryz.func186, Tryz.ntmps186
        go_wp2
        go_ret
        exact ⟨true, rfl, ⟨fun _ => (by have y0 := x0.out; have y1 := x1.out; have y2 := x2.out; exact ⟨y0, y1, y2⟩), fun _ => rfl⟩, hA.out⟩

set_option maxHeartbeats 8000000 in
theorem holdsVar (o n : Int) (s : ByteArray) (ka ma : Option Addr) (k kc mc : Nat) (ms : List (Int × Int)) (w : World) (hs : s.size ≤ maxLen) (hm : MarksN All w ma ms.length ms) (hml : ms.length ≤ 1048576) :
    Calls Tryz.prog 183 #[.agg #[], .agg #[.int .i64 o, .int .i64 n, .string s, .slice ka k kc, .slice ma ms.length mc]] w (BoolP (nameB s.data.toList = true ∧ n = 0 ∧ ms.length = 0) w) := by
  have HM := Lib.hid hm
  have HML := Lib.hid hml
  clear hm hml
  have hA : Hid (Below w.heap.size w ((w.alloc (.cells #[] 141)).alloc (.cells #[.int .i64 o, .int .i64 n, .string s, .slice ka k kc, .slice ma ms.length mc] 37))) := ((Below.refl w.heap.size w).alloc (Nat.le_refl _) _).alloc (by simp only [World.size_alloc]; omega) _
  have HC : Hid (Calls Tryz.prog 185 #[.string s] ((w.alloc (.cells #[] 141)).alloc (.cells #[.int .i64 o, .int .i64 n, .string s, .slice ka k kc, .slice ma ms.length mc] 37)) fun e w' => e = .returned (.bool (nameB s.data.toList)) ∧ ((w.alloc (.cells #[] 141)).alloc (.cells #[.int .i64 o, .int .i64 n, .string s, .slice ka k kc, .slice ma ms.length mc] 37)) = w') := implName s _ hs
  generalize hnb : nameB s.data.toList = nb at *
  have HN := Lib.hid hnb
  clear hnb
  cases h0 : (nb) with
  | false =>
    have x0 := Lib.hid (h0)
    go_enter Tryz.func183, Tryz.ntmps183
    go_wp2_with fail
    refine HC.out.mono ?_
    rintro e w' ⟨rfl, rfl⟩
    go_wp2
    go_ret
    exact ⟨false, rfl, ⟨fun h => (by cases h), fun h => (by have hx := x0.out; first | (have a2 := h.2.1; have a3 := h.2.2; omega) | (exact absurd h.1 (by simp)))⟩, hA.out⟩
  | true =>
    have x0 := Lib.hid (h0)
    cases h1 : ((n == 0)) with
    | false =>
      have x1 := Lib.hid ((by simpa using h1 : n ≠ 0))
      go_enter Tryz.func183, Tryz.ntmps183
      go_wp2_with fail
      refine HC.out.mono ?_
      rintro e w' ⟨rfl, rfl⟩
      go_wp2
      go_ret
      exact ⟨false, rfl, ⟨fun h => (by cases h), fun h => (by have hx := x1.out; first | (have a2 := h.2.1; have a3 := h.2.2; omega) | (exact absurd h.1 (by simp)))⟩, hA.out⟩
    | true =>
      have x1 := Lib.hid ((by simpa using h1 : n = 0))
      cases h2 : (((ms.length : Int) == 0)) with
      | false =>
        have x2 := Lib.hid ((by simpa using h2 : ms.length ≠ 0))
        go_enter Tryz.func183, Tryz.ntmps183
        go_wp2_with fail
        refine HC.out.mono ?_
        rintro e w' ⟨rfl, rfl⟩
        go_wp2
        go_ret
        exact ⟨false, rfl, ⟨fun h => (by cases h), fun h => (by have hx := x2.out; first | (have a2 := h.2.1; have a3 := h.2.2; omega) | (exact absurd h.1 (by simp)))⟩, hA.out⟩
      | true =>
        have x2 := Lib.hid ((by simpa using h2 : ms.length = 0))
        go_enter Tryz.func183, Tryz.ntmps183
        go_wp2_with fail
        refine HC.out.mono ?_
        rintro e w' ⟨rfl, rfl⟩
        go_wp2
        go_ret
        exact ⟨true, rfl, ⟨fun _ => (by have y0 := x0.out; have y1 := x1.out; have y2 := x2.out; exact ⟨trivial, y1, y2⟩), fun _ => rfl⟩, hA.out⟩

set_option maxHeartbeats 8000000 in
theorem holdsTiers (o n : Int) (s : ByteArray) (ka ma : Option Addr) (k kc mc : Nat) (ms : List (Int × Int)) (w : World) (hs : s.size ≤ maxLen) (hm : MarksN All w ma ms.length ms) (hml : ms.length ≤ 1048576) :
    Calls Tryz.prog 204 #[.agg #[], .agg #[.int .i64 o, .int .i64 n, .string s, .slice ka k kc, .slice ma ms.length mc]] w (BoolP (n = 0 ∧ s.size = 0 ∧ MOk (mF ms) (mP ms) ms.length) w) := by
  have HM := Lib.hid hm
  have HML := Lib.hid hml
  clear hm hml
  have hA : Hid (Below w.heap.size w ((w.alloc (.cells #[] 153)).alloc (.cells #[.int .i64 o, .int .i64 n, .string s, .slice ka k kc, .slice ma ms.length mc] 37))) := ((Below.refl w.heap.size w).alloc (Nat.le_refl _) _).alloc (by simp only [World.size_alloc]; omega) _
  cases h0 : ((n == 0)) with
  | false =>
    have x0 := Lib.hid ((by simpa using h0 : n ≠ 0))
    go_enter Tryz.func204, Tryz.ntmps204
    go_wp2
    go_ret
    exact ⟨false, rfl, ⟨fun h => (by cases h), fun h => (by have hx := x0.out; have a1 := h.1; have a2 := h.2.1; omega)⟩, hA.out⟩
  | true =>
    have x0 := Lib.hid ((by simpa using h0 : n = 0))
    cases h1 : (s.toList.isEmpty) with
    | false =>
      have x1 := Lib.hid (str_full h1)
      go_enter Tryz.func204, Tryz.ntmps204
      go_wp2
      go_ret
      exact ⟨false, rfl, ⟨fun h => (by cases h), fun h => (by have hx := x1.out; have a1 := h.1; have a2 := h.2.1; omega)⟩, hA.out⟩
    | true =>
      have x1 := Lib.hid (str_empty h1)
      go_enter Tryz.func204, Tryz.ntmps204
      go_wp2_with fail
      refine (implMarksOk ma ms.length mc (mF ms) (mP ms) _ (marks_of_N (HM.out.kept (same_of_below hA.out))) HML.out).mono ?_
      rintro e w1 ⟨b, rfl, hb, d1⟩
      have Hb : Hid (b = true ↔ MOk (mF ms) (mP ms) ms.length) := hb
      clear hb
      go_wp2
      go_ret
      have y0 := x0.out; have y1 := x1.out;
      exact ⟨b, rfl, ⟨fun h => ⟨y0, y1, Hb.out.1 h⟩, fun h => Hb.out.2 h.2.2⟩, hA.out.trans (d1.mono hA.out.size)⟩

theorem BoolP.iff {p q : Prop} {w : World} {e : Ending} {w' : World} (h : BoolP p w e w') (k : p ↔ q) : BoolP q w e w' := by
  obtain ⟨b, h1, h2, h3⟩ := h
  exact ⟨b, h1, h2.out.trans k, h3⟩
theorem holdsI (o n : Int) (s : ByteArray) (ka ma : Option Addr) (k kc mc : Nat) (ms : List (Int × Int)) (w : World) (h : 1 ≤ o ∧ o ≤ 10) (hs : s.size ≤ maxLen) (hm : MarksN All w ma ms.length ms) (hml : ms.length ≤ 1048576) :
    Calls Tryz.prog (holdsF o) #[.agg #[], .agg #[.int .i64 o, .int .i64 n, .string s, .slice ka k kc, .slice ma ms.length mc]] w (BoolP (HoldsN o n s ms) w) := by
  rcases ops10 h with rfl | rfl | rfl | rfl | rfl | rfl | rfl | rfl | rfl | rfl
  · exact (holdsNum 1 n s ka ma k kc mc ms w hs hm hml).mono fun _ _ q => q.iff ⟨fun h => ⟨⟨h.1, h.2.1⟩, h.2.2.1, h.2.2.2⟩, fun h => ⟨h.1.1, h.1.2, h.2.1, h.2.2⟩⟩
  · exact (holdsVar 2 n s ka ma k kc mc ms w hs hm hml).mono fun _ _ q => q.iff Iff.rfl
  · exact (holdsBare 3 n s ka ma k kc mc ms w hs hm hml).mono fun _ _ q => q.iff Iff.rfl
  · exact (holdsBare 4 n s ka ma k kc mc ms w hs hm hml).mono fun _ _ q => q.iff Iff.rfl
  · exact (holdsBare 5 n s ka ma k kc mc ms w hs hm hml).mono fun _ _ q => q.iff Iff.rfl
  · exact (holdsBare 6 n s ka ma k kc mc ms w hs hm hml).mono fun _ _ q => q.iff Iff.rfl
  · exact (holdsBare 7 n s ka ma k kc mc ms w hs hm hml).mono fun _ _ q => q.iff Iff.rfl
  · exact (holdsBare 8 n s ka ma k kc mc ms w hs hm hml).mono fun _ _ q => q.iff Iff.rfl
  · exact (holdsBare 9 n s ka ma k kc mc ms w hs hm hml).mono fun _ _ q => q.iff Iff.rfl
  · exact (holdsTiers 10 n s ka ma k kc mc ms w hs hm hml).mono fun _ _ q => q.iff Iff.rfl
end Go.Proofs.YtjhgmmcglonokaaGreatDoor
