/-
  The table of ops in the program: each op's row, and what its methods are.
-/
import Derived.Test.YtembapomapcdfaaDoorRuleBase
import Derived.Deep.Quiet
namespace Go.Proofs.YtembapomapcdfaaDoor
open Go.RowKit
set_option linter.unusedVariables false
set_option linter.unusedSimpArgs false

def opT (o : Int) : TypeId := if o = 1 then 112 else if o = 2 then 113 else if o = 3 then 118 else if o = 4 then 119 else if o = 5 then 120 else if o = 6 then 121 else if o = 7 then 122 else if o = 8 then 123 else if o = 9 then 124 else 125
def kidsF (o : Int) : FuncId := if o = 1 then 120 else if o = 2 then 120 else if o = 3 then 128 else if o = 4 then 128 else if o = 5 then 128 else if o = 6 then 135 else if o = 7 then 128 else if o = 8 then 128 else if o = 9 then 142 else 146
def wordF (o : Int) : FuncId := if o = 1 then 121 else if o = 2 then 121 else if o = 3 then 130 else if o = 4 then 132 else if o = 5 then 134 else if o = 6 then 137 else if o = 7 then 139 else if o = 8 then 141 else if o = 9 then 144 else 148
def holdsF (o : Int) : FuncId := if o = 1 then 122 else if o = 2 then 124 else if o = 3 then 127 else if o = 4 then 127 else if o = 5 then 127 else if o = 6 then 127 else if o = 7 then 127 else if o = 8 then 127 else if o = 9 then 127 else 145
def opVal (o : Int) : Value := .iface (opT o) (.agg #[])
theorem ops10 {o : Int} (h : 1 ≤ o ∧ o ≤ 10) : o = 1 ∨ o = 2 ∨ o = 3 ∨ o = 4 ∨ o = 5 ∨ o = 6 ∨ o = 7 ∨ o = 8 ∨ o = 9 ∨ o = 10 := by omega
theorem kidsN_in {o : Int} (h : kidsN o ≠ -1) : 1 ≤ o ∧ o ≤ 10 := by
  unfold kidsN at h
  repeat (split at h; · omega)
  exact absurd rfl h
theorem kidsN_low {o : Int} (h : ¬ (1 ≤ o ∧ o ≤ 10)) : kidsN o = -1 := by
  unfold kidsN
  rw [if_neg (by omega), if_neg (by omega), if_neg (by omega), if_neg (by omega), if_neg (by omega)]
set_option maxHeartbeats 4000000 in
theorem opOf (o : Int) (w : World) (h : 1 ≤ o ∧ o ≤ 10) :
    Calls Tryd.prog 63 #[.int .i64 o] w fun e w' => e = .returned (.iface (opT o) (.agg #[])) ∧ Below w.heap.size w w' := by
  rcases ops10 h with rfl | rfl | rfl | rfl | rfl | rfl | rfl | rfl | rfl | rfl
  all_goals
    go_enter Tryd.func63, Tryd.ntmps63
    go_wp2
    go_ret
    exact ⟨rfl, (Below.refl _ _).alloc (Nat.le_refl _) _⟩
set_option maxHeartbeats 4000000 in
theorem opNone (o : Int) (w : World) (h0 : ¬ (1 ≤ o ∧ o ≤ 10)) :
    Calls Tryd.prog 63 #[.int .i64 o] w fun e w' => e = .returned .nilIface ∧ Below w.heap.size w w' := by
  rcases Int.lt_or_le o 1 with h | h
  · have z0 : decide (o < 1) = true := decide_eq_true h
    clear h0
    go_enter Tryd.func63, Tryd.ntmps63
    go_wp2
    go_ret
    exact ⟨rfl, Below.refl _ _⟩
  · have z0 : decide (o < 1) = false := decide_eq_false (by omega)
    have z1 : decide (10 < o) = true := decide_eq_true (by omega)
    clear h0
    go_enter Tryd.func63, Tryd.ntmps63
    go_wp2
    go_ret
    exact ⟨rfl, Below.refl _ _⟩
theorem meth_kids (o : Int) (h : 1 ≤ o ∧ o ≤ 10) (w : World) : (method 270 (opT o) (.agg #[]) "loop.example/stopover/impl.kids").run Tryd.prog w = .ok (kidsF o, .agg #[]) w := by
  rcases ops10 h with rfl | rfl | rfl | rfl | rfl | rfl | rfl | rfl | rfl | rfl <;> kernel_rfl
theorem nil_kids (o : Int) (h : 1 ≤ o ∧ o ≤ 10) (w : World) : (nilAhead 270 (opT o) (.agg #[]) "loop.example/stopover/impl.kids").run Tryd.prog w = .ok (some false) w := by
  rcases ops10 h with rfl | rfl | rfl | rfl | rfl | rfl | rfl | rfl | rfl | rfl <;> kernel_rfl
theorem call_kids (o : Int) (h : 1 ≤ o ∧ o ≤ 10) (args : Array Value) (w : World) : (callFunc (kidsF o) args).run Tryd.prog w = .ok (.enter (kidsF o) args) w := by
  rcases ops10 h with rfl | rfl | rfl | rfl | rfl | rfl | rfl | rfl | rfl | rfl <;> kernel_rfl
theorem meth_word (o : Int) (h : 1 ≤ o ∧ o ≤ 10) (w : World) : (method 270 (opT o) (.agg #[]) "loop.example/stopover/impl.word").run Tryd.prog w = .ok (wordF o, .agg #[]) w := by
  rcases ops10 h with rfl | rfl | rfl | rfl | rfl | rfl | rfl | rfl | rfl | rfl <;> kernel_rfl
theorem nil_word (o : Int) (h : 1 ≤ o ∧ o ≤ 10) (w : World) : (nilAhead 270 (opT o) (.agg #[]) "loop.example/stopover/impl.word").run Tryd.prog w = .ok (some false) w := by
  rcases ops10 h with rfl | rfl | rfl | rfl | rfl | rfl | rfl | rfl | rfl | rfl <;> kernel_rfl
theorem call_word (o : Int) (h : 1 ≤ o ∧ o ≤ 10) (args : Array Value) (w : World) : (callFunc (wordF o) args).run Tryd.prog w = .ok (.enter (wordF o) args) w := by
  rcases ops10 h with rfl | rfl | rfl | rfl | rfl | rfl | rfl | rfl | rfl | rfl <;> kernel_rfl
theorem meth_holds (o : Int) (h : 1 ≤ o ∧ o ≤ 10) (w : World) : (method 270 (opT o) (.agg #[]) "loop.example/stopover/impl.holds").run Tryd.prog w = .ok (holdsF o, .agg #[]) w := by
  rcases ops10 h with rfl | rfl | rfl | rfl | rfl | rfl | rfl | rfl | rfl | rfl <;> kernel_rfl
theorem nil_holds (o : Int) (h : 1 ≤ o ∧ o ≤ 10) (w : World) : (nilAhead 270 (opT o) (.agg #[]) "loop.example/stopover/impl.holds").run Tryd.prog w = .ok (some false) w := by
  rcases ops10 h with rfl | rfl | rfl | rfl | rfl | rfl | rfl | rfl | rfl | rfl <;> kernel_rfl
theorem call_holds (o : Int) (h : 1 ≤ o ∧ o ≤ 10) (args : Array Value) (w : World) : (callFunc (holdsF o) args).run Tryd.prog w = .ok (.enter (holdsF o) args) w := by
  rcases ops10 h with rfl | rfl | rfl | rfl | rfl | rfl | rfl | rfl | rfl | rfl <;> kernel_rfl
theorem kidsI (o : Int) (h : 1 ≤ o ∧ o ≤ 10) (w : World) : Calls Tryd.prog (kidsF o) #[.agg #[]] w fun e w' => e = .returned (.int .i64 (kidsN o)) ∧ Below w.heap.size w w' := by
  rcases ops10 h with rfl | rfl | rfl | rfl | rfl | rfl | rfl | rfl | rfl | rfl
  · show Calls Tryd.prog 120 _ _ _
    go_enter Tryd.func120, Tryd.ntmps120
    go_wp2
    go_ret
    exact ⟨rfl, by first | exact Below.refl _ _ | exact (Below.refl _ _).alloc (Nat.le_refl _) _⟩
  · show Calls Tryd.prog 120 _ _ _
    go_enter Tryd.func120, Tryd.ntmps120
    go_wp2
    go_ret
    exact ⟨rfl, by first | exact Below.refl _ _ | exact (Below.refl _ _).alloc (Nat.le_refl _) _⟩
  · show Calls Tryd.prog 128 _ _ _
    go_enter Tryd.func128, Tryd.ntmps128
    go_wp2
    go_ret
    exact ⟨rfl, by first | exact Below.refl _ _ | exact (Below.refl _ _).alloc (Nat.le_refl _) _⟩
  · show Calls Tryd.prog 128 _ _ _
    go_enter Tryd.func128, Tryd.ntmps128
    go_wp2
    go_ret
    exact ⟨rfl, by first | exact Below.refl _ _ | exact (Below.refl _ _).alloc (Nat.le_refl _) _⟩
  · show Calls Tryd.prog 128 _ _ _
    go_enter Tryd.func128, Tryd.ntmps128
    go_wp2
    go_ret
    exact ⟨rfl, by first | exact Below.refl _ _ | exact (Below.refl _ _).alloc (Nat.le_refl _) _⟩
  · show Calls Tryd.prog 135 _ _ _
    go_enter Tryd.func135, Tryd.ntmps135
    go_wp2
    go_ret
    exact ⟨rfl, by first | exact Below.refl _ _ | exact (Below.refl _ _).alloc (Nat.le_refl _) _⟩
  · show Calls Tryd.prog 128 _ _ _
    go_enter Tryd.func128, Tryd.ntmps128
    go_wp2
    go_ret
    exact ⟨rfl, by first | exact Below.refl _ _ | exact (Below.refl _ _).alloc (Nat.le_refl _) _⟩
  · show Calls Tryd.prog 128 _ _ _
    go_enter Tryd.func128, Tryd.ntmps128
    go_wp2
    go_ret
    exact ⟨rfl, by first | exact Below.refl _ _ | exact (Below.refl _ _).alloc (Nat.le_refl _) _⟩
  · show Calls Tryd.prog 142 _ _ _
    go_enter Tryd.func142, Tryd.ntmps142
    go_wp2
    go_ret
    exact ⟨rfl, by first | exact Below.refl _ _ | exact (Below.refl _ _).alloc (Nat.le_refl _) _⟩
  · show Calls Tryd.prog 146 _ _ _
    go_enter Tryd.func146, Tryd.ntmps146
    go_wp2
    go_ret
    exact ⟨rfl, by first | exact Below.refl _ _ | exact (Below.refl _ _).alloc (Nat.le_refl _) _⟩
theorem wordI (o : Int) (h : 1 ≤ o ∧ o ≤ 10) (w : World) : Calls Tryd.prog (wordF o) #[.agg #[]] w fun e w' => e = .returned (.string ⟨(wordT o).toArray⟩) ∧ Below w.heap.size w w' := by
  rcases ops10 h with rfl | rfl | rfl | rfl | rfl | rfl | rfl | rfl | rfl | rfl
  · show Calls Tryd.prog 121 _ _ _
    go_enter Tryd.func121, Tryd.ntmps121
    go_wp2
    go_ret
    exact ⟨rfl, by first | exact Below.refl _ _ | exact (Below.refl _ _).alloc (Nat.le_refl _) _⟩
  · show Calls Tryd.prog 121 _ _ _
    go_enter Tryd.func121, Tryd.ntmps121
    go_wp2
    go_ret
    exact ⟨rfl, by first | exact Below.refl _ _ | exact (Below.refl _ _).alloc (Nat.le_refl _) _⟩
  · show Calls Tryd.prog 130 _ _ _
    go_enter Tryd.func130, Tryd.ntmps130
    go_wp2
    go_ret
    exact ⟨rfl, by first | exact Below.refl _ _ | exact (Below.refl _ _).alloc (Nat.le_refl _) _⟩
  · show Calls Tryd.prog 132 _ _ _
    go_enter Tryd.func132, Tryd.ntmps132
    go_wp2
    go_ret
    exact ⟨rfl, by first | exact Below.refl _ _ | exact (Below.refl _ _).alloc (Nat.le_refl _) _⟩
  · show Calls Tryd.prog 134 _ _ _
    go_enter Tryd.func134, Tryd.ntmps134
    go_wp2
    go_ret
    exact ⟨rfl, by first | exact Below.refl _ _ | exact (Below.refl _ _).alloc (Nat.le_refl _) _⟩
  · show Calls Tryd.prog 137 _ _ _
    go_enter Tryd.func137, Tryd.ntmps137
    go_wp2
    go_ret
    exact ⟨rfl, by first | exact Below.refl _ _ | exact (Below.refl _ _).alloc (Nat.le_refl _) _⟩
  · show Calls Tryd.prog 139 _ _ _
    go_enter Tryd.func139, Tryd.ntmps139
    go_wp2
    go_ret
    exact ⟨rfl, by first | exact Below.refl _ _ | exact (Below.refl _ _).alloc (Nat.le_refl _) _⟩
  · show Calls Tryd.prog 141 _ _ _
    go_enter Tryd.func141, Tryd.ntmps141
    go_wp2
    go_ret
    exact ⟨rfl, by first | exact Below.refl _ _ | exact (Below.refl _ _).alloc (Nat.le_refl _) _⟩
  · show Calls Tryd.prog 144 _ _ _
    go_enter Tryd.func144, Tryd.ntmps144
    go_wp2
    go_ret
    exact ⟨rfl, by first | exact Below.refl _ _ | exact (Below.refl _ _).alloc (Nat.le_refl _) _⟩
  · show Calls Tryd.prog 148 _ _ _
    go_enter Tryd.func148, Tryd.ntmps148
    go_wp2
    go_ret
    exact ⟨rfl, by first | exact Below.refl _ _ | exact (Below.refl _ _).alloc (Nat.le_refl _) _⟩
end Go.Proofs.YtembapomapcdfaaDoor
