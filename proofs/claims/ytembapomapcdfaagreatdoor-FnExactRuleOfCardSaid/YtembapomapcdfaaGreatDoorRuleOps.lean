/-
  The table of ops in the program: each op's row, and what its methods are.
-/
import Derived.Test.YtembapomapcdfaaGreatDoorRuleBase
import Derived.Deep.Quiet
namespace Go.Proofs.YtembapomapcdfaaGreatDoor
open Go.RowKit
set_option linter.unusedVariables false
set_option linter.unusedSimpArgs false

def opT (o : Int) : TypeId := if o = 1 then 131 else if o = 2 then 132 else if o = 3 then 137 else if o = 4 then 138 else if o = 5 then 139 else if o = 6 then 140 else if o = 7 then 141 else if o = 8 then 142 else if o = 9 then 143 else 144
def kidsF (o : Int) : FuncId := if o = 1 then 128 else if o = 2 then 128 else if o = 3 then 139 else if o = 4 then 139 else if o = 5 then 139 else if o = 6 then 147 else if o = 7 then 139 else if o = 8 then 139 else if o = 9 then 157 else 161
def wordF (o : Int) : FuncId := if o = 1 then 129 else if o = 2 then 129 else if o = 3 then 141 else if o = 4 then 144 else if o = 5 then 146 else if o = 6 then 149 else if o = 7 then 154 else if o = 8 then 156 else if o = 9 then 159 else 163
def holdsF (o : Int) : FuncId := if o = 1 then 130 else if o = 2 then 132 else if o = 3 then 138 else if o = 4 then 138 else if o = 5 then 138 else if o = 6 then 138 else if o = 7 then 138 else if o = 8 then 138 else if o = 9 then 138 else 160
def opVal (o : Int) : Value := .iface (opT o) (.agg #[])
theorem ops10 {o : Int} (h : 1 ≤ o ∧ o ≤ 10) : o = 1 ∨ o = 2 ∨ o = 3 ∨ o = 4 ∨ o = 5 ∨ o = 6 ∨ o = 7 ∨ o = 8 ∨ o = 9 ∨ o = 10 := by omega
theorem kidsN_in {o : Int} (h : kidsN o ≠ -1) : 1 ≤ o ∧ o ≤ 10 := by
  unfold kidsN at h
  repeat (split at h; · omega)
  exact absurd rfl h
theorem kidsN_low {o : Int} (h : ¬ (1 ≤ o ∧ o ≤ 10)) : kidsN o = -1 := by
  unfold kidsN
  rw [if_neg (by omega), if_neg (by omega), if_neg (by omega), if_neg (by omega), if_neg (by omega)]
set_option maxHeartbeats 4000000 in
theorem opOf (o : Int) (w : World) (h : 1 ≤ o ∧ o ≤ 10) :
    Calls Tryz.prog 53 #[.int .i64 o] w fun e w' => e = .returned (.iface (opT o) (.agg #[])) ∧ Below w.heap.size w w' := by
  rcases ops10 h with rfl | rfl | rfl | rfl | rfl | rfl | rfl | rfl | rfl | rfl
  all_goals
    go_enter Tryz.func53, Tryz.ntmps53
    go_wp2
    go_ret
    exact ⟨rfl, (Below.refl _ _).alloc (Nat.le_refl _) _⟩
set_option maxHeartbeats 4000000 in
theorem opNone (o : Int) (w : World) (h0 : ¬ (1 ≤ o ∧ o ≤ 10)) :
    Calls Tryz.prog 53 #[.int .i64 o] w fun e w' => e = .returned .nilIface ∧ Below w.heap.size w w' := by
  rcases Int.lt_or_le o 1 with h | h
  · have z0 : decide (o < 1) = true := decide_eq_true h
    clear h0
    go_enter Tryz.func53, Tryz.ntmps53
    go_wp2
    go_ret
    exact ⟨rfl, Below.refl _ _⟩
  · have z0 : decide (o < 1) = false := decide_eq_false (by omega)
    have z1 : decide (10 < o) = true := decide_eq_true (by omega)
    clear h0
    go_enter Tryz.func53, Tryz.ntmps53
    go_wp2
    go_ret
    exact ⟨rfl, Below.refl _ _⟩
theorem meth_kids (o : Int) (h : 1 ≤ o ∧ o ≤ 10) (w : World) : (method 304 (opT o) (.agg #[]) "loop.example/stopover/impl.kids").run Tryz.prog w = .ok (kidsF o, .agg #[]) w := by
  rcases ops10 h with rfl | rfl | rfl | rfl | rfl | rfl | rfl | rfl | rfl | rfl <;> kernel_rfl
theorem nil_kids (o : Int) (h : 1 ≤ o ∧ o ≤ 10) (w : World) : (nilAhead 304 (opT o) (.agg #[]) "loop.example/stopover/impl.kids").run Tryz.prog w = .ok (some false) w := by
  rcases ops10 h with rfl | rfl | rfl | rfl | rfl | rfl | rfl | rfl | rfl | rfl <;> kernel_rfl
theorem call_kids (o : Int) (h : 1 ≤ o ∧ o ≤ 10) (args : Array Value) (w : World) : (callFunc (kidsF o) args).run Tryz.prog w = .ok (.enter (kidsF o) args) w := by
  rcases ops10 h with rfl | rfl | rfl | rfl | rfl | rfl | rfl | rfl | rfl | rfl <;> kernel_rfl
theorem meth_word (o : Int) (h : 1 ≤ o ∧ o ≤ 10) (w : World) : (method 304 (opT o) (.agg #[]) "loop.example/stopover/impl.word").run Tryz.prog w = .ok (wordF o, .agg #[]) w := by
  rcases ops10 h with rfl | rfl | rfl | rfl | rfl | rfl | rfl | rfl | rfl | rfl <;> kernel_rfl
theorem nil_word (o : Int) (h : 1 ≤ o ∧ o ≤ 10) (w : World) : (nilAhead 304 (opT o) (.agg #[]) "loop.example/stopover/impl.word").run Tryz.prog w = .ok (some false) w := by
  rcases ops10 h with rfl | rfl | rfl | rfl | rfl | rfl | rfl | rfl | rfl | rfl <;> kernel_rfl
theorem call_word (o : Int) (h : 1 ≤ o ∧ o ≤ 10) (args : Array Value) (w : World) : (callFunc (wordF o) args).run Tryz.prog w = .ok (.enter (wordF o) args) w := by
  rcases ops10 h with rfl | rfl | rfl | rfl | rfl | rfl | rfl | rfl | rfl | rfl <;> kernel_rfl
theorem meth_holds (o : Int) (h : 1 ≤ o ∧ o ≤ 10) (w : World) : (method 304 (opT o) (.agg #[]) "loop.example/stopover/impl.holds").run Tryz.prog w = .ok (holdsF o, .agg #[]) w := by
  rcases ops10 h with rfl | rfl | rfl | rfl | rfl | rfl | rfl | rfl | rfl | rfl <;> kernel_rfl
theorem nil_holds (o : Int) (h : 1 ≤ o ∧ o ≤ 10) (w : World) : (nilAhead 304 (opT o) (.agg #[]) "loop.example/stopover/impl.holds").run Tryz.prog w = .ok (some false) w := by
  rcases ops10 h with rfl | rfl | rfl | rfl | rfl | rfl | rfl | rfl | rfl | rfl <;> kernel_rfl
theorem call_holds (o : Int) (h : 1 ≤ o ∧ o ≤ 10) (args : Array Value) (w : World) : (callFunc (holdsF o) args).run Tryz.prog w = .ok (.enter (holdsF o) args) w := by
  rcases ops10 h with rfl | rfl | rfl | rfl | rfl | rfl | rfl | rfl | rfl | rfl <;> kernel_rfl
theorem kidsI (o : Int) (h : 1 ≤ o ∧ o ≤ 10) (w : World) : Calls Tryz.prog (kidsF o) #[.agg #[]] w fun e w' => e = .returned (.int .i64 (kidsN o)) ∧ Below w.heap.size w w' := by
  rcases ops10 h with rfl | rfl | rfl | rfl | rfl | rfl | rfl | rfl | rfl | rfl
  · show Calls Tryz.prog 128 _ _ _
    go_enter Tryz.func128, Tryz.ntmps128
    go_wp2
    go_ret
    exact ⟨rfl, by first | exact Below.refl _ _ | exact (Below.refl _ _).alloc (Nat.le_refl _) _⟩
  · show Calls Tryz.prog 128 _ _ _
    go_enter Tryz.func128, Tryz.ntmps128
    go_wp2
    go_ret
    exact ⟨rfl, by first | exact Below.refl _ _ | exact (Below.refl _ _).alloc (Nat.le_refl _) _⟩
  · show Calls Tryz.prog 139 _ _ _
    go_enter Tryz.func139, Tryz.ntmps139
    go_wp2
    go_ret
    exact ⟨rfl, by first | exact Below.refl _ _ | exact (Below.refl _ _).alloc (Nat.le_refl _) _⟩
  · show Calls Tryz.prog 139 _ _ _
    go_enter Tryz.func139, Tryz.ntmps139
    go_wp2
    go_ret
    exact ⟨rfl, by first | exact Below.refl _ _ | exact (Below.refl _ _).alloc (Nat.le_refl _) _⟩
  · show Calls Tryz.prog 139 _ _ _
    go_enter Tryz.func139, Tryz.ntmps139
    go_wp2
    go_ret
    exact ⟨rfl, by first | exact Below.refl _ _ | exact (Below.refl _ _).alloc (Nat.le_refl _) _⟩
  · show Calls Tryz.prog 147 _ _ _
    go_enter Tryz.func147, Tryz.ntmps147
    go_wp2
    go_ret
    exact ⟨rfl, by first | exact Below.refl _ _ | exact (Below.refl _ _).alloc (Nat.le_refl _) _⟩
  · show Calls Tryz.prog 139 _ _ _
    go_enter Tryz.func139, Tryz.ntmps139
    go_wp2
    go_ret
    exact ⟨rfl, by first | exact Below.refl _ _ | exact (Below.refl _ _).alloc (Nat.le_refl _) _⟩
  · show Calls Tryz.prog 139 _ _ _
    go_enter Tryz.func139, Tryz.ntmps139
    go_wp2
    go_ret
    exact ⟨rfl, by first | exact Below.refl _ _ | exact (Below.refl _ _).alloc (Nat.le_refl _) _⟩
  · show Calls Tryz.prog 157 _ _ _
    go_enter Tryz.func157, Tryz.ntmps157
    go_wp2
    go_ret
    exact ⟨rfl, by first | exact Below.refl _ _ | exact (Below.refl _ _).alloc (Nat.le_refl _) _⟩
  · show Calls Tryz.prog 161 _ _ _
    go_enter Tryz.func161, Tryz.ntmps161
    go_wp2
    go_ret
    exact ⟨rfl, by first | exact Below.refl _ _ | exact (Below.refl _ _).alloc (Nat.le_refl _) _⟩
theorem wordI (o : Int) (h : 1 ≤ o ∧ o ≤ 10) (w : World) : Calls Tryz.prog (wordF o) #[.agg #[]] w fun e w' => e = .returned (.string ⟨(wordT o).toArray⟩) ∧ Below w.heap.size w w' := by
  rcases ops10 h with rfl | rfl | rfl | rfl | rfl | rfl | rfl | rfl | rfl | rfl
  · show Calls Tryz.prog 129 _ _ _
    go_enter Tryz.func129, Tryz.ntmps129
    go_wp2
    go_ret
    exact ⟨rfl, by first | exact Below.refl _ _ | exact (Below.refl _ _).alloc (Nat.le_refl _) _⟩
  · show Calls Tryz.prog 129 _ _ _
    go_enter Tryz.func129, Tryz.ntmps129
    go_wp2
    go_ret
    exact ⟨rfl, by first | exact Below.refl _ _ | exact (Below.refl _ _).alloc (Nat.le_refl _) _⟩
  · show Calls Tryz.prog 141 _ _ _
    go_enter Tryz.func141, Tryz.ntmps141
    go_wp2
    go_ret
    exact ⟨rfl, by first | exact Below.refl _ _ | exact (Below.refl _ _).alloc (Nat.le_refl _) _⟩
  · show Calls Tryz.prog 144 _ _ _
    go_enter Tryz.func144, Tryz.ntmps144
    go_wp2
    go_ret
    exact ⟨rfl, by first | exact Below.refl _ _ | exact (Below.refl _ _).alloc (Nat.le_refl _) _⟩
  · show Calls Tryz.prog 146 _ _ _
    go_enter Tryz.func146, Tryz.ntmps146
    go_wp2
    go_ret
    exact ⟨rfl, by first | exact Below.refl _ _ | exact (Below.refl _ _).alloc (Nat.le_refl _) _⟩
  · show Calls Tryz.prog 149 _ _ _
    go_enter Tryz.func149, Tryz.ntmps149
    go_wp2
    go_ret
    exact ⟨rfl, by first | exact Below.refl _ _ | exact (Below.refl _ _).alloc (Nat.le_refl _) _⟩
  · show Calls Tryz.prog 154 _ _ _
    go_enter Tryz.func154, Tryz.ntmps154
    go_wp2
    go_ret
    exact ⟨rfl, by first | exact Below.refl _ _ | exact (Below.refl _ _).alloc (Nat.le_refl _) _⟩
  · show Calls Tryz.prog 156 _ _ _
    go_enter Tryz.func156, Tryz.ntmps156
    go_wp2
    go_ret
    exact ⟨rfl, by first | exact Below.refl _ _ | exact (Below.refl _ _).alloc (Nat.le_refl _) _⟩
  · show Calls Tryz.prog 159 _ _ _
    go_enter Tryz.func159, Tryz.ntmps159
    go_wp2
    go_ret
    exact ⟨rfl, by first | exact Below.refl _ _ | exact (Below.refl _ _).alloc (Nat.le_refl _) _⟩
  · show Calls Tryz.prog 163 _ _ _
    go_enter Tryz.func163, Tryz.ntmps163
    go_wp2
    go_ret
    exact ⟨rfl, by first | exact Below.refl _ _ | exact (Below.refl _ _).alloc (Nat.le_refl _) _⟩
end Go.Proofs.YtembapomapcdfaaGreatDoor
