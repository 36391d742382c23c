/-
  The table of ops in the program: each op's row, and what its methods are.
-/
import Derived.Test.YtgoaajnppadmjaaGreatDoorRuleBase
import Derived.Deep.Quiet
namespace Go.Proofs.YtgoaajnppadmjaaGreatDoor
open Go.RowKit
set_option linter.unusedVariables false
set_option linter.unusedSimpArgs false

def opT (o : Int) : TypeId := if o = 1 then 169 else if o = 2 then 170 else if o = 3 then 175 else if o = 4 then 176 else if o = 5 then 177 else if o = 6 then 178 else if o = 7 then 179 else if o = 8 then 180 else if o = 9 then 181 else 182
def kidsF (o : Int) : FuncId := if o = 1 then 190 else if o = 2 then 190 else if o = 3 then 199 else if o = 4 then 199 else if o = 5 then 199 else if o = 6 then 206 else if o = 7 then 199 else if o = 8 then 199 else if o = 9 then 216 else 220
def wordF (o : Int) : FuncId := if o = 1 then 191 else if o = 2 then 191 else if o = 3 then 201 else if o = 4 then 203 else if o = 5 then 205 else if o = 6 then 208 else if o = 7 then 213 else if o = 8 then 215 else if o = 9 then 218 else 222
def holdsF (o : Int) : FuncId := if o = 1 then 192 else if o = 2 then 194 else if o = 3 then 198 else if o = 4 then 198 else if o = 5 then 198 else if o = 6 then 198 else if o = 7 then 198 else if o = 8 then 198 else if o = 9 then 198 else 219
def opVal (o : Int) : Value := .iface (opT o) (.agg #[])
theorem ops10 {o : Int} (h : 1 ≤ o ∧ o ≤ 10) : o = 1 ∨ o = 2 ∨ o = 3 ∨ o = 4 ∨ o = 5 ∨ o = 6 ∨ o = 7 ∨ o = 8 ∨ o = 9 ∨ o = 10 := by omega
theorem kidsN_in {o : Int} (h : kidsN o ≠ -1) : 1 ≤ o ∧ o ≤ 10 := by
  unfold kidsN at h
  repeat (split at h; · omega)
  exact absurd rfl h
theorem kidsN_low {o : Int} (h : ¬ (1 ≤ o ∧ o ≤ 10)) : kidsN o = -1 := by
  unfold kidsN
  rw [if_neg (by omega), if_neg (by omega), if_neg (by omega), if_neg (by omega), if_neg (by omega)]
set_option maxHeartbeats 4000000 in
theorem opOf (o : Int) (w : World) (h : 1 ≤ o ∧ o ≤ 10) :
    Calls Tryz.prog 92 #[.int .i64 o] w fun e w' => e = .returned (.iface (opT o) (.agg #[])) ∧ Below w.heap.size w w' := by
  rcases ops10 h with rfl | rfl | rfl | rfl | rfl | rfl | rfl | rfl | rfl | rfl
  all_goals
    go_enter Tryz.func92, Tryz.ntmps92
    go_wp2
    go_ret
    exact ⟨rfl, (Below.refl _ _).alloc (Nat.le_refl _) _⟩
set_option maxHeartbeats 4000000 in
theorem opNone (o : Int) (w : World) (h0 : ¬ (1 ≤ o ∧ o ≤ 10)) :
    Calls Tryz.prog 92 #[.int .i64 o] w fun e w' => e = .returned .nilIface ∧ Below w.heap.size w w' := by
  rcases Int.lt_or_le o 1 with h | h
  · have z0 : decide (o < 1) = true := decide_eq_true h
    clear h0
    go_enter Tryz.func92, Tryz.ntmps92
    go_wp2
    go_ret
    exact ⟨rfl, Below.refl _ _⟩
  · have z0 : decide (o < 1) = false := decide_eq_false (by omega)
    have z1 : decide (10 < o) = true := decide_eq_true (by omega)
    clear h0
    go_enter Tryz.func92, Tryz.ntmps92
    go_wp2
    go_ret
    exact ⟨rfl, Below.refl _ _⟩
theorem meth_kids (o : Int) (h : 1 ≤ o ∧ o ≤ 10) (w : World) : (method 339 (opT o) (.agg #[]) "loop.example/stopover/impl.kids").run Tryz.prog w = .ok (kidsF o, .agg #[]) w := by
  rcases ops10 h with rfl | rfl | rfl | rfl | rfl | rfl | rfl | rfl | rfl | rfl <;> kernel_rfl
theorem nil_kids (o : Int) (h : 1 ≤ o ∧ o ≤ 10) (w : World) : (nilAhead 339 (opT o) (.agg #[]) "loop.example/stopover/impl.kids").run Tryz.prog w = .ok (some false) w := by
  rcases ops10 h with rfl | rfl | rfl | rfl | rfl | rfl | rfl | rfl | rfl | rfl <;> kernel_rfl
theorem call_kids (o : Int) (h : 1 ≤ o ∧ o ≤ 10) (args : Array Value) (w : World) : (callFunc (kidsF o) args).run Tryz.prog w = .ok (.enter (kidsF o) args) w := by
  rcases ops10 h with rfl | rfl | rfl | rfl | rfl | rfl | rfl | rfl | rfl | rfl <;> kernel_rfl
theorem meth_word (o : Int) (h : 1 ≤ o ∧ o ≤ 10) (w : World) : (method 339 (opT o) (.agg #[]) "loop.example/stopover/impl.word").run Tryz.prog w = .ok (wordF o, .agg #[]) w := by
  rcases ops10 h with rfl | rfl | rfl | rfl | rfl | rfl | rfl | rfl | rfl | rfl <;> kernel_rfl
theorem nil_word (o : Int) (h : 1 ≤ o ∧ o ≤ 10) (w : World) : (nilAhead 339 (opT o) (.agg #[]) "loop.example/stopover/impl.word").run Tryz.prog w = .ok (some false) w := by
  rcases ops10 h with rfl | rfl | rfl | rfl | rfl | rfl | rfl | rfl | rfl | rfl <;> kernel_rfl
theorem call_word (o : Int) (h : 1 ≤ o ∧ o ≤ 10) (args : Array Value) (w : World) : (callFunc (wordF o) args).run Tryz.prog w = .ok (.enter (wordF o) args) w := by
  rcases ops10 h with rfl | rfl | rfl | rfl | rfl | rfl | rfl | rfl | rfl | rfl <;> kernel_rfl
theorem meth_holds (o : Int) (h : 1 ≤ o ∧ o ≤ 10) (w : World) : (method 339 (opT o) (.agg #[]) "loop.example/stopover/impl.holds").run Tryz.prog w = .ok (holdsF o, .agg #[]) w := by
  rcases ops10 h with rfl | rfl | rfl | rfl | rfl | rfl | rfl | rfl | rfl | rfl <;> kernel_rfl
theorem nil_holds (o : Int) (h : 1 ≤ o ∧ o ≤ 10) (w : World) : (nilAhead 339 (opT o) (.agg #[]) "loop.example/stopover/impl.holds").run Tryz.prog w = .ok (some false) w := by
  rcases ops10 h with rfl | rfl | rfl | rfl | rfl | rfl | rfl | rfl | rfl | rfl <;> kernel_rfl
theorem call_holds (o : Int) (h : 1 ≤ o ∧ o ≤ 10) (args : Array Value) (w : World) : (callFunc (holdsF o) args).run Tryz.prog w = .ok (.enter (holdsF o) args) w := by
  rcases ops10 h with rfl | rfl | rfl | rfl | rfl | rfl | rfl | rfl | rfl | rfl <;> kernel_rfl
theorem kidsI (o : Int) (h : 1 ≤ o ∧ o ≤ 10) (w : World) : Calls Tryz.prog (kidsF o) #[.agg #[]] w fun e w' => e = .returned (.int .i64 (kidsN o)) ∧ Below w.heap.size w w' := by
  rcases ops10 h with rfl | rfl | rfl | rfl | rfl | rfl | rfl | rfl | rfl | rfl
  · show Calls Tryz.prog 190 _ _ _
    go_enter Tryz.func190, Tryz.ntmps190
    go_wp2
    go_ret
    exact ⟨rfl, by first | exact Below.refl _ _ | exact (Below.refl _ _).alloc (Nat.le_refl _) _⟩
  · show Calls Tryz.prog 190 _ _ _
    go_enter Tryz.func190, Tryz.ntmps190
    go_wp2
    go_ret
    exact ⟨rfl, by first | exact Below.refl _ _ | exact (Below.refl _ _).alloc (Nat.le_refl _) _⟩
  · show Calls Tryz.prog 199 _ _ _
    go_enter Tryz.func199, Tryz.ntmps199
    go_wp2
    go_ret
    exact ⟨rfl, by first | exact Below.refl _ _ | exact (Below.refl _ _).alloc (Nat.le_refl _) _⟩
  · show Calls Tryz.prog 199 _ _ _
    go_enter Tryz.func199, Tryz.ntmps199
    go_wp2
    go_ret
    exact ⟨rfl, by first | exact Below.refl _ _ | exact (Below.refl _ _).alloc (Nat.le_refl _) _⟩
  · show Calls Tryz.prog 199 _ _ _
    go_enter Tryz.func199, Tryz.ntmps199
    go_wp2
    go_ret
    exact ⟨rfl, by first | exact Below.refl _ _ | exact (Below.refl _ _).alloc (Nat.le_refl _) _⟩
  · show Calls Tryz.prog 206 _ _ _
    go_enter Tryz.func206, Tryz.ntmps206
    go_wp2
    go_ret
    exact ⟨rfl, by first | exact Below.refl _ _ | exact (Below.refl _ _).alloc (Nat.le_refl _) _⟩
  · show Calls Tryz.prog 199 _ _ _
    go_enter Tryz.func199, Tryz.ntmps199
    go_wp2
    go_ret
    exact ⟨rfl, by first | exact Below.refl _ _ | exact (Below.refl _ _).alloc (Nat.le_refl _) _⟩
  · show Calls Tryz.prog 199 _ _ _
    go_enter Tryz.func199, Tryz.ntmps199
    go_wp2
    go_ret
    exact ⟨rfl, by first | exact Below.refl _ _ | exact (Below.refl _ _).alloc (Nat.le_refl _) _⟩
  · show Calls Tryz.prog 216 _ _ _
    go_enter Tryz.func216, Tryz.ntmps216
    go_wp2
    go_ret
    exact ⟨rfl, by first | exact Below.refl _ _ | exact (Below.refl _ _).alloc (Nat.le_refl _) _⟩
  · show Calls Tryz.prog 220 _ _ _
    go_enter Tryz.func220, Tryz.ntmps220
    go_wp2
    go_ret
    exact ⟨rfl, by first | exact Below.refl _ _ | exact (Below.refl _ _).alloc (Nat.le_refl _) _⟩
theorem wordI (o : Int) (h : 1 ≤ o ∧ o ≤ 10) (w : World) : Calls Tryz.prog (wordF o) #[.agg #[]] w fun e w' => e = .returned (.string ⟨(wordT o).toArray⟩) ∧ Below w.heap.size w w' := by
  rcases ops10 h with rfl | rfl | rfl | rfl | rfl | rfl | rfl | rfl | rfl | rfl
  · show Calls Tryz.prog 191 _ _ _
    go_enter Tryz.func191, Tryz.ntmps191
    go_wp2
    go_ret
    exact ⟨rfl, by first | exact Below.refl _ _ | exact (Below.refl _ _).alloc (Nat.le_refl _) _⟩
  · show Calls Tryz.prog 191 _ _ _
    go_enter Tryz.func191, Tryz.ntmps191
    go_wp2
    go_ret
    exact ⟨rfl, by first | exact Below.refl _ _ | exact (Below.refl _ _).alloc (Nat.le_refl _) _⟩
  · show Calls Tryz.prog 201 _ _ _
    go_enter Tryz.func201, Tryz.ntmps201
    go_wp2
    go_ret
    exact ⟨rfl, by first | exact Below.refl _ _ | exact (Below.refl _ _).alloc (Nat.le_refl _) _⟩
  · show Calls Tryz.prog 203 _ _ _
    go_enter Tryz.func203, Tryz.ntmps203
    go_wp2
    go_ret
    exact ⟨rfl, by first | exact Below.refl _ _ | exact (Below.refl _ _).alloc (Nat.le_refl _) _⟩
  · show Calls Tryz.prog 205 _ _ _
    go_enter Tryz.func205, Tryz.ntmps205
    go_wp2
    go_ret
    exact ⟨rfl, by first | exact Below.refl _ _ | exact (Below.refl _ _).alloc (Nat.le_refl _) _⟩
  · show Calls Tryz.prog 208 _ _ _
    go_enter Tryz.func208, Tryz.ntmps208
    go_wp2
    go_ret
    exact ⟨rfl, by first | exact Below.refl _ _ | exact (Below.refl _ _).alloc (Nat.le_refl _) _⟩
  · show Calls Tryz.prog 213 _ _ _
    go_enter Tryz.func213, Tryz.ntmps213
    go_wp2
    go_ret
    exact ⟨rfl, by first | exact Below.refl _ _ | exact (Below.refl _ _).alloc (Nat.le_refl _) _⟩
  · show Calls Tryz.prog 215 _ _ _
    go_enter Tryz.func215, Tryz.ntmps215
    go_wp2
    go_ret
    exact ⟨rfl, by first | exact Below.refl _ _ | exact (Below.refl _ _).alloc (Nat.le_refl _) _⟩
  · show Calls Tryz.prog 218 _ _ _
    go_enter Tryz.func218, Tryz.ntmps218
    go_wp2
    go_ret
    exact ⟨rfl, by first | exact Below.refl _ _ | exact (Below.refl _ _).alloc (Nat.le_refl _) _⟩
  · show Calls Tryz.prog 222 _ _ _
    go_enter Tryz.func222, Tryz.ntmps222
    go_wp2
    go_ret
    exact ⟨rfl, by first | exact Below.refl _ _ | exact (Below.refl _ _).alloc (Nat.le_refl _) _⟩
end Go.Proofs.YtgoaajnppadmjaaGreatDoor
