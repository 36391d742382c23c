/-
  What MoneyAdd returns, of the program and of its model, at every two ints: the sum and true, or 0 and false; nothing is written.
-/
import Derived.Test.YtembapomapcdfaaGreatDoorMoney
namespace Go.Proofs.YtembapomapcdfaaGreatDoor
open Go.RowKit
set_option linter.unusedVariables false

def addOk (a b : Int) : Bool := okB a && okB b && okB (a + b)
def addV (a b : Int) : Int := if addOk a b then a + b else 0

set_option maxHeartbeats 400000 in
theorem implMoneyAdd (a b : Int) (w : World) :
    Calls Tryz.prog 142 #[.int .i64 a, .int .i64 b] w fun e w' => e = .returned (.tuple #[.int .i64 (addV a b), .bool (addOk a b)]) ∧ w = w' := by
  cases ha : okB a with
  | false =>
    have hr : addV a b = 0 ∧ addOk a b = false := by simp [addV, addOk, ha]
    have Hr := Lib.hid hr
    have Ha := Lib.hid ha
    clear hr ha
    go_enter Tryz.func142, Tryz.ntmps142
    go_wp2_with fail
    refine (implMoneyOk _ _).mono ?_
    rintro e w' ⟨rfl, rfl⟩
    rw [Ha.out]
    go_wp2
    go_ret2
    exact ⟨retIB Hr.out.1.symm Hr.out.2.symm, rfl⟩
  | true =>
    have a1 := okB_yes ha
    obtain ⟨a1, a2⟩ := a1
    cases hb : okB b with
    | false =>
      have hr : addV a b = 0 ∧ addOk a b = false := by simp [addV, addOk, hb]
      have Hr := Lib.hid hr
      have Ha := Lib.hid ha
      have Hb := Lib.hid hb
      clear hr ha hb
      go_enter Tryz.func142, Tryz.ntmps142
      go_wp2_with fail
      refine (implMoneyOk _ _).mono ?_
      rintro e w' ⟨rfl, rfl⟩
      rw [Ha.out]
      go_wp2_with fail
      refine (implMoneyOk _ _).mono ?_
      rintro e w' ⟨rfl, rfl⟩
      rw [Hb.out]
      go_wp2
      go_ret2
      exact ⟨retIB Hr.out.1.symm Hr.out.2.symm, rfl⟩
    | true =>
      obtain ⟨b1, b2⟩ := okB_yes hb
      cases hc : okB (a + b) with
      | false =>
        have hr : addV a b = 0 ∧ addOk a b = false := by simp [addV, addOk, hc]
        have Hr := Lib.hid hr
        have Ha := Lib.hid ha
        have Hb := Lib.hid hb
        have Hc := Lib.hid hc
        clear hr ha hb hc
        go_enter Tryz.func142, Tryz.ntmps142
        go_wp2_with fail
        refine (implMoneyOk _ _).mono ?_
        rintro e w' ⟨rfl, rfl⟩
        rw [Ha.out]
        go_wp2_with fail
        refine (implMoneyOk _ _).mono ?_
        rintro e w' ⟨rfl, rfl⟩
        rw [Hb.out]
        go_wp2_with fail
        refine (implMoneyOk _ _).mono ?_
        rintro e w' ⟨rfl, rfl⟩
        rw [Hc.out]
        go_wp2
        go_ret2
        exact ⟨retIB Hr.out.1.symm Hr.out.2.symm, rfl⟩
      | true =>
        have hr : addV a b = a + b ∧ addOk a b = true := by simp [addV, addOk, ha, hb, hc]
        have Hr := Lib.hid hr
        have Ha := Lib.hid ha
        have Hb := Lib.hid hb
        have Hc := Lib.hid hc
        clear hr ha hb hc
        go_enter Tryz.func142, Tryz.ntmps142
        go_wp2_with fail
        refine (implMoneyOk _ _).mono ?_
        rintro e w' ⟨rfl, rfl⟩
        rw [Ha.out]
        go_wp2_with fail
        refine (implMoneyOk _ _).mono ?_
        rintro e w' ⟨rfl, rfl⟩
        rw [Hb.out]
        go_wp2_with fail
        refine (implMoneyOk _ _).mono ?_
        rintro e w' ⟨rfl, rfl⟩
        rw [Hc.out]
        go_wp2
        go_ret2
        exact ⟨retIB Hr.out.1.symm Hr.out.2.symm, rfl⟩

end Go.Proofs.YtembapomapcdfaaGreatDoor
