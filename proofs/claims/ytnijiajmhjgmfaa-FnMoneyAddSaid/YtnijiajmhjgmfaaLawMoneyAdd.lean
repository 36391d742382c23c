/-
  The law FnMoneyAdd's own walk, by cases of whether the drawn sum is an amount.
-/
import Derived.Test.YtnijiajmhjgmfaaMoneyAdd
import Derived.Test.YtnijiajmhjgmfaaDrawMoney2
namespace Go.Proofs.Ytnijiajmhjgmfaa
open Go.RowKit
set_option linter.unusedVariables false

theorem addOk_comm (a b : Int) : addOk b a = addOk a b := by unfold addOk; rw [Int.add_comm b a, Bool.and_comm (okB b) (okB a)]
theorem addV_comm (a b : Int) : addV b a = addV a b := by unfold addV; rw [addOk_comm, Int.add_comm b a]
theorem addOk_yes {a b : Int} (h : addOk a b = true) : okB a = true ∧ okB b = true ∧ okB (a + b) = true := by simpa [addOk, and_assoc] using h

set_option maxHeartbeats 1000000 in
theorem lawMoneyAdd (a0 : Option Addr) (len cap : Nat) (z : List Int) (w : World) (w0 : IsRow .u8 w a0 len cap z) :
    Calls Try.prog 7 #[.slice a0 len cap] w fun e w' => e = .returned (.bool true) ∧ Below w.heap.size w w' := by
  by_cases hbig : 1048576 < len
  · go_enter Try.func7, Try.ntmps7
    go_wp2
    go_ret
    exact ⟨rfl, Below.refl _ _⟩
  · go_enter Try.func7, Try.ntmps7
    go_wp2_with fail
    refine (drawTwo a0 len cap z _ w0).mono ?_
    rintro e w1 ⟨a, b, a1, a2, b1, b2, rfl, hb⟩
    cases hk : addOk a b with
    | false =>
      have hv : addV a b = 0 := by simp [addV, hk]
      have Hk := Lib.hid hk
      have Hv := Lib.hid hv
      have Hk' := Lib.hid ((addOk_comm a b).trans hk)
      have Hv' := Lib.hid ((addV_comm a b).trans hv)
      generalize hok : okB a = o
      have Ho := Lib.hid hok
      clear hk hv hok
      go_wp2_with fail
      refine (implMoneyAdd a b _).mono ?_
      rintro e w' ⟨rfl, rfl⟩
      rw [Hv.out, Hk.out]
      go_wp2_with fail
      refine (specMoneyAdd a b _).mono ?_
      rintro e w' ⟨rfl, rfl⟩
      rw [Hv.out, Hk.out]
      go_wp2_with fail
      refine (implMoneyAdd b a _).mono ?_
      rintro e w' ⟨rfl, rfl⟩
      rw [Hv'.out, Hk'.out]
      go_wp2_with fail
      refine (implMoneyOk a _).mono ?_
      rintro e w' ⟨rfl, rfl⟩
      rw [Ho.out]
      go_wp2_with fail
      refine (specMoneyOk a _).mono ?_
      rintro e w' ⟨rfl, rfl⟩
      rw [Ho.out]
      cases o <;> (go_wp2; go_ret; exact ⟨rfl, hb⟩)
    | true =>
      obtain ⟨o1, o2, o3⟩ := addOk_yes hk
      obtain ⟨p1, p2⟩ := okB_yes o1
      obtain ⟨p3, p4⟩ := okB_yes o2
      obtain ⟨p5, p6⟩ := okB_yes o3
      have hv : addV a b = a + b := by simp [addV, hk]
      have n0 : addOk (-a) (-b) = true := by simp [addOk, okB]; omega
      have n1 : addV (-a) (-b) = -(a + b) := by simp [addV, n0]; omega
      have m0 : addOk a 0 = true := by simp [addOk, okB]; omega
      have m1 : addV a 0 = a := by simp [addV, m0]
      have Hk := Lib.hid hk
      have Hv := Lib.hid hv
      have Hk' := Lib.hid ((addOk_comm a b).trans hk)
      have Hv' := Lib.hid ((addV_comm a b).trans hv)
      have N0 := Lib.hid n0
      have N1 := Lib.hid n1
      have M0 := Lib.hid m0
      have M1 := Lib.hid m1
      have O1 := Lib.hid o1
      have O3 := Lib.hid o3
      clear hk hv n0 n1 m0 m1 o1 o2 o3
      go_wp2_with fail
      refine (implMoneyAdd a b _).mono ?_
      rintro e w' ⟨rfl, rfl⟩
      rw [Hv.out, Hk.out]
      go_wp2_with fail
      refine (specMoneyAdd a b _).mono ?_
      rintro e w' ⟨rfl, rfl⟩
      rw [Hv.out, Hk.out]
      go_wp2_with fail
      refine (implMoneyAdd b a _).mono ?_
      rintro e w' ⟨rfl, rfl⟩
      rw [Hv'.out, Hk'.out]
      go_wp2_with fail
      refine (implMoneyOk a _).mono ?_
      rintro e w' ⟨rfl, rfl⟩
      rw [O1.out]
      go_wp2_with fail
      refine (specMoneyOk a _).mono ?_
      rintro e w' ⟨rfl, rfl⟩
      rw [O1.out]
      go_wp2_with fail
      refine (implMoneyAdd (-a) (-b) _).mono ?_
      rintro e w' ⟨rfl, rfl⟩
      rw [N0.out, N1.out]
      go_wp2_with fail
      refine (implMoneyAdd a 0 _).mono ?_
      rintro e w' ⟨rfl, rfl⟩
      rw [M0.out, M1.out]
      go_wp2_with fail
      refine (implMoneyOk (a + b) _).mono ?_
      rintro e w' ⟨rfl, rfl⟩
      rw [O3.out]
      go_wp2
      go_ret
      exact ⟨rfl, hb⟩
end Go.Proofs.Ytnijiajmhjgmfaa
