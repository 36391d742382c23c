/-
  What MoneyWrite returns, of the program and of its model, at every int: the same bytes, in a world that has only grown.
-/
import Derived.Test.YtnijiajmhjgmfaaDoorMoneyText
namespace Go.Proofs.YtnijiajmhjgmfaaDoor
open Go.RowKit
set_option linter.unusedVariables false

def writeStr (n : Int) : ByteArray := if okB n then ⟨(moneyStr n).toArray⟩ else ⟨#[]⟩
def WritePost (n : Int) (w : World) (e : Ending) (w' : World) : Prop := ∃ s : ByteArray, e = .returned (.string s) ∧ s.size ≤ 70 ∧ Hid (s = writeStr n) ∧ Below w.heap.size w w'

set_option maxHeartbeats 1000000 in
theorem specWrite (n : Int) (w : World) :
    Calls Tryd.prog 6 #[.int .i64 n] w (WritePost n w) := by
  cases ho : okB n with
  | false =>
    have Ho := Lib.hid ho
    clear ho
    go_enter Tryd.func6, Tryd.ntmps6
    go_wp2_with fail
    refine (specMoneyOk _ _).mono ?_
    rintro e w' ⟨rfl, rfl⟩
    rw [Ho.out]
    go_wp2
    go_ret
    exact ⟨_, rfl, by rw [sz0]; omega, by show _ = _; rw [writeStr, Ho.out]; rfl, Below.refl _ _⟩
  | true =>
    obtain ⟨h0, h1⟩ := okB_yes ho
    have Ho := Lib.hid ho
    clear ho
    go_enter Tryd.func6, Tryd.ntmps6
    go_wp2_with fail
    refine (specMoneyOk _ _).mono ?_
    rintro e w' ⟨rfl, rfl⟩
    rw [Ho.out]
    go_wp2_with fail
    refine (specMoneyStr _ _ h0 h1).mono ?_
    rintro e w2 ⟨s, rfl, hs, he, hb⟩
    go_wp2
    go_ret
    exact ⟨_, rfl, hs, by show _ = _; rw [writeStr, Ho.out, he.out]; rfl, hb⟩

set_option maxHeartbeats 1000000 in
theorem implWrite (n : Int) (w : World) (hL : Laid w) :
    Calls Tryd.prog 7 #[.int .i64 n] w (WritePost n w) := by
  cases ho : okB n with
  | false =>
    have Ho := Lib.hid ho
    clear ho
    go_enter Tryd.func7, Tryd.ntmps7
    go_wp2_with fail
    refine (implMoneyOk _ _).mono ?_
    rintro e w' ⟨rfl, rfl⟩
    rw [Ho.out]
    go_wp2
    go_ret
    exact ⟨_, rfl, by rw [sz0]; omega, by show _ = _; rw [writeStr, Ho.out]; rfl, Below.refl _ _⟩
  | true =>
    obtain ⟨h0, h1⟩ := okB_yes ho
    have Ho := Lib.hid ho
    clear ho
    go_enter Tryd.func7, Tryd.ntmps7
    go_wp2_with fail
    refine (implMoneyOk _ _).mono ?_
    rintro e w' ⟨rfl, rfl⟩
    rw [Ho.out]
    go_wp2_with fail
    refine (implMoneyStr _ _ hL h0 h1).mono ?_
    rintro e w2 ⟨s, rfl, hs, he, hb⟩
    go_wp2
    go_ret
    exact ⟨_, rfl, hs, by show _ = _; rw [writeStr, Ho.out, he.out]; rfl, hb⟩

set_option maxHeartbeats 1000000 in
theorem exactWrite (n : Int) (w : World) (hL : Laid w) :
    Calls Tryd.prog 3 #[.int .i64 n] w fun e w' => e = .returned (.bool true) ∧ Below w.heap.size w w' := by
  go_enter Tryd.func3, Tryd.ntmps3
  go_wp2_with fail
  refine (specWrite _ _).mono ?_
  rintro e w2 ⟨s, rfl, hs, he, hb⟩
  have hL2 := laid_stays hL hb
  go_wp2_with fail
  refine (implWrite _ _ (by assumption)).mono ?_
  rintro e w3 ⟨s3, rfl, hs3, he3, hb3⟩
  obtain rfl : s3 = s := he3.out.trans he.out.symm
  go_wp2
  go_ret
  exact ⟨rfl, bt hb hb3⟩
end Go.Proofs.YtnijiajmhjgmfaaDoor
