/-
  What the model's MoneyRead returns at the text of an amount: that amount.
-/
import Derived.Test.YtnijiajmhjgmfaaDoorMoneyRead2
namespace Go.Proofs.YtnijiajmhjgmfaaDoor
open Go.RowKit
set_option linter.unusedVariables false

set_option maxHeartbeats 2000000 in
theorem specReadPos (s : ByteArray) (a : Int) (w : World) (hs : s.size ≤ 1048600) (h3 : 4 ≤ s.size) (hp : 0 < (s.extract 0 (s.size - 3)).size)
    (i0 : s.size - 3 < s.size) (i1 : s.size - 3 + 1 < s.size) (i2 : s.size - 3 + 2 < s.size)
    (c2 : ((s[s.size - 3].toNat : Int) == 46) = true) (c2' : ((s[s.size - 3].toNat : Int) != 46) = false)
    (c3 : 48 ≤ (s[s.size - 3 + 1].toNat : Int)) (c4 : (s[s.size - 3 + 1].toNat : Int) ≤ 57) (c5 : 48 ≤ (s[s.size - 3 + 2].toNat : Int)) (c6 : (s[s.size - 3 + 2].toNat : Int) ≤ 57)
    (g : (((s.extract 0 (s.size - 3))[0].toNat : Int) == 45) = false) (hv : Hid (numV (s.extract 0 (s.size - 3)).data.toList = a)) (a0 : 0 ≤ a) (a1 : a ≤ 10000000000)
    (x : Int) (hx : Hid (a * 100 + ((s[s.size - 3 + 1].toNat : Int) - 48) * 10 + ((s[s.size - 3 + 2].toNat : Int) - 48) = x)) (hw : Hid (writeStr x = s)) :
    Calls Tryd.prog 8 #[.string s] w fun e w' => e = .returned (.tuple #[.int .i64 x, .bool true]) ∧ Below w.heap.size w w' := by
  go_enter Tryd.func8, Tryd.ntmps8
  go_wp2_with fail
  refine (numAt _ _ (le_max (ext_le _ _ _ hs))).mono ?_
  rintro e w' ⟨n, rfl, hn, n1, n2, rfl⟩
  obtain rfl : n = a := hn.out.trans hv.out
  clear hn
  go_wp2_with fail
  go_quiet (fail)
  go_wp2_with fail
  rw [hx.out]
  refine (specWrite _ _).mono ?_
  rintro e w2 ⟨s3, rfl, hs3, he3, hb⟩
  obtain rfl : s3 = s := he3.out.trans hw.out
  clear he3
  go_wp2
  go_ret2
  exact ⟨rfl, bdN hb⟩

set_option maxHeartbeats 2000000 in
theorem specReadNeg (s : ByteArray) (a : Int) (w : World) (hs : s.size ≤ 1048600) (h3 : 4 ≤ s.size) (hp : 0 < (s.extract 0 (s.size - 3)).size)
    (i0 : s.size - 3 < s.size) (i1 : s.size - 3 + 1 < s.size) (i2 : s.size - 3 + 2 < s.size)
    (c2 : ((s[s.size - 3].toNat : Int) == 46) = true) (c2' : ((s[s.size - 3].toNat : Int) != 46) = false)
    (c3 : 48 ≤ (s[s.size - 3 + 1].toNat : Int)) (c4 : (s[s.size - 3 + 1].toNat : Int) ≤ 57) (c5 : 48 ≤ (s[s.size - 3 + 2].toNat : Int)) (c6 : (s[s.size - 3 + 2].toNat : Int) ≤ 57)
    (g : (((s.extract 0 (s.size - 3))[0].toNat : Int) == 45) = true) (hv : Hid (numV ((s.extract 0 (s.size - 3)).extract 1 (s.size - 3)).data.toList = a)) (a0 : 0 ≤ a) (a1 : a ≤ 10000000000)
    (x : Int) (hx : Hid (-(a * 100 + ((s[s.size - 3 + 1].toNat : Int) - 48) * 10 + ((s[s.size - 3 + 2].toNat : Int) - 48)) = x)) (hw : Hid (writeStr x = s)) :
    Calls Tryd.prog 8 #[.string s] w fun e w' => e = .returned (.tuple #[.int .i64 x, .bool true]) ∧ Below w.heap.size w w' := by
  go_enter Tryd.func8, Tryd.ntmps8
  go_wp2_with fail
  refine (numAt _ _ (le_max (ext_le _ _ _ (ext_le _ _ _ hs)))).mono ?_
  rintro e w' ⟨n, rfl, hn, n1, n2, rfl⟩
  obtain rfl : n = a := hn.out.trans hv.out
  clear hn
  go_wp2_with fail
  go_quiet (fail)
  go_wp2_with fail
  rw [hx.out]
  refine (specWrite _ _).mono ?_
  rintro e w2 ⟨s3, rfl, hs3, he3, hb⟩
  obtain rfl : s3 = s := he3.out.trans hw.out
  clear he3
  go_wp2
  go_ret2
  exact ⟨rfl, bdN hb⟩
end Go.Proofs.YtnijiajmhjgmfaaDoor
