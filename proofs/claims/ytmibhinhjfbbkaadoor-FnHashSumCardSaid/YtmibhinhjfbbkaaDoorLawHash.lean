/-
  The law on HashSum: a drawn text, and the text whose sum is known to everybody.
-/
import Derived.Test.YtmibhinhjfbbkaaDoorLawSum
import Derived.Test.YtmibhinhjfbbkaaDoorDrawSum
namespace Go.Proofs.YtmibhinhjfbbkaaDoor
open Go.RowKit
set_option linter.unusedVariables false
set_option linter.unusedSimpArgs false

set_option maxRecDepth 100000 in
theorem hash_abc : hashS [97, 98, 99] = [98, 97, 55, 56, 49, 54, 98, 102, 56, 102, 48, 49, 99, 102, 101, 97, 52, 49, 52, 49, 52, 48, 100, 101, 53, 100, 97, 101, 50, 50, 50, 51, 98, 48, 48, 51, 54, 49, 97, 51, 57, 54, 49, 55, 55, 97, 57, 99, 98, 52, 49, 48, 102, 102, 54, 49, 102, 50, 48, 48, 49, 53, 97, 100] := by kernel_rfl
theorem sum_abc : (⟨(hashS (⟨#[97, 98, 99]⟩ : ByteArray).data.toList).toArray⟩ : ByteArray) = ⟨#[98, 97, 55, 56, 49, 54, 98, 102, 56, 102, 48, 49, 99, 102, 101, 97, 52, 49, 52, 49, 52, 48, 100, 101, 53, 100, 97, 101, 50, 50, 50, 51, 98, 48, 48, 51, 54, 49, 97, 51, 57, 54, 49, 55, 55, 97, 57, 99, 98, 52, 49, 48, 102, 102, 54, 49, 102, 50, 48, 48, 49, 53, 97, 100]⟩ := by
  show (⟨(hashS [97, 98, 99]).toArray⟩ : ByteArray) = _
  rw [hash_abc]
theorem sum_size (l : List UInt8) : (⟨(hashS l).toArray⟩ : ByteArray).size = 64 := by
  show (hashS l).toArray.size = 64
  rw [List.size_toArray, hashS_len]

set_option maxHeartbeats 4000000 in
theorem lawHash (a0 : Option Addr) (len cap : Nat) (z : List Int) (w : World) (w0 : IsRow .u8 w a0 len cap z) (hL : LaidK w) :
    Calls Tryd.prog 4 #[.slice a0 len cap] w fun e w' => e = .returned (.bool true) ∧ Below w.heap.size w w' := by
  have hm : len ≤ 9223372036854775807 := by
    rcases w0 with ⟨-, rfl, -⟩ | ⟨x, -, h1, h2, -⟩
    · omega
    · unfold maxLen at h2; omega
  rcases Nat.lt_or_ge 1048576 len with c | c
  · go_enter Tryd.func4, Tryd.ntmps4
    go_wp2
    go_ret
    exact ⟨rfl, Below.refl _ _⟩
  · go_enter Tryd.func4, Tryd.ntmps4
    go_wp2_with fail
    refine (drawSum a0 len cap z _ w0).mono ?_
    rintro e w1 ⟨t, ht, rfl, hb1⟩
    have hs := sum_size t.data.toList
    generalize hH : (⟨(hashS t.data.toList).toArray⟩ : ByteArray) = H at hs
    have HH := Lib.hid hH
    clear hH
    go_wp2_with fail
    refine (implSum t _ (by omega) (laidK_stays hL hb1)).mono ?_
    rintro e w2 ⟨rfl, hb2⟩
    have hb12 := bt' hb1 hb2
    rw [HH.out]
    go_wp2_with fail
    refine (specSum t _ (by omega)).mono ?_
    rintro e w3 ⟨rfl, hb3⟩
    have hb13 := bt' hb12 hb3
    rw [HH.out]
    go_wp2_with fail
    refine (implSum t _ (by omega) (laidK_stays hL hb13)).mono ?_
    rintro e w4 ⟨rfl, hb4⟩
    have hb14 := bt' hb13 hb4
    rw [HH.out]
    go_wp2_with fail
    refine (implSum ⟨#[97, 98, 99]⟩ _ (by decide) (laidK_stays hL hb14)).mono ?_
    rintro e w5 ⟨rfl, hb5⟩
    rw [sum_abc]
    go_wp2
    go_ret
    exact ⟨rfl, bt' hb14 hb5⟩
end Go.Proofs.YtmibhinhjfbbkaaDoor
