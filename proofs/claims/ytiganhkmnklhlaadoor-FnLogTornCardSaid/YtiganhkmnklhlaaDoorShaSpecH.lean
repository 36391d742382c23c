/-
  HashSum, by the model.
-/
import Derived.Test.YtiganhkmnklhlaaDoorShaHexM
import Derived.Test.YtiganhkmnklhlaaDoorShaSumM
namespace Go.Proofs.YtiganhkmnklhlaaDoor
open Go.RowKit
set_option linter.unusedVariables false
set_option linter.unusedSimpArgs false

theorem hex2_is (y : Int) : hex2 (UInt8.ofNat (y % 256).toNat) = [hexd (y % 256 / 16), hexd (y % 256 % 16)] := by
  rw [hex2, b8]; rfl
theorem word_hex (x : Int) (h0 : 0 ≤ x) (h1 : x < 4294967296) :
    hexB [UInt8.ofNat (x / 16777216 % 256).toNat, UInt8.ofNat (x / 65536 % 256).toNat, UInt8.ofNat (x / 256 % 256).toNat, UInt8.ofNat (x % 256).toNat] = hexW x := by
  simp only [hexB, List.flatMap_cons, List.flatMap_nil, hex2_is, List.append_nil, List.cons_append, List.nil_append]
  rw [hexW]
  have e1 : x / 16777216 % 256 / 16 = x / 268435456 % 16 := by omega
  have e2 : x / 16777216 % 256 % 16 = x / 16777216 % 16 := by omega
  have e3 : x / 65536 % 256 / 16 = x / 1048576 % 16 := by omega
  have e4 : x / 65536 % 256 % 16 = x / 65536 % 16 := by omega
  have e5 : x / 256 % 256 / 16 = x / 4096 % 16 := by omega
  have e6 : x / 256 % 256 % 16 = x / 256 % 16 := by omega
  have e7 : x % 256 / 16 = x / 16 % 16 := by omega
  have e8 : x % 256 % 16 = x % 16 := by omega
  rw [e1, e2, e3, e4, e5, e6, e7, e8]
theorem hexB_app (a b : List UInt8) : hexB (a ++ b) = hexB a ++ hexB b := by simp [hexB]
theorem sum_hex (s : S8) (h : s.Ok) : hexB (sumL s) = hexTo s 8 := by
  have e : sumL s = [UInt8.ofNat (s.a / 16777216 % 256).toNat, UInt8.ofNat (s.a / 65536 % 256).toNat, UInt8.ofNat (s.a / 256 % 256).toNat, UInt8.ofNat (s.a % 256).toNat]
      ++ ([UInt8.ofNat (s.b / 16777216 % 256).toNat, UInt8.ofNat (s.b / 65536 % 256).toNat, UInt8.ofNat (s.b / 256 % 256).toNat, UInt8.ofNat (s.b % 256).toNat]
      ++ ([UInt8.ofNat (s.c / 16777216 % 256).toNat, UInt8.ofNat (s.c / 65536 % 256).toNat, UInt8.ofNat (s.c / 256 % 256).toNat, UInt8.ofNat (s.c % 256).toNat]
      ++ ([UInt8.ofNat (s.d / 16777216 % 256).toNat, UInt8.ofNat (s.d / 65536 % 256).toNat, UInt8.ofNat (s.d / 256 % 256).toNat, UInt8.ofNat (s.d % 256).toNat]
      ++ ([UInt8.ofNat (s.e / 16777216 % 256).toNat, UInt8.ofNat (s.e / 65536 % 256).toNat, UInt8.ofNat (s.e / 256 % 256).toNat, UInt8.ofNat (s.e % 256).toNat]
      ++ ([UInt8.ofNat (s.f / 16777216 % 256).toNat, UInt8.ofNat (s.f / 65536 % 256).toNat, UInt8.ofNat (s.f / 256 % 256).toNat, UInt8.ofNat (s.f % 256).toNat]
      ++ ([UInt8.ofNat (s.g / 16777216 % 256).toNat, UInt8.ofNat (s.g / 65536 % 256).toNat, UInt8.ofNat (s.g / 256 % 256).toNat, UInt8.ofNat (s.g % 256).toNat]
      ++ [UInt8.ofNat (s.h / 16777216 % 256).toNat, UInt8.ofNat (s.h / 65536 % 256).toNat, UInt8.ofNat (s.h / 256 % 256).toNat, UInt8.ofNat (s.h % 256).toNat])))))) := rfl
  rw [e]
  simp only [hexB_app]
  rw [word_hex s.a (h 0).1 (h 0).2, word_hex s.b (h 1).1 (h 1).2, word_hex s.c (h 2).1 (h 2).2, word_hex s.d (h 3).1 (h 3).2, word_hex s.e (h 4).1 (h 4).2, word_hex s.f (h 5).1 (h 5).2, word_hex s.g (h 6).1 (h 6).2, word_hex s.h (h 7).1 (h 7).2]
  simp only [hexTo, List.nil_append, List.append_assoc]
  rfl

set_option maxHeartbeats 4000000 in
theorem specSum (t : ByteArray) (w : World) (ht : t.size ≤ 1048600) :
    Calls Tryd.prog 37 #[.string t] w fun e w' => e = .returned (.string ⟨(hashS t.data.toList).toArray⟩) ∧ Below w.heap.size w w' := by
  go_enter Tryd.func37, Tryd.ntmps37
  go_wp2_with fail
  refine (sumMS t _ ht).mono ?_
  rintro e w1 ⟨rfl, hb1⟩
  go_wp2_with fail
  have hs : (⟨(sumL (sumS t.data.toList)).toArray⟩ : ByteArray).size = 32 := rfl
  refine (hexS _ _ (by rw [hs]; omega) (by rw [hs]; omega)).mono ?_
  rintro e w2 ⟨rfl, hb2⟩
  have hfin : hexB (⟨(sumL (sumS t.data.toList)).toArray⟩ : ByteArray).data.toList = hashS t.data.toList := by
    show hexB (sumL (sumS t.data.toList)) = _
    rw [sum_hex _ (sumS_ok _)]; rfl
  go_wp2_with fail
  go_ret
  exact ⟨rfl, bt' hb1 hb2⟩
end Go.Proofs.YtiganhkmnklhlaaDoor
