/-
  A text, padded, by the model.
-/
import Derived.Test.YtiganhkmnklhlaaDoorShaImpl
import Derived.OwnWalk
import Derived.Deep.DeepMust
import Derived.Maps.AppendAt
import Derived.IntWalk
namespace Go.Proofs.YtiganhkmnklhlaaDoor
open Go.RowKit
set_option linter.unusedVariables false

def PadPost (t : ByteArray) (w : World) (e : Ending) (w' : World) : Prop := ∃ a c, e = .returned (.slice a (t.size + (1 + padZ t.size) + 8) c) ∧ OwnV w.heap.size w' (.slice a (t.size + (1 + padZ t.size) + 8) c) (u8s (padded t.data.toList)) ∧ Below w.heap.size w w'

set_option maxRecDepth 100000 in
set_option maxHeartbeats 8000000 in
theorem paddedS (t : ByteArray) (w : World) (ht : t.size ≤ 1048600) :
    Calls Tryd.prog 60 #[.string t] w (PadPost t w) := by
  obtain ⟨i0, hi, hz0, hz1, hz2⟩ := info_parts info_u8
  have kc := fun (w : World) (s : ByteArray) => Lib.run_convert_string_bytes (P := Tryd.prog) w 9 22 5 s Tryd.underlying9 Tryd.underlying22 Tryd.underlying5
  have ho := own_bytes w t
  have hb0 : Below w.heap.size w (Lib.bytesWorld w 5 t) := Lib.bytesWorld_below _ _ _
  have hlr : (u8s t.data.toList).length = t.size := by simp [u8s]
  have hpz := padZ_lt t.size
  go_enter Tryd.func60, Tryd.ntmps60
  go_wp2_with (at_builtin; go_must (refine wpList_append_ownV rfl _ _ 22 rfl 5 i0 (.int .u8 0) 1 Tryd.underlying22 hi hz0 hz1 hz2 rfl rfl (ho.grown ((Below.refl _ _).alloc (Nat.le_refl _) _)) ?a1 ⟨(Lib.bytesWorld w 5 t).heap.size, 0, none⟩ 1 1 [.int .u8 128] rfl rfl ?a2 ?a3 ?a4 ?a5 ?a6 (t.size + (1 + 0)) ?a7 ?_); (case a1 => go_must (have := hb0.size; simp only [World.size_alloc]; omega)); (case a2 => go_must (exact cell_one_new _ _ _)); (case a3 => go_must (intro u hu; simp at hu; subst hu; rfl)); (case a4 => go_must (omega)); (case a5 => go_must (unfold maxLen; omega)); (case a6 => go_must (omega)); (case a7 => go_must (omega)); intro a1 c1 w1 ho1 hb1)
  have hb1' : Below w.heap.size w w1 := (hb0.alloc hb0.size _).trans hb1
  have ho1' : OwnV w.heap.size w1 (.slice a1 (t.size + (1 + 0)) c1) (u8s (t.data.toList ++ tail0 0)) := by rw [u8s_app]; exact ho1
  clear ho1 hb1 ho hb0
  go_loopw [3] (fun v wr => ∃ (m : Nat) (a : Option Addr) (c : Nat), v = .slice a (t.size + (1 + m)) c ∧ m ≤ padZ t.size ∧ OwnV w.heap.size wr (.slice a (t.size + (1 + m)) c) (u8s (t.data.toList ++ tail0 m)) ∧ Below w.heap.size w wr) (fun v _ => 1048800 - sliceLen v)
  case atStart => exact ⟨0, a1, c1, rfl, Nat.zero_le _, ho1', hb1'⟩
  case round =>
    clear ho1' hb1'
    obtain ⟨m, a, c, rfl, hm, ho, hb⟩ := hrel
    have HO := Lib.hid ho
    have hlm : (u8s (t.data.toList ++ tail0 m)).length = t.size + (1 + m) := by rw [u8s_len, List.length_append, tail0_len]; simp
    have hpi := padZ_is hm
    obtain ⟨N, hN⟩ : ∃ N : Nat, N = t.size + (1 + m) := ⟨_, rfl⟩
    rw [← hN] at hpi ho hlm ⊢
    have hN2 : N ≤ 1048700 := by omega
    have HN := Lib.hid hN
    clear ho hN
    rw [← HN.out] at HO
    by_cases hz : m = padZ t.size
    · have e56 : N % 64 = 56 := hpi.2 hz
      have g1 : ((N : Int) % 64 == 56) = true := by simp; omega
      have Hz := Lib.hid hz
      have He := Lib.hid e56
      obtain ⟨Z, hZ⟩ : ∃ Z : Int, Z = ((t.size * 8 : Nat) : Int) := ⟨_, rfl⟩
      have q2 : IntKind.i64.wrap ((t.size : Int) * 8) = Z := by rw [IntWalk.i64_in _ (by omega)]; omega
      have HZ := Lib.hid hZ
      clear hZ
      clear hz e56 hpi
      have g2 : ((N : Int) % 64 != 56) = false := by simp [bne, g1]
      go_wp2_with fail
      clear g1 g2 q2
      generalize hbits : t.size * 8 = bits at *
      have HBI := Lib.hid hbits
      clear hbits
      generalize hwx : wr = wx at *
      clear hwx
      go_loopw [3, 5] (fun v i wr => ∃ (j : Nat) (a : Option Addr) (c : Nat), v = .slice a (N + j) c ∧ i = .int .i64 (7 - (j : Int)) ∧ j ≤ 8 ∧ OwnV w.heap.size wr (.slice a (N + j) c) (u8s (t.data.toList ++ tail0 m ++ (be8 bits).take j)) ∧ Below w.heap.size w wr) (fun v _ _ => 1048900 - sliceLen v)
      case atStart => exact ⟨0, a, c, rfl, rfl, by omega, by simpa using HO.out, hb⟩
      case round =>
        clear HO hb
        obtain ⟨j, a, c, rfl, rfl, hj, ho, hb⟩ := hrel
        have HO := Lib.hid ho
        have hlj : (u8s (t.data.toList ++ tail0 m ++ (be8 bits).take j)).length = N + j := by
          have := HN.out
          have hl8 : (be8 bits).length = 8 := rfl
          rw [u8s_len, List.length_append, List.length_append, tail0_len, List.length_take, hl8]; simp; omega
        clear ho
        rcases Nat.lt_or_ge j 8 with hj8 | hj8
        · have hcase : j = 0 ∨ j = 1 ∨ j = 2 ∨ j = 3 ∨ j = 4 ∨ j = 5 ∨ j = 6 ∨ j = 7 := by omega
          rcases hcase with hc | hc | hc | hc | hc | hc | hc | hc
          · obtain rfl := hc
            have hbe := be8_at bits 0 (Z / 72057594037927936 % 256) (by omega) (by rw [HZ.out]; simp [be8])
            go_wp2_with (at_builtin; go_must (refine wpList_append_ownV rfl _ _ 22 rfl 5 i0 (.int .u8 0) 1 Tryd.underlying22 hi hz0 hz1 hz2 rfl rfl (HO.out.grown ((Below.refl _ _).alloc (Nat.le_refl _) _)) ?d01 ⟨wr.heap.size, 0, none⟩ 1 1 [.int .u8 (Z / 72057594037927936 % 256)] rfl rfl ?d02 ?d03 ?d04 ?d05 ?d06 (N + (0 + 1)) ?d07 ?_); (case d01 => go_must (have := hb.size; simp only [World.size_alloc]; omega)); (case d02 => go_must (exact cell_one_new _ _ _)); (case d03 => go_must (intro u hu; simp at hu; subst hu; rfl)); (case d04 => go_must (omega)); (case d05 => go_must (unfold maxLen; omega)); (case d06 => go_must (omega)); (case d07 => go_must (omega)); intro a2 c2 w2 ho2 hb2)
            go_roundw
            case rel => exact ⟨0 + 1, a2, c2, rfl, rfl, by omega, by rw [u8s_app, hbe, ← List.append_assoc, ← u8s_app]; exact ho2, (hb.alloc hb.size _).trans hb2⟩
            case measure => simp [sliceLen]; omega
          · obtain rfl := hc
            have hbe := be8_at bits 1 (Z / 281474976710656 % 256) (by omega) (by rw [HZ.out]; simp [be8])
            go_wp2_with (at_builtin; go_must (refine wpList_append_ownV rfl _ _ 22 rfl 5 i0 (.int .u8 0) 1 Tryd.underlying22 hi hz0 hz1 hz2 rfl rfl (HO.out.grown ((Below.refl _ _).alloc (Nat.le_refl _) _)) ?d11 ⟨wr.heap.size, 0, none⟩ 1 1 [.int .u8 (Z / 281474976710656 % 256)] rfl rfl ?d12 ?d13 ?d14 ?d15 ?d16 (N + (1 + 1)) ?d17 ?_); (case d11 => go_must (have := hb.size; simp only [World.size_alloc]; omega)); (case d12 => go_must (exact cell_one_new _ _ _)); (case d13 => go_must (intro u hu; simp at hu; subst hu; rfl)); (case d14 => go_must (omega)); (case d15 => go_must (unfold maxLen; omega)); (case d16 => go_must (omega)); (case d17 => go_must (omega)); intro a2 c2 w2 ho2 hb2)
            go_roundw
            case rel => exact ⟨1 + 1, a2, c2, rfl, rfl, by omega, by rw [u8s_app, hbe, ← List.append_assoc, ← u8s_app]; exact ho2, (hb.alloc hb.size _).trans hb2⟩
            case measure => simp [sliceLen]; omega
          · obtain rfl := hc
            have hbe := be8_at bits 2 (Z / 1099511627776 % 256) (by omega) (by rw [HZ.out]; simp [be8])
            go_wp2_with (at_builtin; go_must (refine wpList_append_ownV rfl _ _ 22 rfl 5 i0 (.int .u8 0) 1 Tryd.underlying22 hi hz0 hz1 hz2 rfl rfl (HO.out.grown ((Below.refl _ _).alloc (Nat.le_refl _) _)) ?d21 ⟨wr.heap.size, 0, none⟩ 1 1 [.int .u8 (Z / 1099511627776 % 256)] rfl rfl ?d22 ?d23 ?d24 ?d25 ?d26 (N + (2 + 1)) ?d27 ?_); (case d21 => go_must (have := hb.size; simp only [World.size_alloc]; omega)); (case d22 => go_must (exact cell_one_new _ _ _)); (case d23 => go_must (intro u hu; simp at hu; subst hu; rfl)); (case d24 => go_must (omega)); (case d25 => go_must (unfold maxLen; omega)); (case d26 => go_must (omega)); (case d27 => go_must (omega)); intro a2 c2 w2 ho2 hb2)
            go_roundw
            case rel => exact ⟨2 + 1, a2, c2, rfl, rfl, by omega, by rw [u8s_app, hbe, ← List.append_assoc, ← u8s_app]; exact ho2, (hb.alloc hb.size _).trans hb2⟩
            case measure => simp [sliceLen]; omega
          · obtain rfl := hc
            have hbe := be8_at bits 3 (Z / 4294967296 % 256) (by omega) (by rw [HZ.out]; simp [be8])
            go_wp2_with (at_builtin; go_must (refine wpList_append_ownV rfl _ _ 22 rfl 5 i0 (.int .u8 0) 1 Tryd.underlying22 hi hz0 hz1 hz2 rfl rfl (HO.out.grown ((Below.refl _ _).alloc (Nat.le_refl _) _)) ?d31 ⟨wr.heap.size, 0, none⟩ 1 1 [.int .u8 (Z / 4294967296 % 256)] rfl rfl ?d32 ?d33 ?d34 ?d35 ?d36 (N + (3 + 1)) ?d37 ?_); (case d31 => go_must (have := hb.size; simp only [World.size_alloc]; omega)); (case d32 => go_must (exact cell_one_new _ _ _)); (case d33 => go_must (intro u hu; simp at hu; subst hu; rfl)); (case d34 => go_must (omega)); (case d35 => go_must (unfold maxLen; omega)); (case d36 => go_must (omega)); (case d37 => go_must (omega)); intro a2 c2 w2 ho2 hb2)
            go_roundw
            case rel => exact ⟨3 + 1, a2, c2, rfl, rfl, by omega, by rw [u8s_app, hbe, ← List.append_assoc, ← u8s_app]; exact ho2, (hb.alloc hb.size _).trans hb2⟩
            case measure => simp [sliceLen]; omega
          · obtain rfl := hc
            have hbe := be8_at bits 4 (Z / 16777216 % 256) (by omega) (by rw [HZ.out]; simp [be8])
            go_wp2_with (at_builtin; go_must (refine wpList_append_ownV rfl _ _ 22 rfl 5 i0 (.int .u8 0) 1 Tryd.underlying22 hi hz0 hz1 hz2 rfl rfl (HO.out.grown ((Below.refl _ _).alloc (Nat.le_refl _) _)) ?d41 ⟨wr.heap.size, 0, none⟩ 1 1 [.int .u8 (Z / 16777216 % 256)] rfl rfl ?d42 ?d43 ?d44 ?d45 ?d46 (N + (4 + 1)) ?d47 ?_); (case d41 => go_must (have := hb.size; simp only [World.size_alloc]; omega)); (case d42 => go_must (exact cell_one_new _ _ _)); (case d43 => go_must (intro u hu; simp at hu; subst hu; rfl)); (case d44 => go_must (omega)); (case d45 => go_must (unfold maxLen; omega)); (case d46 => go_must (omega)); (case d47 => go_must (omega)); intro a2 c2 w2 ho2 hb2)
            go_roundw
            case rel => exact ⟨4 + 1, a2, c2, rfl, rfl, by omega, by rw [u8s_app, hbe, ← List.append_assoc, ← u8s_app]; exact ho2, (hb.alloc hb.size _).trans hb2⟩
            case measure => simp [sliceLen]; omega
          · obtain rfl := hc
            have hbe := be8_at bits 5 (Z / 65536 % 256) (by omega) (by rw [HZ.out]; simp [be8])
            go_wp2_with (at_builtin; go_must (refine wpList_append_ownV rfl _ _ 22 rfl 5 i0 (.int .u8 0) 1 Tryd.underlying22 hi hz0 hz1 hz2 rfl rfl (HO.out.grown ((Below.refl _ _).alloc (Nat.le_refl _) _)) ?d51 ⟨wr.heap.size, 0, none⟩ 1 1 [.int .u8 (Z / 65536 % 256)] rfl rfl ?d52 ?d53 ?d54 ?d55 ?d56 (N + (5 + 1)) ?d57 ?_); (case d51 => go_must (have := hb.size; simp only [World.size_alloc]; omega)); (case d52 => go_must (exact cell_one_new _ _ _)); (case d53 => go_must (intro u hu; simp at hu; subst hu; rfl)); (case d54 => go_must (omega)); (case d55 => go_must (unfold maxLen; omega)); (case d56 => go_must (omega)); (case d57 => go_must (omega)); intro a2 c2 w2 ho2 hb2)
            go_roundw
            case rel => exact ⟨5 + 1, a2, c2, rfl, rfl, by omega, by rw [u8s_app, hbe, ← List.append_assoc, ← u8s_app]; exact ho2, (hb.alloc hb.size _).trans hb2⟩
            case measure => simp [sliceLen]; omega
          · obtain rfl := hc
            have hbe := be8_at bits 6 (Z / 256 % 256) (by omega) (by rw [HZ.out]; simp [be8])
            go_wp2_with (at_builtin; go_must (refine wpList_append_ownV rfl _ _ 22 rfl 5 i0 (.int .u8 0) 1 Tryd.underlying22 hi hz0 hz1 hz2 rfl rfl (HO.out.grown ((Below.refl _ _).alloc (Nat.le_refl _) _)) ?d61 ⟨wr.heap.size, 0, none⟩ 1 1 [.int .u8 (Z / 256 % 256)] rfl rfl ?d62 ?d63 ?d64 ?d65 ?d66 (N + (6 + 1)) ?d67 ?_); (case d61 => go_must (have := hb.size; simp only [World.size_alloc]; omega)); (case d62 => go_must (exact cell_one_new _ _ _)); (case d63 => go_must (intro u hu; simp at hu; subst hu; rfl)); (case d64 => go_must (omega)); (case d65 => go_must (unfold maxLen; omega)); (case d66 => go_must (omega)); (case d67 => go_must (omega)); intro a2 c2 w2 ho2 hb2)
            go_roundw
            case rel => exact ⟨6 + 1, a2, c2, rfl, rfl, by omega, by rw [u8s_app, hbe, ← List.append_assoc, ← u8s_app]; exact ho2, (hb.alloc hb.size _).trans hb2⟩
            case measure => simp [sliceLen]; omega
          · obtain rfl := hc
            have hbe := be8_at bits 7 (Z % 256) (by omega) (by rw [HZ.out]; simp [be8])
            go_wp2_with (at_builtin; go_must (refine wpList_append_ownV rfl _ _ 22 rfl 5 i0 (.int .u8 0) 1 Tryd.underlying22 hi hz0 hz1 hz2 rfl rfl (HO.out.grown ((Below.refl _ _).alloc (Nat.le_refl _) _)) ?d71 ⟨wr.heap.size, 0, none⟩ 1 1 [.int .u8 (Z % 256)] rfl rfl ?d72 ?d73 ?d74 ?d75 ?d76 (N + (7 + 1)) ?d77 ?_); (case d71 => go_must (have := hb.size; simp only [World.size_alloc]; omega)); (case d72 => go_must (exact cell_one_new _ _ _)); (case d73 => go_must (intro u hu; simp at hu; subst hu; rfl)); (case d74 => go_must (omega)); (case d75 => go_must (unfold maxLen; omega)); (case d76 => go_must (omega)); (case d77 => go_must (omega)); intro a2 c2 w2 ho2 hb2)
            go_roundw
            case rel => exact ⟨7 + 1, a2, c2, rfl, rfl, by omega, by rw [u8s_app, hbe, ← List.append_assoc, ← u8s_app]; exact ho2, (hb.alloc hb.size _).trans hb2⟩
            case measure => simp [sliceLen]; omega
        · obtain rfl : j = 8 := by omega
          have hfin : t.data.toList ++ tail0 m ++ (be8 bits).take 8 = padded t.data.toList := by
            rw [padded, tailL, List.append_assoc]
            rw [show t.data.toList.length = t.size from by simp, ← Hz.out, HBI.out]; rfl
          have hN8 : N + 8 = t.size + (1 + padZ t.size) + 8 := by rw [HN.out, Hz.out]
          have HF := Lib.hid hfin
          have H8 := Lib.hid hN8
          clear hfin hN8
          go_wp2_with fail
          go_ret
          have h := HO.out
          rw [HF.out, H8.out] at h
          exact ⟨a, c, by rw [H8.out]; rfl, h, hb⟩
    · have g1 : ((N : Int) % 64 == 56) = false := by simp; omega
      clear hpi
      go_wp2_with (at_builtin; go_must (refine wpList_append_ownV rfl _ _ 22 rfl 5 i0 (.int .u8 0) 1 Tryd.underlying22 hi hz0 hz1 hz2 rfl rfl (HO.out.grown ((Below.refl _ _).alloc (Nat.le_refl _) _)) ?b1 ⟨wr.heap.size, 0, none⟩ 1 1 [.int .u8 0] rfl rfl ?b2 ?b3 ?b4 ?b5 ?b6 (N + 1) ?b7 ?_); (case b1 => go_must (have := hb.size; simp only [World.size_alloc]; omega)); (case b2 => go_must (exact cell_one_new _ _ _)); (case b3 => go_must (intro u hu; simp at hu; subst hu; rfl)); (case b4 => go_must (omega)); (case b5 => go_must (unfold maxLen; omega)); (case b6 => go_must (omega)); (case b7 => go_must (omega)); intro a2 c2 w2 ho2 hb2)
      go_roundw
      case rel => exact ⟨m + 1, a2, c2, by rw [HN.out, Nat.add_assoc, Nat.add_assoc], (by have := hm; omega), by rw [u8s_app, tail0_next, ← List.append_assoc, ← u8s_app, show t.size + (1 + (m + 1)) = N + 1 from by rw [HN.out]; omega]; exact ho2, (hb.alloc hb.size _).trans hb2⟩
      case measure => simp [sliceLen]; omega
end Go.Proofs.YtiganhkmnklhlaaDoor
