/-
  The figures of a sum, by the program.
-/
import Derived.Test.YtiganhkmnklhlaaDoorShaBlocks
import Derived.Test.YtiganhkmnklhlaaDoorShaTailI
namespace Go.Proofs.YtiganhkmnklhlaaDoor
open Go.RowKit
set_option linter.unusedVariables false
set_option linter.unusedSimpArgs false

def figs : List UInt8 := [48, 49, 50, 51, 52, 53, 54, 55, 56, 57, 97, 98, 99, 100, 101, 102]
def hexd (d : Int) : UInt8 := figs.getD d.toNat 0
def hexW (x : Int) : List UInt8 := [hexd (x / 268435456 % 16), hexd (x / 16777216 % 16), hexd (x / 1048576 % 16), hexd (x / 65536 % 16), hexd (x / 4096 % 16), hexd (x / 256 % 16), hexd (x / 16 % 16), hexd (x % 16)]
def hexTo (s : S8) : Nat → List UInt8
  | 0 => []
  | m + 1 => hexTo s m ++ hexW (s.at m)
def S8.Ok (s : S8) : Prop := ∀ m, 0 ≤ s.at m ∧ s.at m < 4294967296
theorem hexW_len (x : Int) : (hexW x).length = 8 := rfl
theorem hexTo_len (s : S8) (m : Nat) : (hexTo s m).length = 8 * m := by
  induction m with
  | zero => rfl
  | succ m ih => rw [hexTo, List.length_append, ih, hexW_len]; omega
theorem and15 {y : Int} (h0 : 0 ≤ y) (h1 : y < 4294967296) : bits .and .u32 y 15 = y % 16 := by
  obtain ⟨Y, rfl⟩ := Int.eq_ofNat_of_zero_le h0
  show IntKind.u32.wrap ((BitVec.ofInt 32 (Y : Int) &&& BitVec.ofInt 32 (15 : Int)).toNat : Int) = _
  have e1 : (BitVec.ofInt 32 (Y : Int)).toNat = Y := by rw [BitVec.ofInt_natCast, BitVec.toNat_ofNat]; exact Nat.mod_eq_of_lt (by omega)
  have e2 : (BitVec.ofInt 32 (15 : Int)).toNat = 15 := rfl
  have e3 : Y &&& 15 = Y % 16 := Nat.and_two_pow_sub_one_eq_mod Y 4
  rw [BitVec.toNat_and, e1, e2, e3, IntKind.wrap_u32']
  omega
theorem idxFig (y : Int) (h0 : 0 ≤ y) (h1 : y < 16) (w : World) : (Instr.index 9 (.string ⟨#[48, 49, 50, 51, 52, 53, 54, 55, 56, 57, 97, 98, 99, 100, 101, 102]⟩) (.int .u32 y)).run Tryd.prog w = .ok (.int .u8 ((hexd y).toNat : Int)) w := by
  have u := Tryd.underlying9
  have hy : y = 0 ∨ y = 1 ∨ y = 2 ∨ y = 3 ∨ y = 4 ∨ y = 5 ∨ y = 6 ∨ y = 7 ∨ y = 8 ∨ y = 9 ∨ y = 10 ∨ y = 11 ∨ y = 12 ∨ y = 13 ∨ y = 14 ∨ y = 15 := by omega
  rcases hy with rfl | rfl | rfl | rfl | rfl | rfl | rfl | rfl | rfl | rfl | rfl | rfl | rfl | rfl | rfl | rfl <;> (simp [Instr.index, asIntOf, go_sem, u]; rfl)
theorem hexW_at (x : Int) (j : Nat) (d : Int) (h : j < 8) (hd : (hexW x).getD j 0 = hexd d) : u8s ((hexW x).take (j + 1)) = u8s ((hexW x).take j) ++ [.int .u8 ((hexd d).toNat : Int)] := by
  have hl := hexW_len x
  rw [List.take_succ_eq_append_getElem (by omega), u8s_app, ← hd, List.getD_eq_getElem?_getD, List.getElem?_eq_getElem (by omega)]; rfl

set_option maxRecDepth 100000 in
set_option maxHeartbeats 8000000 in
theorem figuresS (hb : Nat) (s : S8) (w : World) (hok : s.Ok) (hrow : w.heap[hb]? = some (.cells s.arr 79 (0, 0))) :
    Calls Tryd.prog 48 #[.pointer (some ⟨hb, 0, none⟩)] w fun e w' => e = .returned (.string ⟨(hexTo s 8).toArray⟩) ∧ Below w.heap.size w w' := by
  obtain ⟨i0, hi, hz0, hz1, hz2⟩ := info_parts info_u8
  have HOK := Lib.hid hok
  clear hok
  go_enter Tryd.func48, Tryd.ntmps48
  go_wp2_with (refine wpList_load_row rfl 77 _ rfl hb rfl _ s.arr (0, 0) _ hrow Tryd.underlying77 rfl sizeArr ?_)
  go_loopw [3, 11] (fun v i wr => ∃ (m : Nat) (a : Option Addr) (c : Nat), v = .slice a (8 * m) c ∧ i = .int .i64 m ∧ m ≤ 8 ∧ OwnV w.heap.size wr (.slice a (8 * m) c) (u8s (hexTo s m)) ∧ Below w.heap.size w wr) (fun _ i _ => 8 - (intOf i).toNat)
  case atStart => exact ⟨0, none, 0, rfl, rfl, by omega, Or.inl ⟨rfl, rfl⟩, Below.refl _ _⟩
  case round =>
    obtain ⟨m, a, c, rfl, rfl, hm, ho, hb⟩ := hrel
    have HO := Lib.hid ho
    clear ho
    rcases Nat.lt_or_ge m 8 with hlt | hge
    · have x1 := idx8 s.arr m _ (arr_at s m hlt) hlt
      have x4 : (m : Int) < 8 := by omega
      obtain ⟨x, hx⟩ : ∃ x, x = s.at m := ⟨_, rfl⟩
      have hx0 : 0 ≤ x := by rw [hx]; exact (HOK.out m).1
      have hx1 : x < 4294967296 := by rw [hx]; exact (HOK.out m).2
      rw [← hx] at x1
      have HX := Lib.hid hx
      clear hx
      obtain ⟨N, hN⟩ : ∃ N : Nat, N = 8 * m := ⟨_, rfl⟩
      rw [← hN] at HO ⊢
      have hN2 : N ≤ 56 := by omega
      have HN := Lib.hid hN
      clear hN
      have hlh : (u8s (hexTo s m)).length = N := by rw [u8s_len, hexTo_len, HN.out]
      go_wp2_with fail
      generalize hwx : wr = wx at *
      clear hwx x1
      go_loopw [3, 6] (fun v i wr => ∃ (j : Nat) (a : Option Addr) (c : Nat), v = .slice a (N + j) c ∧ i = .int .i64 (28 - 4 * (j : Int)) ∧ j ≤ 8 ∧ OwnV w.heap.size wr (.slice a (N + j) c) (u8s (hexTo s m ++ (hexW x).take j)) ∧ Below w.heap.size w wr) (fun v _ _ => 100 - sliceLen v)
      case atStart => exact ⟨0, a, c, rfl, rfl, by omega, by simpa using HO.out, hb⟩
      case round =>
        clear HO hb
        obtain ⟨j, a, c, rfl, rfl, hj, ho, hb⟩ := hrel
        have HO := Lib.hid ho
        have hlj : (u8s (hexTo s m ++ (hexW x).take j)).length = N + j := by
          have hl8 := hexW_len x
          rw [u8s_len] at hlh
          rw [u8s_len, List.length_append, List.length_take, hl8, hlh]; omega
        clear ho
        rcases Nat.lt_or_ge j 8 with hj8 | hj8
        · have hcase : j = 0 ∨ j = 1 ∨ j = 2 ∨ j = 3 ∨ j = 4 ∨ j = 5 ∨ j = 6 ∨ j = 7 := by omega
          rcases hcase with hc | hc | hc | hc | hc | hc | hc | hc
          · obtain rfl := hc
            have hbe := hexW_at x 0 (x / 268435456 % 16) (by omega) rfl
            have hand := and15 (y := x / 268435456) (by omega) (by omega)
            have hix := idxFig (x / 268435456 % 16) (by omega) (by omega)
            go_wp2_with (at_builtin; go_must (refine wpList_append_ownV rfl _ _ 22 rfl 5 i0 (.int .u8 0) 1 Tryd.underlying22 hi hz0 hz1 hz2 rfl rfl (HO.out.grown ((Below.refl _ _).alloc (Nat.le_refl _) _)) ?d01 ⟨wr.heap.size, 0, none⟩ 1 1 [.int .u8 ((hexd (x / 268435456 % 16)).toNat : Int)] rfl rfl ?d02 ?d03 ?d04 ?d05 ?d06 (N + (0 + 1)) ?d07 ?_); (case d01 => go_must (have := hb.size; simp only [World.size_alloc]; omega)); (case d02 => go_must (exact cell_one_new _ _ _)); (case d03 => go_must (intro u hu; simp at hu; subst hu; rfl)); (case d04 => go_must (omega)); (case d05 => go_must (unfold maxLen; omega)); (case d06 => go_must (omega)); (case d07 => go_must (omega)); intro a2 c2 w2 ho2 hb2)
            go_roundw
            case rel => exact ⟨0 + 1, a2, c2, rfl, rfl, by omega, by rw [u8s_app, hbe, ← List.append_assoc, ← u8s_app]; exact ho2, (hb.alloc hb.size _).trans hb2⟩
            case measure => simp [sliceLen]; omega
          · obtain rfl := hc
            have hbe := hexW_at x 1 (x / 16777216 % 16) (by omega) rfl
            have hand := and15 (y := x / 16777216) (by omega) (by omega)
            have hix := idxFig (x / 16777216 % 16) (by omega) (by omega)
            go_wp2_with (at_builtin; go_must (refine wpList_append_ownV rfl _ _ 22 rfl 5 i0 (.int .u8 0) 1 Tryd.underlying22 hi hz0 hz1 hz2 rfl rfl (HO.out.grown ((Below.refl _ _).alloc (Nat.le_refl _) _)) ?d11 ⟨wr.heap.size, 0, none⟩ 1 1 [.int .u8 ((hexd (x / 16777216 % 16)).toNat : Int)] rfl rfl ?d12 ?d13 ?d14 ?d15 ?d16 (N + (1 + 1)) ?d17 ?_); (case d11 => go_must (have := hb.size; simp only [World.size_alloc]; omega)); (case d12 => go_must (exact cell_one_new _ _ _)); (case d13 => go_must (intro u hu; simp at hu; subst hu; rfl)); (case d14 => go_must (omega)); (case d15 => go_must (unfold maxLen; omega)); (case d16 => go_must (omega)); (case d17 => go_must (omega)); intro a2 c2 w2 ho2 hb2)
            go_roundw
            case rel => exact ⟨1 + 1, a2, c2, rfl, rfl, by omega, by rw [u8s_app, hbe, ← List.append_assoc, ← u8s_app]; exact ho2, (hb.alloc hb.size _).trans hb2⟩
            case measure => simp [sliceLen]; omega
          · obtain rfl := hc
            have hbe := hexW_at x 2 (x / 1048576 % 16) (by omega) rfl
            have hand := and15 (y := x / 1048576) (by omega) (by omega)
            have hix := idxFig (x / 1048576 % 16) (by omega) (by omega)
            go_wp2_with (at_builtin; go_must (refine wpList_append_ownV rfl _ _ 22 rfl 5 i0 (.int .u8 0) 1 Tryd.underlying22 hi hz0 hz1 hz2 rfl rfl (HO.out.grown ((Below.refl _ _).alloc (Nat.le_refl _) _)) ?d21 ⟨wr.heap.size, 0, none⟩ 1 1 [.int .u8 ((hexd (x / 1048576 % 16)).toNat : Int)] rfl rfl ?d22 ?d23 ?d24 ?d25 ?d26 (N + (2 + 1)) ?d27 ?_); (case d21 => go_must (have := hb.size; simp only [World.size_alloc]; omega)); (case d22 => go_must (exact cell_one_new _ _ _)); (case d23 => go_must (intro u hu; simp at hu; subst hu; rfl)); (case d24 => go_must (omega)); (case d25 => go_must (unfold maxLen; omega)); (case d26 => go_must (omega)); (case d27 => go_must (omega)); intro a2 c2 w2 ho2 hb2)
            go_roundw
            case rel => exact ⟨2 + 1, a2, c2, rfl, rfl, by omega, by rw [u8s_app, hbe, ← List.append_assoc, ← u8s_app]; exact ho2, (hb.alloc hb.size _).trans hb2⟩
            case measure => simp [sliceLen]; omega
          · obtain rfl := hc
            have hbe := hexW_at x 3 (x / 65536 % 16) (by omega) rfl
            have hand := and15 (y := x / 65536) (by omega) (by omega)
            have hix := idxFig (x / 65536 % 16) (by omega) (by omega)
            go_wp2_with (at_builtin; go_must (refine wpList_append_ownV rfl _ _ 22 rfl 5 i0 (.int .u8 0) 1 Tryd.underlying22 hi hz0 hz1 hz2 rfl rfl (HO.out.grown ((Below.refl _ _).alloc (Nat.le_refl _) _)) ?d31 ⟨wr.heap.size, 0, none⟩ 1 1 [.int .u8 ((hexd (x / 65536 % 16)).toNat : Int)] rfl rfl ?d32 ?d33 ?d34 ?d35 ?d36 (N + (3 + 1)) ?d37 ?_); (case d31 => go_must (have := hb.size; simp only [World.size_alloc]; omega)); (case d32 => go_must (exact cell_one_new _ _ _)); (case d33 => go_must (intro u hu; simp at hu; subst hu; rfl)); (case d34 => go_must (omega)); (case d35 => go_must (unfold maxLen; omega)); (case d36 => go_must (omega)); (case d37 => go_must (omega)); intro a2 c2 w2 ho2 hb2)
            go_roundw
            case rel => exact ⟨3 + 1, a2, c2, rfl, rfl, by omega, by rw [u8s_app, hbe, ← List.append_assoc, ← u8s_app]; exact ho2, (hb.alloc hb.size _).trans hb2⟩
            case measure => simp [sliceLen]; omega
          · obtain rfl := hc
            have hbe := hexW_at x 4 (x / 4096 % 16) (by omega) rfl
            have hand := and15 (y := x / 4096) (by omega) (by omega)
            have hix := idxFig (x / 4096 % 16) (by omega) (by omega)
            go_wp2_with (at_builtin; go_must (refine wpList_append_ownV rfl _ _ 22 rfl 5 i0 (.int .u8 0) 1 Tryd.underlying22 hi hz0 hz1 hz2 rfl rfl (HO.out.grown ((Below.refl _ _).alloc (Nat.le_refl _) _)) ?d41 ⟨wr.heap.size, 0, none⟩ 1 1 [.int .u8 ((hexd (x / 4096 % 16)).toNat : Int)] rfl rfl ?d42 ?d43 ?d44 ?d45 ?d46 (N + (4 + 1)) ?d47 ?_); (case d41 => go_must (have := hb.size; simp only [World.size_alloc]; omega)); (case d42 => go_must (exact cell_one_new _ _ _)); (case d43 => go_must (intro u hu; simp at hu; subst hu; rfl)); (case d44 => go_must (omega)); (case d45 => go_must (unfold maxLen; omega)); (case d46 => go_must (omega)); (case d47 => go_must (omega)); intro a2 c2 w2 ho2 hb2)
            go_roundw
            case rel => exact ⟨4 + 1, a2, c2, rfl, rfl, by omega, by rw [u8s_app, hbe, ← List.append_assoc, ← u8s_app]; exact ho2, (hb.alloc hb.size _).trans hb2⟩
            case measure => simp [sliceLen]; omega
          · obtain rfl := hc
            have hbe := hexW_at x 5 (x / 256 % 16) (by omega) rfl
            have hand := and15 (y := x / 256) (by omega) (by omega)
            have hix := idxFig (x / 256 % 16) (by omega) (by omega)
            go_wp2_with (at_builtin; go_must (refine wpList_append_ownV rfl _ _ 22 rfl 5 i0 (.int .u8 0) 1 Tryd.underlying22 hi hz0 hz1 hz2 rfl rfl (HO.out.grown ((Below.refl _ _).alloc (Nat.le_refl _) _)) ?d51 ⟨wr.heap.size, 0, none⟩ 1 1 [.int .u8 ((hexd (x / 256 % 16)).toNat : Int)] rfl rfl ?d52 ?d53 ?d54 ?d55 ?d56 (N + (5 + 1)) ?d57 ?_); (case d51 => go_must (have := hb.size; simp only [World.size_alloc]; omega)); (case d52 => go_must (exact cell_one_new _ _ _)); (case d53 => go_must (intro u hu; simp at hu; subst hu; rfl)); (case d54 => go_must (omega)); (case d55 => go_must (unfold maxLen; omega)); (case d56 => go_must (omega)); (case d57 => go_must (omega)); intro a2 c2 w2 ho2 hb2)
            go_roundw
            case rel => exact ⟨5 + 1, a2, c2, rfl, rfl, by omega, by rw [u8s_app, hbe, ← List.append_assoc, ← u8s_app]; exact ho2, (hb.alloc hb.size _).trans hb2⟩
            case measure => simp [sliceLen]; omega
          · obtain rfl := hc
            have hbe := hexW_at x 6 (x / 16 % 16) (by omega) rfl
            have hand := and15 (y := x / 16) (by omega) (by omega)
            have hix := idxFig (x / 16 % 16) (by omega) (by omega)
            go_wp2_with (at_builtin; go_must (refine wpList_append_ownV rfl _ _ 22 rfl 5 i0 (.int .u8 0) 1 Tryd.underlying22 hi hz0 hz1 hz2 rfl rfl (HO.out.grown ((Below.refl _ _).alloc (Nat.le_refl _) _)) ?d61 ⟨wr.heap.size, 0, none⟩ 1 1 [.int .u8 ((hexd (x / 16 % 16)).toNat : Int)] rfl rfl ?d62 ?d63 ?d64 ?d65 ?d66 (N + (6 + 1)) ?d67 ?_); (case d61 => go_must (have := hb.size; simp only [World.size_alloc]; omega)); (case d62 => go_must (exact cell_one_new _ _ _)); (case d63 => go_must (intro u hu; simp at hu; subst hu; rfl)); (case d64 => go_must (omega)); (case d65 => go_must (unfold maxLen; omega)); (case d66 => go_must (omega)); (case d67 => go_must (omega)); intro a2 c2 w2 ho2 hb2)
            go_roundw
            case rel => exact ⟨6 + 1, a2, c2, rfl, rfl, by omega, by rw [u8s_app, hbe, ← List.append_assoc, ← u8s_app]; exact ho2, (hb.alloc hb.size _).trans hb2⟩
            case measure => simp [sliceLen]; omega
          · obtain rfl := hc
            have hbe := hexW_at x 7 (x % 16) (by omega) rfl
            have hand := and15 (y := x) (by omega) (by omega)
            have hix := idxFig (x % 16) (by omega) (by omega)
            go_wp2_with (at_builtin; go_must (refine wpList_append_ownV rfl _ _ 22 rfl 5 i0 (.int .u8 0) 1 Tryd.underlying22 hi hz0 hz1 hz2 rfl rfl (HO.out.grown ((Below.refl _ _).alloc (Nat.le_refl _) _)) ?d71 ⟨wr.heap.size, 0, none⟩ 1 1 [.int .u8 ((hexd (x % 16)).toNat : Int)] rfl rfl ?d72 ?d73 ?d74 ?d75 ?d76 (N + (7 + 1)) ?d77 ?_); (case d71 => go_must (have := hb.size; simp only [World.size_alloc]; omega)); (case d72 => go_must (exact cell_one_new _ _ _)); (case d73 => go_must (intro u hu; simp at hu; subst hu; rfl)); (case d74 => go_must (omega)); (case d75 => go_must (unfold maxLen; omega)); (case d76 => go_must (omega)); (case d77 => go_must (omega)); intro a2 c2 w2 ho2 hb2)
            go_roundw
            case rel => exact ⟨7 + 1, a2, c2, rfl, rfl, by omega, by rw [u8s_app, hbe, ← List.append_assoc, ← u8s_app]; exact ho2, (hb.alloc hb.size _).trans hb2⟩
            case measure => simp [sliceLen]; omega
        · obtain rfl : j = 8 := by omega
          go_wp2
          go_roundw
          case rel => exact ⟨m + 1, a, c, by rw [HN.out]; rfl, by go_num, by omega, by rw [show 8 * (m + 1) = N + 8 from by rw [HN.out]; omega, hexTo, ← HX.out]; exact HO.out, hb⟩
          case measure => simp [intOf]; omega
    · obtain rfl : m = 8 := by omega
      have hl8 := hexTo_len s 8
      have hcv := convB HO.out (by omega)
      go_wp2
      go_ret
      exact ⟨rfl, hb⟩
end Go.Proofs.YtiganhkmnklhlaaDoor
