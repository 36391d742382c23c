/-
  Bytes as figures, by the model.
-/
import Derived.Test.YtiganhkmnklhlaaDoorShaPadded
import Derived.Deep.RegionLaw
import Derived.Deep.RegionWith
namespace Go.Proofs.YtiganhkmnklhlaaDoor
open Go.RowKit
set_option linter.unusedVariables false

def hex2 (b : UInt8) : List UInt8 := [hexd ((b.toNat : Int) / 16), hexd ((b.toNat : Int) % 16)]
def hexB (l : List UInt8) : List UInt8 := l.flatMap hex2
theorem hexB_len (l : List UInt8) : (hexB l).length = 2 * l.length := by
  induction l with
  | nil => rfl
  | cons a r ih => rw [hexB, List.flatMap_cons, List.length_append]; rw [hexB] at ih; rw [ih]; simp [hex2]; omega
theorem hexB_snoc (l : List UInt8) (b : UInt8) : hexB (l ++ [b]) = hexB l ++ hex2 b := by simp [hexB]
theorem fig_at (y : Nat) (h : y < (⟨#[48, 49, 50, 51, 52, 53, 54, 55, 56, 57, 97, 98, 99, 100, 101, 102]⟩ : ByteArray).size) : ((⟨#[48, 49, 50, 51, 52, 53, 54, 55, 56, 57, 97, 98, 99, 100, 101, 102]⟩ : ByteArray)[y]'h) = hexd (y : Int) := by
  have h16 : y < 16 := h
  have : y = 0 ∨ y = 1 ∨ y = 2 ∨ y = 3 ∨ y = 4 ∨ y = 5 ∨ y = 6 ∨ y = 7 ∨ y = 8 ∨ y = 9 ∨ y = 10 ∨ y = 11 ∨ y = 12 ∨ y = 13 ∨ y = 14 ∨ y = 15 := by omega
  rcases this with rfl | rfl | rfl | rfl | rfl | rfl | rfl | rfl | rfl | rfl | rfl | rfl | rfl | rfl | rfl | rfl <;> rfl

set_option maxRecDepth 100000 in
set_option maxHeartbeats 8000000 in
theorem hexS (T : ByteArray) (w : World) (h0 : 0 < T.size) (h64 : T.size ≤ 64) :
    Calls Tryd.prog 49 #[.string T] w fun e w' => e = .returned (.string ⟨(hexB T.data.toList).toArray⟩) ∧ Below w.heap.size w w' := by
  obtain ⟨i0, hi, hz0, hz1, hz2⟩ := info_parts info_u8
  have hdl : T.data.toList.length = T.size := by simp
  go_enter Tryd.func49, Tryd.ntmps49
  go_wp2_with fail
  go_loopw [3, 4] (fun v i wr => ∃ (m : Nat) (a : Option Addr) (c : Nat), v = .slice a (2 * m) c ∧ i = .int .i64 m ∧ m ≤ T.size ∧ OwnV w.heap.size wr (.slice a (2 * m) c) (u8s (hexB (T.data.toList.take m))) ∧ Below w.heap.size w wr) (fun _ i _ => 64 - (intOf i).toNat)
  case atStart => exact ⟨0, _, _, rfl, rfl, by omega, OwnV.made w (Nat.le_refl _), (Below.refl _ _).alloc (Nat.le_refl _) _⟩
  case round =>
    obtain ⟨m, a, c, rfl, rfl, hm, ho, hb⟩ := hrel
    have HO := Lib.hid ho
    have hle : (u8s (hexB (T.data.toList.take m))).length = 2 * m := by rw [u8s_len, hexB_len, List.length_take]; omega
    clear ho
    rcases Nat.lt_or_ge m T.size with hlt | hge
    · have hmi : (m : Int) < T.size := by omega
      have hnx : u8s (hexB (T.data.toList.take (m + 1))) = u8s (hexB (T.data.toList.take m)) ++ [.int .u8 ((hexd (((T[m]'hlt).toNat : Int) / 16)).toNat : Int), .int .u8 ((hexd (((T[m]'hlt).toNat : Int) % 16)).toNat : Int)] := by
        rw [List.take_succ_eq_append_getElem (by omega), hexB_snoc, u8s_app]; rfl
      have hy0 : (T[m]'hlt).toNat < 256 := (T[m]'hlt).toNat_lt
      obtain ⟨Y1, hY1⟩ : ∃ Y : Nat, Y = (T[m]'hlt).toNat / 16 := ⟨_, rfl⟩
      obtain ⟨Y2, hY2⟩ : ∃ Y : Nat, Y = (T[m]'hlt).toNat % 16 := ⟨_, rfl⟩
      have e1 : ((T[m]'hlt).toNat : Int) / 16 = (Y1 : Int) := by omega
      have e2 : ((T[m]'hlt).toNat : Int) % 16 = (Y2 : Int) := by omega
      have e3 : ((T[m]'hlt).toNat : Int).tmod 16 = (Y2 : Int) := by rw [Int.tmod_eq_emod_of_nonneg (by omega)]; exact e2
      have l3 : (0 : Int) ≤ (Y2 : Int) := by omega
      have l1 : (Y1 : Int) < 16 := by omega
      have l2 : (Y2 : Int) < 16 := by omega
      have p1 : IntKind.u8.wrap (Y1 : Int) = (Y1 : Int) := Int.emod_eq_of_lt (by omega) (by show (Y1 : Int) < 256; omega)
      have p2 : IntKind.u8.wrap (Y2 : Int) = (Y2 : Int) := Int.emod_eq_of_lt (by omega) (by show (Y2 : Int) < 256; omega)
      have v1 : ∀ h, (((⟨#[48, 49, 50, 51, 52, 53, 54, 55, 56, 57, 97, 98, 99, 100, 101, 102]⟩ : ByteArray)[Y1]'h)) = hexd Y1 := fun h => (fig_at Y1 h)
      have v2 : ∀ h, (((⟨#[48, 49, 50, 51, 52, 53, 54, 55, 56, 57, 97, 98, 99, 100, 101, 102]⟩ : ByteArray)[Y2]'h)) = hexd Y2 := fun h => (fig_at Y2 h)
      rw [e1, e2] at hnx
      have HN := Lib.hid hnx
      clear hnx hY1 hY2
      go_wp2_with fail
      go_region_law (refine step_append_ownV (B := w.heap.size) (w := ?ew) (v := ?ev) (xs := (u8s (hexB (T.data.toList.take m)))) ?ea ?es ?ex 22 ?eb 5 i0 (.int .u8 0) 1 ?ec ?ed ?ef ?eg ?eh ?ei ?ej ?e0 ?e1 ⟨wr.heap.size, 0, none⟩ 2 2 [.int .u8 ((hexd (Y1 : Int)).toNat : Int), .int .u8 ((hexd (Y2 : Int)).toNat : Int)] ?ek ?el ?e2 ?e3 ?e4 ?e5 ?e6 (2 * (m + 1)) ?e7 ?_; (case ea => rfl); (case eb => rfl); (case ej => rfl); (case e0 => go_must (exact HO.out.grown (Below.drew ((Below.refl _ _).alloc (Nat.le_refl _) _)))); (case ek => rfl); (case ec => exact Tryd.underlying22); (case ed => exact hi); (case ef => exact hz0); (case eg => exact hz1); (case eh => exact hz2); (case ei => rfl); (case el => rfl); (case e1 => go_must (have := hb.size; simp; omega)); (case e2 => go_must (exact World.news_of_block (heap_alloc_last _ _))); (case e3 => go_must (intro u hu; simp at hu; first | (subst hu; rfl) | (rcases hu with rfl | rfl <;> rfl) | (rcases hu with rfl | rfl | rfl | rfl <;> rfl))); (case e4 => go_must (omega)); (case e5 => go_must (unfold maxLen; omega)); (case e6 => go_must (omega)); (case e7 => go_must (omega)); intro a2 c2 w2 ho2 hb2)
      all_goals
        go_wp2
        go_roundw
        case rel => exact ⟨m + 1, a2, c2, rfl, by go_num, by omega, by rw [HN.out]; exact ho2, ((hb.alloc hb.size _).drew).trans hb2⟩
        case measure => simp [intOf]; omega
    · obtain rfl : m = T.size := by omega
      have hcv := convB HO.out (by rw [hexB_len, List.length_take]; omega)
      have ht : T.data.toList.take T.size = T.data.toList := List.take_of_length_le (by omega)
      rw [ht] at hcv
      clear HO
      go_wp2_with fail
      go_ret
      exact ⟨rfl, hb⟩
end Go.Proofs.YtiganhkmnklhlaaDoor
