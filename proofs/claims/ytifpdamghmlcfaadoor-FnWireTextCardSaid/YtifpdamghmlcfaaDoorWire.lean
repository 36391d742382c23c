/-
  Words as bytes: one word of the program's, and all of the model's.
-/
import Derived.Test.YtifpdamghmlcfaaDoorItoa
import Derived.Test.YtifpdamghmlcfaaDoorWireDef
import Derived.Deep.RegionWith
namespace Go.Proofs.YtifpdamghmlcfaaDoor
open Go.RowKit
set_option linter.unusedVariables false

def WordPost (s : ByteArray) (w : World) (e : Ending) (w' : World) : Prop := ∃ t : ByteArray, e = .returned (.string t) ∧ t.size ≤ s.size + 22 ∧ Hid (t = ⟨(wire1 s).toArray⟩) ∧ Below w.heap.size w w' ∧ Laid w'

theorem szC : (⟨#[58]⟩ : ByteArray).size = 1 := rfl
theorem szK : (⟨#[44]⟩ : ByteArray).size = 1 := rfl
set_option maxHeartbeats 1000000 in
theorem wordS (s : ByteArray) (w : World) (hs : s.size ≤ 1048576) (hL : Laid w) :
    Calls Tryd.prog 24 #[.string s] w (WordPost s w) := by
  go_enter Tryd.func24, Tryd.ntmps24
  go_wp2_with fail
  refine (itoaS _ _ hL (by omega) (by omega)).mono ?_
  rintro e w2 ⟨s2, rfl, hl2, he2, hb2, hL2⟩
  go_wp2_with fail
  go_ret
  refine ⟨_, rfl, ?_, ?_, hb2, hL2⟩
  · have := szC; have := szK; simp only [ByteArray.size_append]; omega
  · show _ = _
    rw [he2.out, Int.toNat_natCast]
    apply ByteArray.ext
    simp [wire1]

theorem put_step {t s2 s : ByteArray} {A : List UInt8} (ht : Hid (t = ⟨A.toArray⟩)) (h2 : Hid (s2 = ⟨(Lib.decDigits ((s.size : Int)).toNat).toArray⟩)) : t ++ s2 ++ ⟨#[58]⟩ ++ s ++ ⟨#[44]⟩ = (⟨(A ++ wire1 s).toArray⟩ : ByteArray) := by
  rw [ht.out, h2.out, Int.toNat_natCast]
  apply ByteArray.ext
  simp [wire1]
theorem put_size {t : ByteArray} {A : List UInt8} {n : Nat} (h : t = ⟨A.toArray⟩) (hn : A.length ≤ n) : t.size ≤ n := by
  rw [h]; simpa [ByteArray.size] using hn

def PutPost (ss : List ByteArray) (w : World) (e : Ending) (w' : World) : Prop := ∃ t : ByteArray, e = .returned (.string t) ∧ Hid (t = ⟨(wireL ss).toArray⟩) ∧ Below w.heap.size w w'

set_option maxHeartbeats 1000000 in
theorem specPutAll (a : Option Addr) (len cap : Nat) (ss : List ByteArray) (w : World) (h : Strs w a len ss) (hl : len ≤ 1048576) (ht : total ss ≤ 1048576) (hz : (wireL ss).length ≤ 100000000) (hss : ∀ k, k < len → (ss.getD k ByteArray.empty).size ≤ 1048576) :
    Calls Tryd.prog 19 #[.slice a len cap] w (PutPost ss w) := by
  have Hs := Lib.hid h
  have Hss := Lib.hid hss
  have Hz := Lib.hid hz
  clear h hss hz
  go_enter Tryd.func19, Tryd.ntmps19
  go_wp2_with fail
  go_loopw [3, 4] (fun v i wr => ∃ k : Nat, k ≤ len ∧ i = .int .i64 k ∧ ∃ t : ByteArray, v = .string t ∧ t.size ≤ 100000000 ∧ Hid (t = ⟨(wireL (ss.take k)).toArray⟩) ∧ Below w.heap.size w wr) (fun _ i _ => len - (intOf i).toNat)
  case atStart => exact ⟨0, Nat.zero_le _, rfl, _, rfl, by simp [ByteArray.size], rfl, Below.refl _ _⟩
  case round =>
    obtain ⟨k, hk, rfl, t, rfl, htz, hte, hb⟩ := hrel
    rcases Nat.lt_or_ge k len with hlt | hge
    · obtain ⟨hlen, hc⟩ := Hs.out.kept hb
      have Hlen := Lib.hid hlen
      clear hlen
      rcases hc with hc | ⟨b, off, rfl, hbl, hcell⟩
      · omega
      have c1 := hcell k hlt
      clear hcell
      have hsz := Hss.out k hlt
      have Hsn : Hid (wireL (ss.take (k + 1)) = wireL (ss.take k) ++ wire1 (ss.getD k ByteArray.empty)) := by
        show _ = _
        rw [takeStr ss k (by rw [Hlen.out]; exact hlt), wireL_snoc]
      have Hle : Hid ((wireL (ss.take (k + 1))).length ≤ 100000000) := Nat.le_trans (wireL_take_le _ _) Hz.out
      generalize ss.getD k ByteArray.empty = s at *
      have k1 : (k : Int) < len := by omega
      have k0 : (0 : Int) ≤ k := by omega
      go_wp2_with fail
      go_region_with (go_at_call 29; refine (decS _ _ ?_ ?_).mono ?_; omega; omega; rintro e w2 ⟨s2, rfl, hl2, he2, hb2⟩; have c2 := hb2.cell (p := ⟨b, off + k, none⟩) hbl)
      all_goals
        have heq := put_step (s := s) hte he2
        rw [← Hsn.out] at heq
        have hsz2 := put_size heq Hle.out
        have Heq := Lib.hid heq
        clear heq
        have hbw : Below w.heap.size w w2 := hb.trans ((bd hb2).mono hb.size)
        go_wp2
        go_roundw
        case rel => exact ⟨k + 1, by omega, by go_num, _, rfl, hsz2, Heq.out, hbw⟩
        case measure => simp [intOf]; omega
    · obtain rfl : k = len := by omega
      go_wp2
      go_ret
      refine ⟨_, rfl, ?_, hb⟩
      have := hte.out
      rw [List.take_of_length_le (by rw [Hs.out.1]; exact Nat.le_refl _)] at this
      exact this
end Go.Proofs.YtifpdamghmlcfaaDoor
