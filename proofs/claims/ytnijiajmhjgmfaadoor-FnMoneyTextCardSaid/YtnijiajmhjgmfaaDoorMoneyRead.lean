/-
  What MoneyRead returns, of the program and of its model, at every text that is not too long.
-/
import Derived.Test.YtnijiajmhjgmfaaDoorAtoi
import Derived.Test.YtnijiajmhjgmfaaDoorMoneyWrite
import Derived.Lib.Strings
import Derived.Lib.IndexBytes
namespace Go.Proofs.YtnijiajmhjgmfaaDoor
open Go.RowKit
set_option linter.unusedVariables false

def mS (n : Int) : ByteArray := ⟨(moneyStr n).toArray⟩
def ReadIs (s : ByteArray) (v : Int) (b : Bool) : Prop := (b = true ∧ okB v = true ∧ s = mS v) ∨ (b = false ∧ v = 0 ∧ ∀ n, okB n = true → s ≠ mS n)
def ReadPost (s : ByteArray) (w : World) (e : Ending) (w' : World) : Prop := ∃ (v : Int) (b : Bool), e = .returned (.tuple #[.int .i64 v, .bool b]) ∧ Hid (ReadIs s v b) ∧ Below w.heap.size w w'

theorem ok_abs {n : Int} (h : okB n = true) : n.natAbs ≤ 1000000000000 := by have := okB_yes h; omega
theorem mS_size (n : Int) : (mS n).size = mlen n + 3 := by
  have := moneyStr_len n
  simpa [mS, ByteArray.size] using this
/-- The text without its point. -/
def undot (s : ByteArray) : ByteArray := s.extract 0 (s.size - 3) ++ s.extract (s.size - 3 + 1) s.size
theorem undot_list (s : ByteArray) : (undot s).data.toList = s.data.toList.take (s.size - 3) ++ s.data.toList.drop (s.size - 3 + 1) := by
  unfold undot
  rw [ByteArray.data_append, Array.toList_append, Lib.extract_data, Lib.extract_to_end]
  simp
theorem undot_money (n : Int) (h : okB n = true) : Lib.atoiAll (undot (mS n)).data.toList = .ok n := by
  rw [undot_list, mS_size]
  have : mlen n + 3 - 3 = mlen n := by omega
  rw [this]
  exact atoi_money n (ok_abs h)
theorem write_ok {n : Int} (h : okB n = true) : writeStr n = mS n := by rw [writeStr, h]; rfl

theorem str_ne {a b : ByteArray} (h : ¬ a = b) : (a.toList == b.toList) = false := by
  rw [beq_eq_false_iff_ne]
  intro e
  rw [Lib.toList_data, Lib.toList_data] at e
  exact h (WideShapes.bytes_inj e)

set_option maxHeartbeats 1000000 in
theorem implRead (s : ByteArray) (w : World) (hs : s.size ≤ 1048600) (hL : LaidE w) :
    Calls Tryd.prog 9 #[.string s] w (ReadPost s w) := by
  by_cases h3 : s.size < 3
  · go_enter Tryd.func9, Tryd.ntmps9
    go_wp2
    go_ret2
    refine ⟨_, _, rfl, Or.inr ⟨rfl, rfl, fun n hn he => ?_⟩, Below.refl _ _⟩
    have := mS_size n
    rw [he] at h3; omega
  · obtain ⟨d, hd⟩ : ∃ d : Nat, d = s.size - 3 := ⟨_, rfl⟩
    have hu : undot s = s.extract 0 d ++ s.extract (d + 1) s.size := by rw [undot, hd]
    have d1 : d + 1 < s.size := by omega
    have d2 : (s.size : Int) - 3 = (d : Int) := by omega
    have z1 : (s.extract 0 d).size ≤ 1048600 := by rw [ByteArray.size_extract]; omega
    have z2 : (s.extract (d + 1) s.size).size ≤ 1048600 := by rw [ByteArray.size_extract]; omega
    have z3 : (s.extract 0 d ++ s.extract (d + 1) s.size).size ≤ 2097200 := by rw [ByteArray.size_append]; omega
    have e1 : IntKind.i64.wrap ((d : Int) + 1) = (d : Int) + 1 := IntWalk.i64_in _ (by omega)
    have q1 : (d : Int) + 1 ≤ s.size := by omega
    have q2 : (d : Int) ≤ s.size := by omega
    have D2 := Lib.hid d2
    have Hd := Lib.hid hd
    clear d2 hd
    by_cases hex : ∃ v, Lib.atoiAll (undot s).data.toList = .ok v
    · obtain ⟨v, hv⟩ := hex
      have Hu := Lib.hid hv
      rw [hu] at hv
      have Hv := Lib.hid hv
      clear hv hu
      go_enter Tryd.func9, Tryd.ntmps9
      go_wp2_with fail
      rw [D2.out]
      go_region_with (go_at_call 17; refine (atoiGood _ v ?_ Hv.out _).mono ?_; omega; rintro e w2 ⟨rfl, hb2⟩)
      go_wp2_with fail
      refine (implWrite v _ ?_).mono ?_
      · exact (laidE_stays hL (bd hb2)).1
      rintro e w3 ⟨s3, rfl, hs3, he3, hb3⟩
      by_cases hc : s3 = s
      · subst hc
        go_wp2
        go_ret2
        refine ⟨_, _, rfl, ?_, bt (bd hb2) hb3⟩
        have ho : okB v = true := by
          cases ho : okB v with
          | true => rfl
          | false =>
            have := he3.out
            rw [writeStr, ho] at this
            subst this
            have := sz0
            simp only [Bool.false_eq_true, if_false] at h3
            omega
        exact Or.inl ⟨rfl, ho, he3.out.trans (write_ok ho)⟩
      · have hne := str_ne hc
        go_wp2
        go_ret2
        refine ⟨_, _, rfl, ?_, bt (bd hb2) hb3⟩
        refine Or.inr ⟨rfl, rfl, fun n hn hs0 => hc ?_⟩
        have := Hu.out
        rw [hs0, undot_money n hn] at this
        cases this
        rw [he3.out, write_ok hn, hs0]
    · have Hb : Hid (∀ v, Lib.atoiAll (s.extract 0 d ++ s.extract (d + 1) s.size).data.toList ≠ .ok v) := fun v hv => hex ⟨v, by rw [hu]; exact hv⟩
      have Hex := Lib.hid hex
      clear hex hu
      go_enter Tryd.func9, Tryd.ntmps9
      go_wp2_with fail
      rw [D2.out]
      go_region_with (go_at_call 17; refine (atoiBad _ ?_ Hb.out _ ?_).mono ?_; omega; exact laidE_stays hL (Below.refl _ _).drew; rintro e w2 ⟨v, t, p, rfl, hb2⟩)
      go_wp2
      go_ret2
      refine ⟨_, _, rfl, ?_, bd hb2⟩
      exact Or.inr ⟨rfl, rfl, fun n hn hs0 => Hex.out ⟨n, by rw [hs0]; exact undot_money n hn⟩⟩
end Go.Proofs.YtnijiajmhjgmfaaDoor
