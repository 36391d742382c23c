/-
  The law FnExactMoneyRead's own walk: both MoneyRead say the same of every text.
-/
import Derived.Test.YtnijiajmhjgmfaaDoorMoneyRead3
import Derived.Test.YtnijiajmhjgmfaaDoorMoneyBytes
namespace Go.Proofs.YtnijiajmhjgmfaaDoor
open Go.RowKit
set_option linter.unusedVariables false

theorem readYes {n : Int} (ho : okB n = true) : ReadIs (mS n) n true := Or.inl ⟨rfl, ho, rfl⟩
theorem front_pos {n : Int} (h : ¬ n < 0) (hp : 0 < ((mS n).extract 0 ((mS n).size - 3)).size) : (((((mS n).extract 0 ((mS n).size - 3))[0]).toNat : Int) == 45) = false := by
  have e := mS_front n
  rw [sgn, if_neg h, List.nil_append] at e
  have hfig := dec_fig _ (n.natAbs / 100) (Nat.le_refl _)
  generalize Lib.decDigits (n.natAbs / 100) = D at *
  cases D with
  | nil =>
    have : ((mS n).extract 0 ((mS n).size - 3)).data.toList.length = 0 := by rw [e]; rfl
    rw [listLen] at this; omega
  | cons c r =>
    rw [front_head _ hp c r e]
    have := hfig c (by simp)
    simp; omega
theorem front_neg {n : Int} (h : n < 0) (hp : 0 < ((mS n).extract 0 ((mS n).size - 3)).size) : (((((mS n).extract 0 ((mS n).size - 3))[0]).toNat : Int) == 45) = true := by
  have e := mS_front n
  rw [sgn, if_pos h, List.singleton_append] at e
  rw [front_head _ hp _ _ e]; rfl

theorem specRead (s : ByteArray) (w : World) (hs : s.size ≤ 1048600) :
    Calls Tryd.prog 8 #[.string s] w (ReadPost s w) := by
  by_cases hy : ∃ n, okB n = true ∧ s = mS n
  · obtain ⟨n, ho, rfl⟩ := hy
    have hb := ok_abs ho
    have hm := mlen_bd n hb
    have hz := mS_size n
    have i0 : (mS n).size - 3 < (mS n).size := by omega
    have i1 : (mS n).size - 3 + 1 < (mS n).size := by omega
    have i2 : (mS n).size - 3 + 2 < (mS n).size := by omega
    have hp : 0 < ((mS n).extract 0 ((mS n).size - 3)).size := by rw [ByteArray.size_extract]; omega
    have f0 := mS_dot n i0
    have f1 := mS_ten n i1
    have f2 := mS_one n i2
    have hw : Hid (writeStr n = mS n) := write_ok ho
    by_cases hn : n < 0
    · refine (specReadNeg (mS n) ((n.natAbs / 100 : Nat) : Int) w hs (by omega) hp i0 i1 i2 (by rw [f0]; rfl) (by rw [f0]; rfl) (by rw [f1]; omega) (by rw [f1]; omega) (by rw [f2]; omega) (by rw [f2]; omega) (front_neg hn hp) ?_ (by omega) (by omega) n ?_ hw).mono fun e w' h => ⟨n, true, h.1, readYes ho, h.2⟩
      · show _ = _
        rw [Lib.extract_data, mS_front, sgn, if_pos hn, List.singleton_append, List.drop_one, List.tail_cons, List.take_of_length_le, num_digits _ (by omega)]
        have : mlen n = 1 + (Lib.decDigits (n.natAbs / 100)).length := by rw [mlen, sgn, if_pos hn]; rfl
        omega
      · show _ = _
        rw [f1, f2]; omega
    · refine (specReadPos (mS n) ((n.natAbs / 100 : Nat) : Int) w hs (by omega) hp i0 i1 i2 (by rw [f0]; rfl) (by rw [f0]; rfl) (by rw [f1]; omega) (by rw [f1]; omega) (by rw [f2]; omega) (by rw [f2]; omega) (front_pos hn hp) ?_ (by omega) (by omega) n ?_ hw).mono fun e w' h => ⟨n, true, h.1, readYes ho, h.2⟩
      · show _ = _
        rw [mS_front, sgn, if_neg hn, List.nil_append, num_digits _ (by omega)]
      · show _ = _
        rw [f1, f2]; omega
  · exact specReadNo s w hs fun n hn e => hy ⟨n, hn, e⟩

theorem read_same {s : ByteArray} {v v' : Int} {b b' : Bool} (h : ReadIs s v b) (h' : ReadIs s v' b') : v = v' ∧ b = b' := by
  rcases h with ⟨rfl, ho, hs⟩ | ⟨rfl, rfl, hno⟩ <;> rcases h' with ⟨rfl, ho', hs'⟩ | ⟨rfl, rfl, hno'⟩
  · refine ⟨money_inj (ok_abs ho) (ok_abs ho') ?_, rfl⟩
    have := hs.symm.trans hs'
    have := congrArg (fun b : ByteArray => b.data.toList) this
    simpa [mS] using this
  · exact absurd hs (hno' _ ho)
  · exact absurd hs' (hno _ ho')
  · exact ⟨rfl, rfl⟩

set_option maxHeartbeats 1000000 in
theorem exactRead (s : ByteArray) (w : World) (hm : s.size ≤ maxLen) (hL : LaidE w) :
    Calls Tryd.prog 4 #[.string s] w fun e w' => e = .returned (.bool true) ∧ Below w.heap.size w w' := by
  rcases Nat.lt_or_ge 1048576 s.size with hb | hb
  · unfold maxLen at hm
    go_enter Tryd.func4, Tryd.ntmps4
    go_wp2
    go_ret
    exact ⟨rfl, Below.refl _ _⟩
  · clear hm
    go_enter Tryd.func4, Tryd.ntmps4
    go_wp2_with fail
    refine (specRead s _ (by omega)).mono ?_
    rintro e w2 ⟨v, b, rfl, hv, hb2⟩
    go_wp2_with fail
    refine (implRead s _ (by omega) (laidE_stays hL hb2)).mono ?_
    rintro e w3 ⟨v3, b3, rfl, hv3, hb3⟩
    obtain ⟨rfl, rfl⟩ := read_same hv3.out hv.out
    cases b3 <;> (go_wp2; go_ret; exact ⟨rfl, bt hb2 hb3⟩)
end Go.Proofs.YtnijiajmhjgmfaaDoor
