/-
  A log with a record more, whether a log is right as a whole, and what is left of one, by the model.
-/
import Derived.Test.YtiganhkmnklhlaaDoorLogReadS
import Derived.Test.YtiganhkmnklhlaaDoorLogTornI
namespace Go.Proofs.YtiganhkmnklhlaaDoor
open Go.RowKit
set_option linter.unusedVariables false
set_option linter.unusedSimpArgs false

set_option maxRecDepth 100000 in
set_option maxHeartbeats 4000000 in
theorem addS (t x : ByteArray) (w : World) (ht : t.size ≤ 1048576) (hx : x.size ≤ 1048576) :
    Calls Tryd.prog 18 #[.string t, .string x] w (AddPost t x w) := by
  go_enter Tryd.func18, Tryd.ntmps18
  go_wp2_with fail
  refine (readS t _ ht).mono ?_
  rintro e w1 ⟨rs, m, a, cap, rfl, hown, hrn, hm, hlog, hb1⟩
  clear hown
  go_wp2_with fail
  refine (frameS rs.length x _ hrn hx).mono ?_
  rintro e w2 ⟨f, rfl, hfz, hf, hd2⟩
  have hb2 : Below w.heap.size w w2 := hb1.trans (hd2.mono hb1.size)
  have hfl : (frame rs.length x).length = f.size := by
    rw [hf.out]; show _ = (frame rs.length x).toArray.size; rw [List.size_toArray]
  have HF := Lib.hid hfl
  have hts : (t ++ f).size = t.size + f.size := ByteArray.size_append
  have hout : Hid (t ++ f = ⟨(t.data.toList ++ frame rs.length x).toArray⟩) := by
    show _ = _
    rw [hf.out]
    apply ByteArray.ext
    simp
  clear hfl
  by_cases hmt : m = t.size
  · have e1 : ((m : Int) == (t.size : Int)) = true := by simp [hmt]
    have e2 : ((m : Int) != (t.size : Int)) = false := by simp [hmt]
    subst hmt
    rcases Nat.lt_or_ge 9000 (t.size + f.size) with c | c
    · go_wp2
      go_ret2
      exact ⟨t, false, rfl, ht, ⟨rs, _, hlog.out, Or.inr ⟨Or.inr (by rw [HF.out]; exact c), rfl, rfl⟩⟩, hb2⟩
    · go_wp2
      go_ret2
      exact ⟨_, true, rfl, by rw [ByteArray.size_append]; omega, ⟨rs, _, hlog.out, Or.inl ⟨rfl, by rw [HF.out]; exact c, hout.out, rfl⟩⟩, hb2⟩
  · have e1 : ((m : Int) == (t.size : Int)) = false := by simp; omega
    have e2 : ((m : Int) != (t.size : Int)) = true := by simp; omega
    go_wp2
    go_ret2
    exact ⟨t, false, rfl, ht, ⟨rs, m, hlog.out, Or.inr ⟨Or.inl hmt, rfl, rfl⟩⟩, hb2⟩

set_option maxHeartbeats 1000000 in
theorem okS (t : ByteArray) (w : World) (ht : t.size ≤ 1048576) :
    Calls Tryd.prog 9 #[.string t] w (OkPost t w) := by
  go_enter Tryd.func9, Tryd.ntmps9
  go_wp2_with fail
  refine (readS t _ ht).mono ?_
  rintro e w1 ⟨rs, m, a, cap, rfl, hown, hrn, hm, hlog, hb1⟩
  clear hown
  have hok := Lib.hid (ok_is ht hlog.out)
  by_cases hmt : m = t.size
  · have e1 : ((m : Int) == (t.size : Int)) = true := by simp [hmt]
    subst hmt
    rcases Nat.lt_or_ge 9000 t.size with c | c
    · have g1 : decide ((t.size : Int) ≤ 9000) = false := by simp; omega
      go_wp2
      go_ret
      refine ⟨false, rfl, ?_, hb1⟩
      show _ ↔ _
      rw [← hok.out]; simp; omega
    · have g1 : decide ((t.size : Int) ≤ 9000) = true := by simp; omega
      go_wp2
      go_ret
      refine ⟨true, rfl, ?_, hb1⟩
      show _ ↔ _
      rw [← hok.out]; simp; omega
  · have e1 : ((m : Int) == (t.size : Int)) = false := by simp; omega
    go_wp2
    go_ret
    refine ⟨false, rfl, ?_, hb1⟩
    show _ ↔ _
    rw [← hok.out]; simp [hmt]

set_option maxHeartbeats 2000000 in
theorem tornS (t x : ByteArray) (n : Int) (w : World) (ht : t.size ≤ 1048576) (hx : x.size ≤ 1048576) (hn : n ≤ 9223372036854775807) :
    Calls Tryd.prog 7 #[.string t, .string x, .int .i64 n] w (TornPost t x n w) := by
  go_enter Tryd.func7, Tryd.ntmps7
  go_wp2_with fail
  refine (addS t x _ ht hx).mono ?_
  rintro e w1 ⟨p, b, rfl, hp, hadd, hb1⟩
  cases b with
  | false =>
    go_wp2
    go_ret
    exact ⟨t, rfl, ht, ⟨p, false, hadd.out, Or.inl ⟨Or.inl rfl, rfl⟩⟩, hb1⟩
  | true =>
    have hge := add_ge hadd.out
    rcases Int.lt_or_le n 0 with c | c
    · have g0 : decide (n < 0) = true := by simp; omega
      go_wp2
      go_ret
      exact ⟨t, rfl, ht, ⟨p, true, hadd.out, Or.inl ⟨Or.inr c, rfl⟩⟩, hb1⟩
    · have g0 : decide (n < 0) = false := by simp; omega
      obtain ⟨k, rfl⟩ := Int.eq_ofNat_of_zero_le c
      obtain ⟨d, hd⟩ : ∃ d : Nat, d = p.size - t.size := ⟨_, rfl⟩
      have hw1 : IntKind.i64.wrap ((p.size : Int) - (t.size : Int)) = (d : Int) := by rw [IntWalk.i64_in _ (by omega)]; omega
      rcases Nat.lt_or_ge d k with c2 | c2
      · have g1 : decide ((d : Int) < (k : Int)) = true := by simp; omega
        go_wp2
        go_ret
        refine ⟨p, rfl, hp, ⟨p, true, hadd.out, Or.inr ⟨rfl, c, ?_⟩⟩, hb1⟩
        apply ByteArray.ext
        rw [Int.toNat_natCast, List.take_of_length_le (by simp; omega)]
      · have g1 : decide ((d : Int) < (k : Int)) = false := by simp; omega
        obtain ⟨J, hJ⟩ : ∃ J : Nat, J = t.size + k := ⟨_, rfl⟩
        have hw2 : IntKind.i64.wrap ((t.size : Int) + (k : Int)) = (J : Int) := by rw [IntWalk.i64_in _ (by omega)]; omega
        have j1 : (J : Int) ≤ p.size := by omega
        have HJ := Lib.hid hJ
        clear hJ hd
        go_wp2
        go_ret
        refine ⟨_, rfl, by rw [ByteArray.size_extract]; omega, ⟨p, true, hadd.out, Or.inr ⟨rfl, c, ?_⟩⟩, hb1⟩
        apply ByteArray.ext
        apply Array.ext'
        rw [Lib.extract_data, HJ.out, Int.toNat_natCast]
        simp
end Go.Proofs.YtiganhkmnklhlaaDoor
