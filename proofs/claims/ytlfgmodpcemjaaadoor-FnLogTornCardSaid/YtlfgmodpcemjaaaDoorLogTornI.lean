/-
  What is left of a log when power is lost, by the program.
-/
import Derived.Test.YtlfgmodpcemjaaaDoorLogAddI
namespace Go.Proofs.YtlfgmodpcemjaaaDoor
open Go.RowKit
set_option linter.unusedVariables false
set_option linter.unusedSimpArgs false

def TornIs (t x : ByteArray) (n : Int) (o : ByteArray) : Prop := ∃ p b, AddIs t x p b ∧ (((b = false ∨ n < 0) ∧ o = t) ∨ (b = true ∧ 0 ≤ n ∧ o = ⟨(p.data.toList.take (t.size + n.toNat)).toArray⟩))
theorem torn_one {t x o p : ByteArray} {n : Int} (hs : t.size ≤ 1048576) (h : TornIs t x n o) (k : TornIs t x n p) : o = p := by
  obtain ⟨q, b, h1, h2⟩ := h
  obtain ⟨r, c, k1, k2⟩ := k
  obtain ⟨rfl, rfl⟩ := add_one hs h1 k1
  rcases h2 with ⟨a1, rfl⟩ | ⟨rfl, a2, rfl⟩
  · rcases k2 with ⟨c1, rfl⟩ | ⟨rfl, c2, rfl⟩
    · rfl
    · rcases a1 with a1 | a1
      · cases a1
      · omega
  · rcases k2 with ⟨c1, rfl⟩ | ⟨-, c2, rfl⟩
    · rcases c1 with c1 | c1
      · cases c1
      · omega
    · rfl
theorem add_ge {t x o : ByteArray} (h : AddIs t x o true) : t.size ≤ o.size ∧ o.size ≤ 9000 := by
  obtain ⟨rs, m, -, h2⟩ := h
  rcases h2 with ⟨a1, a2, rfl, -⟩ | ⟨-, -, a3⟩
  · have e : (⟨(t.data.toList ++ frame rs.length x).toArray⟩ : ByteArray).size = t.size + (frame rs.length x).length := by
      show (t.data.toList ++ frame rs.length x).toArray.size = _
      rw [List.size_toArray, List.length_append]; simp
    rw [e]; omega
  · cases a3
def TornPost (t x : ByteArray) (n : Int) (w : World) (e : Ending) (w' : World) : Prop := ∃ o : ByteArray, e = .returned (.string o) ∧ o.size ≤ 1048576 ∧ Hid (TornIs t x n o) ∧ Below w.heap.size w w'

set_option maxHeartbeats 2000000 in
theorem tornI (t x : ByteArray) (n : Int) (w : World) (ht : t.size ≤ 1048576) (hx : x.size ≤ 1048576) (hn : n ≤ 9223372036854775807) (hL : LaidL w) :
    Calls Tryd.prog 25 #[.string t, .string x, .int .i64 n] w (TornPost t x n w) := by
  go_enter Tryd.func25, Tryd.ntmps25
  go_wp2_with fail
  refine (addI t x _ ht hx hL).mono ?_
  rintro e w1 ⟨p, b, rfl, hp, hadd, hb1⟩
  cases b with
  | false =>
    go_wp2
    go_ret
    exact ⟨t, rfl, ht, ⟨p, false, hadd.out, Or.inl ⟨Or.inl rfl, rfl⟩⟩, hb1⟩
  | true =>
    have hge := add_ge hadd.out
    rcases Int.lt_or_le n 0 with c | c
    · have g0 : decide (n < 0) = true := by simp; omega
      go_wp2
      go_ret
      exact ⟨t, rfl, ht, ⟨p, true, hadd.out, Or.inl ⟨Or.inr c, rfl⟩⟩, hb1⟩
    · have g0 : decide (n < 0) = false := by simp; omega
      obtain ⟨k, rfl⟩ := Int.eq_ofNat_of_zero_le c
      obtain ⟨d, hd⟩ : ∃ d : Nat, d = p.size - t.size := ⟨_, rfl⟩
      have hw1 : IntKind.i64.wrap ((p.size : Int) - (t.size : Int)) = (d : Int) := by rw [IntWalk.i64_in _ (by omega)]; omega
      rcases Nat.lt_or_ge d k with c2 | c2
      · have g1 : decide ((d : Int) < (k : Int)) = true := by simp; omega
        go_wp2
        go_ret
        refine ⟨p, rfl, hp, ⟨p, true, hadd.out, Or.inr ⟨rfl, c, ?_⟩⟩, hb1⟩
        apply ByteArray.ext
        rw [Int.toNat_natCast, List.take_of_length_le (by simp; omega)]
      · have g1 : decide ((d : Int) < (k : Int)) = false := by simp; omega
        obtain ⟨J, hJ⟩ : ∃ J : Nat, J = t.size + k := ⟨_, rfl⟩
        have hw2 : IntKind.i64.wrap ((t.size : Int) + (k : Int)) = (J : Int) := by rw [IntWalk.i64_in _ (by omega)]; omega
        have j1 : (J : Int) ≤ p.size := by omega
        have HJ := Lib.hid hJ
        clear hJ hd
        go_wp2
        go_ret
        refine ⟨_, rfl, by rw [ByteArray.size_extract]; omega, ⟨p, true, hadd.out, Or.inr ⟨rfl, c, ?_⟩⟩, hb1⟩
        apply ByteArray.ext
        apply Array.ext'
        rw [Lib.extract_data, HJ.out, Int.toNat_natCast]
        simp
end Go.Proofs.YtlfgmodpcemjaaaDoor
