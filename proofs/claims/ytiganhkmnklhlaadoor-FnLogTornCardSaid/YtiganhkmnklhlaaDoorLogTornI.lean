/-
  What is left of a log when power is lost, by the program.
-/
import Derived.Test.YtiganhkmnklhlaaDoorLogAddI
import Derived.Lib.IndexBytes
namespace Go.Proofs.YtiganhkmnklhlaaDoor
open Go.RowKit
set_option linter.unusedVariables false
set_option linter.unusedSimpArgs false

def TornIs (t x : ByteArray) (n : Int) (o : ByteArray) : Prop := ∃ p b, AddIs t x p b ∧ (((b = false ∨ n < 0) ∧ o = t) ∨ (b = true ∧ 0 ≤ n ∧ o = ⟨(p.data.toList.take (t.size + n.toNat)).toArray⟩))
theorem torn_one {t x o p : ByteArray} {n : Int} (hs : t.size ≤ 1048576) (h : TornIs t x n o) (k : TornIs t x n p) : o = p := by
  obtain ⟨q, b, h1, h2⟩ := h
  obtain ⟨r, c, k1, k2⟩ := k
  obtain ⟨rfl, rfl⟩ := add_one hs h1 k1
  rcases h2 with ⟨a1, rfl⟩ | ⟨rfl, a2, rfl⟩
  · rcases k2 with ⟨c1, rfl⟩ | ⟨rfl, c2, rfl⟩
    · rfl
    · rcases a1 with a1 | a1
      · cases a1
      · omega
  · rcases k2 with ⟨c1, rfl⟩ | ⟨-, c2, rfl⟩
    · rcases c1 with c1 | c1
      · cases c1
      · omega
    · rfl
theorem add_ge {t x o : ByteArray} (h : AddIs t x o true) : t.size ≤ o.size ∧ o.size ≤ 9000 := by
  obtain ⟨rs, m, -, h2⟩ := h
  rcases h2 with ⟨a1, a2, rfl, -⟩ | ⟨-, -, a3⟩
  · have e : (⟨(t.data.toList ++ frame rs.length x).toArray⟩ : ByteArray).size = t.size + (frame rs.length x).length := by
      show (t.data.toList ++ frame rs.length x).toArray.size = _
      rw [List.size_toArray, List.length_append]; simp
    rw [e]; omega
  · cases a3
/-- How much of a longer log is there. -/
def cutN (t p : ByteArray) (n : Int) : Nat := t.size + (min (max n 0) ((p.size : Int) - t.size)).toNat
theorem retS2 {a b : ByteArray} (h : a = b) : Ending.returned (.string a) = .returned (.string b) := by rw [h]
theorem extract_take (p : ByteArray) (j : Nat) : p.extract 0 j = ⟨(p.data.toList.take j).toArray⟩ := by
  apply ByteArray.ext
  apply Array.ext'
  rw [Lib.extract_data]
  simp
set_option maxHeartbeats 2000000 in
theorem cutI (t p : ByteArray) (n : Int) (w : World) (hge : t.size ≤ p.size ∧ p.size ≤ 9000) :
    Calls Tryd.prog 17 #[.string t, .string p, .int .i64 n] w fun e w' => e = .returned (.string ⟨(p.data.toList.take (cutN t p n)).toArray⟩) ∧ w' = w := by
  obtain ⟨d, hd⟩ : ∃ d : Nat, d = p.size - t.size := ⟨_, rfl⟩
  have hw1 : IntKind.i64.wrap ((p.size : Int) - (t.size : Int)) = (d : Int) := by rw [IntWalk.i64_in _ (by omega)]; omega
  rcases Int.lt_or_le n 0 with c | c
  · have hJ : Hid (cutN t p n = t.size) := by show _ = _; unfold cutN; omega
    have g1 : (0 : Int) ≤ d := by omega
    have j1 : (t.size : Int) ≤ p.size := by omega
    clear hd
    go_enter Tryd.func17, Tryd.ntmps17
    go_wp2
    all_goals
      go_ret
      exact ⟨retS2 (by rw [hJ.out]; first | exact extract_take _ _ | (rw [← extract_take]; congr 1; omega) | (rw [← extract_take]; congr 1)), rfl⟩
  · rcases Int.lt_or_le d n with c2 | c2
    · have hJ : Hid (cutN t p n = t.size + d) := by show _ = _; unfold cutN; omega
      have hw2 : IntKind.i64.wrap ((t.size : Int) + (d : Int)) = ((t.size + d : Nat) : Int) := by rw [IntWalk.i64_in _ (by omega)]; omega
      have j1 : ((t.size + d : Nat) : Int) ≤ p.size := by omega
      have c3 : ¬ n < 0 := by omega
      clear hd
      go_enter Tryd.func17, Tryd.ntmps17
      go_wp2
      all_goals
        go_ret
        exact ⟨retS2 (by rw [hJ.out]; first | exact extract_take _ _ | rfl | (rw [← extract_take]; congr 1; omega) | simp), rfl⟩
    · obtain ⟨k, rfl⟩ := Int.eq_ofNat_of_zero_le c
      have hJ : Hid (cutN t p k = t.size + k) := by show _ = _; unfold cutN; omega
      have hw2 : IntKind.i64.wrap ((t.size : Int) + (k : Int)) = ((t.size + k : Nat) : Int) := by rw [IntWalk.i64_in _ (by omega)]; omega
      have j1 : ((t.size + k : Nat) : Int) ≤ p.size := by omega
      have c3 : ¬ ((k : Int) < 0) := by omega
      clear hd
      go_enter Tryd.func17, Tryd.ntmps17
      go_wp2
      all_goals
        go_ret
        exact ⟨retS2 (by rw [hJ.out]; first | exact extract_take _ _ | rfl | (rw [← extract_take]; congr 1; omega) | simp), rfl⟩
theorem torn_cut {t x p : ByteArray} (h : AddIs t x p true) (n : Int) : TornIs t x n ⟨(p.data.toList.take (cutN t p n)).toArray⟩ := by
  have hge := add_ge h
  refine ⟨p, true, h, ?_⟩
  rcases Int.lt_or_le n 0 with c | c
  · refine Or.inl ⟨Or.inr c, ?_⟩
    have e : cutN t p n = t.size := by unfold cutN; omega
    rw [e]
    obtain ⟨rs, m, -, h2⟩ := h
    rcases h2 with ⟨a1, a2, rfl, -⟩ | ⟨-, -, a3⟩
    · apply ByteArray.ext
      apply Array.ext'
      simp
    · cases a3
  · refine Or.inr ⟨rfl, c, ?_⟩
    rcases Int.lt_or_le ((p.size : Int) - t.size) n with c2 | c2
    · have hl : p.data.toList.length = p.size := Array.length_toList
      rw [List.take_of_length_le (by unfold cutN; omega), List.take_of_length_le (by omega)]
    · have e : cutN t p n = t.size + n.toNat := by unfold cutN; omega
      rw [e]
def TornPost (t x : ByteArray) (n : Int) (w : World) (e : Ending) (w' : World) : Prop := ∃ o : ByteArray, e = .returned (.string o) ∧ o.size ≤ 1048576 ∧ Hid (TornIs t x n o) ∧ Below w.heap.size w w'

set_option maxHeartbeats 2000000 in
theorem tornI (t x : ByteArray) (n : Int) (w : World) (ht : t.size ≤ 1048576) (hx : x.size ≤ 1048576) (hn : n ≤ 9223372036854775807) (hL : LaidL w) :
    Calls Tryd.prog 6 #[.string t, .string x, .int .i64 n] w (TornPost t x n w) := by
  go_enter Tryd.func6, Tryd.ntmps6
  go_wp2_with fail
  refine (addI t x _ ht hx hL).mono ?_
  rintro e w1 ⟨p, b, rfl, hp, hadd, hb1⟩
  cases b with
  | false =>
    go_wp2
    go_ret
    exact ⟨t, rfl, ht, ⟨p, false, hadd.out, Or.inl ⟨Or.inl rfl, rfl⟩⟩, hb1⟩
  | true =>
    have hge := add_ge hadd.out
    go_wp2_with fail
    refine (cutI t p n w1 hge).mono ?_
    rintro e w2 ⟨rfl, rfl⟩
    go_wp2
    go_ret
    refine ⟨_, rfl, ?_, torn_cut hadd.out n, hb1⟩
    show (p.data.toList.take (cutN t p n)).toArray.size ≤ _
    have hl : p.data.toList.length = p.size := Array.length_toList
    rw [List.size_toArray, List.length_take]
    omega
end Go.Proofs.YtiganhkmnklhlaaDoor
