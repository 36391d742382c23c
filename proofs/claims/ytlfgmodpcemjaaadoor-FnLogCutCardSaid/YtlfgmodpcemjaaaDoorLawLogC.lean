/-
  The law FnLogCut's own walk.
-/
import Derived.Test.YtlfgmodpcemjaaaDoorLawLogA
namespace Go.Proofs.YtlfgmodpcemjaaaDoor
open Go.RowKit
set_option linter.unusedVariables false
set_option linter.unusedSimpArgs false

set_option maxHeartbeats 1000000 in
theorem wsInS (n lo hi : Int) (w : World) (h0 : lo ≤ n) (h1 : n ≤ hi) :
    Calls Tryd.prog 30 #[.int .i64 n, .int .i64 lo, .int .i64 hi] w fun e w' => e = .returned (.bool true) ∧ w' = w := by
  have g0 : decide (lo ≤ n) = true := by simp; omega
  have g1 : decide (n ≤ hi) = true := by simp; omega
  go_enter Tryd.func30, Tryd.ntmps30
  go_wp2
  go_ret
  exact ⟨rfl, rfl⟩
theorem row_len {k : IntKind} {w : World} {a : Option Addr} {len cap : Nat} {z : List Int} (h : IsRow k w a len cap z) : (len : Int) ≤ 9223372036854775807 := by
  rcases h with ⟨rfl, rfl, rfl, rfl⟩ | ⟨x, rfl, hl, hm, -⟩
  · omega
  · unfold maxLen at hm; omega
/-- The records of a log that is cut off are its first ones; all, if nothing of them is cut off. -/
theorem cut_is {T : List UInt8} {rs us : List ByteArray} {m n k : Nat} (hs : T.length ≤ 1000000000) (h : LogIs T rs m) (c : LogIs (T.take k) us n) (hk : k ≤ m) : us.length ≤ rs.length ∧ us = rs.take us.length ∧ n ≤ k ∧ (k = m → us.length = rs.length) := by
  obtain ⟨vs, rfl⟩ := log_cut hs h c
  refine ⟨by simp, by simp, ?_, fun hkm => ?_⟩
  · have := (log_le c).1
    simp only [List.length_take] at this; omega
  · subst hkm
    obtain ⟨r, e1, e2, -⟩ := h
    have e3 : T.take k = frames 0 (us ++ vs) := by rw [e1, e2, List.take_left]
    rw [e3] at c
    have hl : (frames 0 (us ++ vs)).length ≤ 1000000000 := by
      rw [← e3, List.length_take]; omega
    obtain ⟨h5, -⟩ := log_one hl c (log_frames (us ++ vs))
    exact congrArg List.length h5

set_option maxRecDepth 100000 in
set_option maxHeartbeats 8000000 in
theorem lawLogCut (a0 : Option Addr) (len0 cap0 : Nat) (zz : List Int) (a9 : Option Addr) (len1 cap1 : Nat) (z1 : List Int) (w : World) (w0 : IsRow .u8 w a0 len0 cap0 zz) (hL : LaidL w) (hl1 : (len1 : Int) ≤ 9223372036854775807) :
    Calls Tryd.prog 11 #[.slice a0 len0 cap0, .slice a9 len1 cap1] w fun e w' => e = .returned (.bool true) ∧ Below w.heap.size w w' := by
  rcases Nat.lt_or_ge 1048576 len0 with hbig | hbig
  · clear w0
    go_enter Tryd.func11, Tryd.ntmps11
    go_wp2
    go_ret
    exact ⟨rfl, Below.refl _ _⟩
  rcases Nat.lt_or_ge 1048576 len1 with hbig1 | hbig1
  · clear w0
    go_enter Tryd.func11, Tryd.ntmps11
    go_wp2
    go_ret
    exact ⟨rfl, Below.refl _ _⟩
  have W0 := Lib.hid w0
  have HL := Lib.hid hL
  clear w0 hL
  go_enter Tryd.func11, Tryd.ntmps11
  go_wp2_with fail
  refine (drawRead a0 len0 cap0 zz _ W0.out).mono ?_
  rintro e w1 ⟨t, rfl, ht, hb1⟩
  have ht2 : t.size ≤ 1048576 := by omega
  have HTn := Lib.hid (show t.data.toList.length ≤ 1000000000 by simp; omega)
  go_wp2_with fail
  refine (readI t _ ht2 (laidL_stays HL.out hb1)).mono ?_
  rintro e w4 ⟨rs, m, a1, cap1, rfl, hown1, hrn, hm, hlog, hd4⟩
  have hS1 := strs_own hown1 rfl
  have hcap1 := own_cap hown1
  have hb4 := btl hb1 hd4
  clear hown1
  go_wp2_with fail
  refine (readS t _ ht2).mono ?_
  rintro e w5 ⟨rs', m', a2, cap2, rfl, hown2, -, -, hlog', hd5⟩
  obtain ⟨rfl, rfl⟩ := log_one HTn.out hlog.out hlog'.out
  have hS2 := strs_own hown2 rfl
  have HS1 := Lib.hid (hS1.kept hd5)
  have HS2 := Lib.hid hS2
  have hb5 := btl hb4 hd5
  clear hown2 hlog' hS1 hS2
  go_wp2_with fail
  refine (wsWordsS a1 a2 rs.length cap1 cap2 rs _ HS1.out HS2.out hrn).mono ?_
  rintro e w6 ⟨rfl, hq6⟩
  have hb6 : Below w.heap.size w w6 := btl hb5 (drew_below hq6)
  have HS6 := Lib.hid (HS1.out.kept (drew_below hq6))
  go_wp2_with fail
  refine (wsInS (m : Int) 0 (t.size : Int) _ (by omega) (by omega)).mono ?_
  rintro e w' ⟨rfl, rfl⟩
  obtain ⟨k, hk⟩ : ∃ k : Nat, k = len1 % (m + 1) := ⟨_, rfl⟩
  have hkm : k ≤ m := by have := Nat.mod_lt len1 (show 0 < m + 1 by omega); omega
  have hw1 : IntKind.i64.wrap ((m : Int) + 1) = (m : Int) + 1 := IntWalk.i64_in _ (by omega)
  have hmod : (len1 : Int).tmod ((m : Int) + 1) = (k : Int) := by
    rw [hk, show ((m : Int) + 1) = ((m + 1 : Nat) : Int) from rfl, ← Int.ofNat_tmod]
  have hne : ((m : Int) + 1 == 0) = false := by simp; omega
  have HK := Lib.hid hk
  have j1 : (k : Int) ≤ t.size := by omega
  clear hk
  go_wp2_with fail
  have htk : (t.extract 0 k).data.toList = t.data.toList.take k := by rw [Lib.extract_data]; simp
  have htz : (t.extract 0 k).size ≤ 1048576 := by rw [ByteArray.size_extract]; omega
  refine (readI (t.extract 0 k) _ htz (laidL_stays HL.out hb6)).mono ?_
  rintro e w7 ⟨us, n, a3, cap3, rfl, hown3, hun, hn, hlog3, hd7⟩
  have hL3 := hlog3.out
  rw [htk] at hL3
  obtain ⟨c1, c2, c3, c4⟩ := cut_is HTn.out hlog.out hL3 hkm
  have hS3 := strs_own hown3 rfl
  have hb7 := btl hb6 hd7
  have HS7 := Lib.hid (HS6.out.kept hd7)
  have ht7 := HS7.out.take us.length c1
  rw [← c2] at ht7
  have HT7 := Lib.hid ht7
  have C4 := Lib.hid c4
  clear ht7 c4 c2
  have HS3 := Lib.hid hS3
  have hcu : (us.length : Int) ≤ (cap1 : Int) := by omega
  have g1 : decide ((n : Int) ≤ (k : Int)) = true := by simp; omega
  have g2 : decide ((us.length : Int) ≤ (rs.length : Int)) = true := by simp; omega
  clear hown3 hlog3 hL3 hS3 htk
  rcases Nat.lt_or_ge k m with c5 | c5
  · have g3 : decide ((k : Int) < (m : Int)) = true := by simp; omega
    go_wp2_with fail
    refine (wsWordsS a3 a1 us.length cap3 cap1 us _ HS3.out HT7.out hun).mono ?_
    rintro e w8 ⟨rfl, hq8⟩
    go_wp2
    go_ret
    exact ⟨rfl, btl hb7 (drew_below hq8)⟩
  · have g4 : ((us.length : Int) == (rs.length : Int)) = true := by rw [C4.out (by omega)]; simp
    have g5 : (us.length == rs.length) = true := by rw [C4.out (by omega)]; simp
    have g3 : decide ((k : Int) < (m : Int)) = false := by simp; omega
    go_wp2_with fail
    refine (wsWordsS a3 a1 us.length cap3 cap1 us _ HS3.out HT7.out hun).mono ?_
    rintro e w8 ⟨rfl, hq8⟩
    go_wp2
    go_ret
    exact ⟨rfl, btl hb7 (drew_below hq8)⟩
end Go.Proofs.YtlfgmodpcemjaaaDoor
