/-
  The law FnLogTorn's own walk, and what it rests on: those of FnLogAdd and FnLogCut (one text, as a claim has at most 60).
-/
import Derived.Test.YtiganhkmnklhlaaDoorDrawLog3
import Derived.Test.YtiganhkmnklhlaaDoorLawLogR
import Derived.Test.YtiganhkmnklhlaaDoorWsWords
namespace Go.Proofs.YtiganhkmnklhlaaDoor
open Go.RowKit
set_option linter.unusedVariables false
set_option linter.unusedSimpArgs false

theorem Strs.take {w : World} {a : Option Addr} {len : Nat} {ss : List ByteArray} (h : Strs w a len ss) (k : Nat) (hk : k ≤ len) : Strs w a k (ss.take k) := by
  obtain ⟨h1, h2⟩ := h
  refine ⟨by rw [List.length_take]; omega, ?_⟩
  rcases h2 with h2 | ⟨b, off, rfl, h3, h4⟩
  · exact Or.inl (by omega)
  · refine Or.inr ⟨b, off, rfl, h3, fun i hi => ?_⟩
    rw [h4 i (by omega)]
    simp [hi]
theorem Strs.at {w : World} {a : Option Addr} {len : Nat} {ss : List ByteArray} (h : Strs w a len ss) (k : Nat) (hk : k < len) : ∃ b off, a = some ⟨b, off, none⟩ ∧ w.cell? ⟨b, off + k, none⟩ = some (.string (ss.getD k ByteArray.empty)) := by
  rcases h.2 with h2 | ⟨b, off, h1, h3, h4⟩
  · omega
  · exact ⟨b, off, h1, h4 k hk⟩

theorem own_cap {w : World} {B e len cap : Nat} {a : Option Addr} {xs : List Value} (h : w.ownsRow B e 1 (.slice a len cap) len xs) : len ≤ cap := by
  rcases h.2 with ⟨hv, h0⟩ | ⟨g, cap', cur, hv, -, -, hnc, -⟩
  · omega
  · simp only [Value.slice.injEq] at hv
    obtain ⟨-, -, rfl⟩ := hv
    exact hnc
theorem added_is {t x o : ByteArray} {rs : List ByteArray} {m : Nat} (hs : t.size ≤ 1048576) (h : AddIs t x o true) (k : LogIs t.data.toList rs m) : LogIs o.data.toList (rs ++ [x]) o.size := by
  obtain ⟨us, n, h1, h2⟩ := h
  obtain ⟨rfl, rfl⟩ := log_one (by simp; omega) h1 k
  rcases h2 with ⟨rfl, a2, rfl, -⟩ | ⟨-, -, h⟩
  · have e : t.data.toList.length = t.size := by simp
    have h3 := (log_add x (t := t.data.toList) (rs := us) (by rw [e]; exact k)).2
    have e2 : (⟨(t.data.toList ++ frame us.length x).toArray⟩ : ByteArray).data.toList = t.data.toList ++ frame us.length x := by simp
    have e3 : (⟨(t.data.toList ++ frame us.length x).toArray⟩ : ByteArray).size = (t.data.toList ++ frame us.length x).length := by
      show (t.data.toList ++ frame us.length x).toArray.size = _
      rw [List.size_toArray]
    rw [e2, e3]; exact h3
  · cases h

theorem row_len {k : IntKind} {w : World} {a : Option Addr} {len cap : Nat} {z : List Int} (h : IsRow k w a len cap z) : (len : Int) ≤ 9223372036854775807 := by
  rcases h with ⟨rfl, rfl, rfl, rfl⟩ | ⟨x, rfl, hl, hm, -⟩
  · omega
  · unfold maxLen at hm; omega
/-- The records of a log that is cut off are its first ones; all, if nothing of them is cut off. -/
theorem cut_is {T : List UInt8} {rs us : List ByteArray} {m n k : Nat} (hs : T.length ≤ 1000000000) (h : LogIs T rs m) (c : LogIs (T.take k) us n) (hk : k ≤ m) : us.length ≤ rs.length ∧ us = rs.take us.length ∧ n ≤ k ∧ (k = m → us.length = rs.length) := by
  obtain ⟨vs, rfl⟩ := log_cut hs h c
  refine ⟨by simp, by simp, ?_, fun hkm => ?_⟩
  · have := (log_le c).1
    simp only [List.length_take] at this; omega
  · subst hkm
    obtain ⟨r, e1, e2, -⟩ := h
    have e3 : T.take k = frames 0 (us ++ vs) := by rw [e1, e2, List.take_left]
    rw [e3] at c
    have hl : (frames 0 (us ++ vs)).length ≤ 1000000000 := by
      rw [← e3, List.length_take]; omega
    obtain ⟨h5, -⟩ := log_one hl c (log_frames (us ++ vs))
    exact congrArg List.length h5

/-- What is left of a log that was right has its records, or one more. -/
theorem torn_reads {t x o : ByteArray} {n : Int} {rs us : List ByteArray} {m : Nat} (ht : t.size ≤ 9000) (hx : x.size ≤ 1048576) (hk : LogIs t.data.toList rs t.size) (h : TornIs t x n o) (hu : LogIs o.data.toList us m) : us = rs ∨ us = rs ++ [x] := by
  have htl : t.data.toList.length = t.size := by simp
  obtain ⟨p, b, h1, h2⟩ := h
  rcases h2 with ⟨-, rfl⟩ | ⟨rfl, hn, rfl⟩
  · exact Or.inl (log_one (by omega) hu hk).1
  · have hp := added_is (by omega) h1 hk
    have hge := add_ge h1
    have hpl : p.data.toList.length = p.size := by simp
    obtain ⟨us', m', k1, k2⟩ := h1
    obtain ⟨rfl, rfl⟩ := log_one (by omega) k1 hk
    rcases k2 with ⟨-, -, rfl, -⟩ | ⟨-, -, h⟩
    · have e2 : (⟨(t.data.toList ++ frame us'.length x).toArray⟩ : ByteArray).data.toList = t.data.toList ++ frame us'.length x := by simp
      have e3 : (⟨((⟨(t.data.toList ++ frame us'.length x).toArray⟩ : ByteArray).data.toList.take (t.size + n.toNat)).toArray⟩ : ByteArray).data.toList = (t.data.toList ++ frame us'.length x).take (t.size + n.toNat) := by simp
      rw [e3] at hu
      rw [e2] at hp hpl
      have hle : (t.data.toList ++ frame us'.length x).length ≤ 1000000000 := by omega
      obtain ⟨ws, hw⟩ := log_cut hle hp hu
      have e4 : (t.data.toList ++ frame us'.length x).take (t.size + n.toNat) = t.data.toList ++ (frame us'.length x).take n.toNat := by
        rw [← htl, List.take_length_add_append]
      rw [e4] at hu
      obtain ⟨vs, hv⟩ := log_kept (q := (frame us'.length x).take n.toNat) (by
        rw [← e4, List.length_take]; omega) (by rw [htl]; exact hk) hu
      subst hv
      rw [List.append_assoc] at hw
      have h5 := List.append_cancel_left hw
      cases vs with
      | nil => left; simp
      | cons y r =>
        simp only [List.cons_append, List.cons.injEq] at h5
        obtain ⟨rfl, h6⟩ := h5
        have : r = [] := by
          cases r with
          | nil => rfl
          | cons z q => simp at h6
        subst this
        right; rfl
    · cases h

set_option maxHeartbeats 1000000 in
theorem wsWordsNe (a a' : Option Addr) (len len' cap cap' : Nat) (w : World) (h : ¬ len = len') :
    Calls Tryd.prog 11 #[.slice a len cap, .slice a' len' cap'] w fun e w' => e = .returned (.bool false) ∧ Drew w w' := by
  have g0 : ((len : Int) == (len' : Int)) = false := by simp; omega
  have g1 : ((len : Int) != (len' : Int)) = true := by simp; omega
  go_enter Tryd.func11, Tryd.ntmps11
  go_wp2
  go_ret
  exact ⟨rfl, 0, rfl⟩

set_option maxRecDepth 100000 in
set_option maxHeartbeats 8000000 in
theorem lawLogTorn (a0 : Option Addr) (len0 cap0 : Nat) (zz : List Int) (a9 : Option Addr) (len1 cap9 : Nat) (z1 : List Int) (w : World) (w0 : IsRow .u8 w a0 len0 cap0 zz) (hL : LaidL w) (hl1 : (len1 : Int) ≤ 9223372036854775807) :
    Calls Tryd.prog 3 #[.slice a0 len0 cap0, .slice a9 len1 cap9] w fun e w' => e = .returned (.bool true) ∧ Below w.heap.size w w' := by
  rcases Nat.lt_or_ge 1048576 len0 with hbig | hbig
  · clear w0
    go_enter Tryd.func3, Tryd.ntmps3
    go_wp2
    go_ret
    exact ⟨rfl, Below.refl _ _⟩
  rcases Nat.lt_or_ge 1048576 len1 with hbig1 | hbig1
  · clear w0
    go_enter Tryd.func3, Tryd.ntmps3
    go_wp2
    go_ret
    exact ⟨rfl, Below.refl _ _⟩
  have W0 := Lib.hid w0
  have HL := Lib.hid hL
  clear w0 hL
  go_enter Tryd.func3, Tryd.ntmps3
  go_wp2_with fail
  refine (drawTorn a0 len0 cap0 zz _ W0.out).mono ?_
  rintro e w1 ⟨t, x, n, rfl, ht, hx, n0, n1, hb1⟩
  have ht2 : t.size ≤ 1048576 := by omega
  have hx2 : x.size ≤ 1048576 := by omega
  have HTn := Lib.hid (show t.data.toList.length ≤ 1000000000 by simp; omega)
  go_wp2_with fail
  refine (tornI t x n _ ht2 hx2 (by omega) (laidL_stays HL.out hb1)).mono ?_
  rintro e w2 ⟨o, rfl, -, hT, hd2⟩
  have hb2 := btl hb1 hd2
  go_wp2_with fail
  refine (tornS t x n _ ht2 hx2 (by omega)).mono ?_
  rintro e w3 ⟨o', rfl, -, hT', hd3⟩
  obtain rfl := torn_one ht2 hT.out hT'.out
  have hb3 := btl hb2 hd3
  clear hT'
  go_wp2_with fail
  refine (okI t _ ht2 (laidL_stays HL.out hb3)).mono ?_
  rintro e w4 ⟨c, rfl, hI, hd4⟩
  have hb4 := btl hb3 hd4
  go_wp2_with fail
  refine (okS t _ ht2).mono ?_
  rintro e w5 ⟨c', rfl, hS, hd5⟩
  obtain rfl : c = c' := Bool.eq_iff_iff.2 (hI.out.trans hS.out.symm)
  have hb5 := btl hb4 hd5
  have hcc : (c != c) = false := by cases c <;> rfl
  clear hI hd2 hd3 hd4 hd5
  go_wp2_with fail
  refine (readI t _ ht2 (laidL_stays HL.out hb5)).mono ?_
  rintro e w6 ⟨rs, m, a1, cap1, rfl, hown1, hrn, hm, hlog, hd6⟩
  have hS1 := strs_own hown1 rfl
  have hb6 := btl hb5 hd6
  have HS1 := Lib.hid hS1
  have HB6 := Lib.hid hb6
  have HC := hS
  clear hown1 hS1 hS hd6 hb1 hb2 hb3 hb4 hb5 hb6 hcc
  go_wp2_with fail
  go_loopw [11] (fun vi wr => ∃ i : Nat, vi = .int .i64 i ∧ i ≤ 4 ∧ Below w6.heap.size w6 wr) (fun vi _ => 4 - (intOf vi).toNat)
  case atStart => exact ⟨0, rfl, by omega, Below.refl _ _⟩
  case round =>
    obtain ⟨i, rfl, hi, hbr⟩ := hrel
    have hbw : Below w.heap.size w wr := btl HB6.out hbr
    have HSr := Lib.hid (HS1.out.kept hbr)
    rcases Nat.lt_or_ge i 4 with hi4 | hi4
    · have g0 : decide ((i : Int) < 4) = true := by simp; omega
      go_wp2_with fail
      refine (okS t _ ht2).mono ?_
      rintro e w7 ⟨c2, rfl, hS2, hd7⟩
      have hb7 := btl hbw hd7
      have HB7 := Lib.hid hb7
      have HS7 := Lib.hid (HSr.out.kept hd7)
      have hbr7 := btl hbr hd7
      cases c2 with
      | false =>
        go_wp2
        go_ret
        exact ⟨rfl, HB7.out⟩
      | true =>
        have hok := hS2.out.1 rfl
        have hlt : Hid (LogIs t.data.toList rs t.size) := by
          obtain ⟨-, us, hu⟩ := hok
          obtain ⟨rfl, -⟩ := log_one HTn.out hu hlog.out
          exact hu
        obtain ⟨d, hd⟩ : ∃ d : Nat, d = len1 % 20 := ⟨_, rfl⟩
        have hd20 : d < 20 := by omega
        have hmod : (len1 : Int) % 20 = (d : Int) := by omega
        have hmod2 : (len1 : Int).tmod 20 = (d : Int) := by rw [Int.tmod_eq_emod_of_nonneg (by omega)]; exact hmod
        have hwa : IntKind.i64.wrap (1 + (d : Int)) = 1 + (d : Int) := IntWalk.i64_in _ (by omega)
        obtain ⟨f, hf⟩ : ∃ f : Nat, f = i * (1 + d) := ⟨_, rfl⟩
        have hfb : f ≤ 60 := by
          rw [hf]
          have : i * (1 + d) ≤ 3 * 20 := Nat.mul_le_mul (by omega) (by omega)
          omega
        have hfi : (i : Int) * (1 + (d : Int)) = (f : Int) := by rw [hf]; simp
        have hwb : IntKind.i64.wrap ((i : Int) * (1 + (d : Int))) = (f : Int) := by rw [hfi]; exact IntWalk.i64_in _ (by omega)
        have hwc : IntKind.i64.wrap (n + (f : Int)) = n + (f : Int) := IntWalk.i64_in _ (by omega)
        clear hok hS2 hf hfi hd hmod hd7
        go_wp2_with fail
        refine (tornI t x (n + (f : Int)) _ ht2 hx2 (by omega) (laidL_stays HL.out HB7.out)).mono ?_
        rintro e w8 ⟨y, rfl, hy, hT2, hd8⟩
        have hb8 := btl HB7.out hd8
        have HS8 := Lib.hid (HS7.out.kept hd8)
        have hbr8 := btl hbr7 hd8
        go_wp2_with fail
        refine (readI y _ hy (laidL_stays HL.out hb8)).mono ?_
        rintro e w9 ⟨us, q, a3, cap3, rfl, hown3, hun, -, hlog3, hd9⟩
        have HS9 := Lib.hid (HS8.out.kept hd9)
        have hbr9 := btl hbr8 hd9
        have HBR := Lib.hid hbr9
        have htr := torn_reads ht hx2 hlt.out hT2.out hlog3.out
        clear hd8 hd9 hb8 hbr8 hbr7 hbr hlog3 hT2
        rcases htr with rfl | rfl
        · have hS3 := strs_own hown3 rfl
          have HS3 := Lib.hid hS3
          clear hown3 hS3
          go_wp2_with fail
          refine (wsWordsS a3 a1 us.length cap3 cap1 us _ HS3.out HS9.out hun).mono ?_
          rintro e w10 ⟨rfl, hq10⟩
          go_wp2
          go_roundw
          case rel => exact ⟨i + 1, by go_num, by omega, btl HBR.out (drew_below hq10)⟩
          case measure => simp [intOf]; omega
        · have hlen : (rs ++ [x]).length = rs.length + 1 := by simp
          rw [hlen] at hown3 hun ⊢
          have hS3 := strs_own hown3 hlen
          have hcap3 := own_cap hown3
          have hcap4 : (rs.length : Int) ≤ (cap3 : Int) := by omega
          have HS3 := Lib.hid hS3
          clear hown3 hS3
          go_wp2_with fail
          refine (wsWordsNe a3 a1 (rs.length + 1) rs.length cap3 cap1 _ (by omega)).mono ?_
          rintro e w10 ⟨rfl, hq10⟩
          have hbA : Below w9.heap.size w9 w10 := drew_below hq10
          have HS10 := Lib.hid (HS9.out.kept hbA)
          have HS3' := Lib.hid (HS3.out.kept hbA)
          obtain ⟨g, off, rfl, hcell⟩ := HS3'.out.at rs.length (by omega)
          have hx0 : (rs ++ [x]).getD rs.length ByteArray.empty = x := by simp
          rw [hx0] at hcell
          have hw1 : IntKind.i64.wrap ((rs.length : Int) + 1) = (rs.length : Int) + 1 := IntWalk.i64_in _ (by omega)
          have k1 : (rs.length : Int) < ((rs.length + 1 : Nat) : Int) := by omega
          have htk := HS3'.out.take rs.length (by omega)
          rw [show (rs ++ [x]).take rs.length = rs from by simp] at htk
          have HTk := Lib.hid htk
          clear htk
          go_wp2_with fail
          refine (wsWordsS _ _ rs.length _ _ rs _ HTk.out HS10.out (by omega)).mono ?_
          rintro e w11 ⟨rfl, hq11⟩
          go_wp2
          go_roundw
          case rel => exact ⟨i + 1, by go_num, by omega, btl (btl HBR.out hbA) (drew_below hq11)⟩
          case measure => simp [intOf]; omega
    · obtain rfl : i = 4 := by omega
      go_wp2
      go_ret
      exact ⟨rfl, hbw⟩
end Go.Proofs.YtiganhkmnklhlaaDoor
