/-
  The law FnLogAdd's own walk.
-/
import Derived.Test.YtlfgmodpcemjaaaDoorDrawLog3
import Derived.Test.YtlfgmodpcemjaaaDoorLawLogR
import Derived.Test.YtlfgmodpcemjaaaDoorWsWords
namespace Go.Proofs.YtlfgmodpcemjaaaDoor
open Go.RowKit
set_option linter.unusedVariables false
set_option linter.unusedSimpArgs false

theorem Strs.take {w : World} {a : Option Addr} {len : Nat} {ss : List ByteArray} (h : Strs w a len ss) (k : Nat) (hk : k ≤ len) : Strs w a k (ss.take k) := by
  obtain ⟨h1, h2⟩ := h
  refine ⟨by rw [List.length_take]; omega, ?_⟩
  rcases h2 with h2 | ⟨b, off, rfl, h3, h4⟩
  · exact Or.inl (by omega)
  · refine Or.inr ⟨b, off, rfl, h3, fun i hi => ?_⟩
    rw [h4 i (by omega)]
    simp [hi]
theorem Strs.at {w : World} {a : Option Addr} {len : Nat} {ss : List ByteArray} (h : Strs w a len ss) (k : Nat) (hk : k < len) : ∃ b off, a = some ⟨b, off, none⟩ ∧ w.cell? ⟨b, off + k, none⟩ = some (.string (ss.getD k ByteArray.empty)) := by
  rcases h.2 with h2 | ⟨b, off, h1, h3, h4⟩
  · omega
  · exact ⟨b, off, h1, h4 k hk⟩

theorem own_cap {w : World} {B e len cap : Nat} {a : Option Addr} {xs : List Value} (h : w.ownsRow B e 1 (.slice a len cap) len xs) : len ≤ cap := by
  rcases h.2 with ⟨hv, h0⟩ | ⟨g, cap', cur, hv, -, -, hnc, -⟩
  · omega
  · simp only [Value.slice.injEq] at hv
    obtain ⟨-, -, rfl⟩ := hv
    exact hnc
theorem added_is {t x o : ByteArray} {rs : List ByteArray} {m : Nat} (hs : t.size ≤ 1048576) (h : AddIs t x o true) (k : LogIs t.data.toList rs m) : LogIs o.data.toList (rs ++ [x]) o.size := by
  obtain ⟨us, n, h1, h2⟩ := h
  obtain ⟨rfl, rfl⟩ := log_one (by simp; omega) h1 k
  rcases h2 with ⟨rfl, a2, rfl, -⟩ | ⟨-, -, h⟩
  · have e : t.data.toList.length = t.size := by simp
    have h3 := (log_add x (t := t.data.toList) (rs := us) (by rw [e]; exact k)).2
    have e2 : (⟨(t.data.toList ++ frame us.length x).toArray⟩ : ByteArray).data.toList = t.data.toList ++ frame us.length x := by simp
    have e3 : (⟨(t.data.toList ++ frame us.length x).toArray⟩ : ByteArray).size = (t.data.toList ++ frame us.length x).length := by
      show (t.data.toList ++ frame us.length x).toArray.size = _
      rw [List.size_toArray]
    rw [e2, e3]; exact h3
  · cases h

set_option maxRecDepth 100000 in
set_option maxHeartbeats 8000000 in
theorem lawLogAdd (a0 : Option Addr) (len0 cap0 : Nat) (zz : List Int) (w : World) (w0 : IsRow .u8 w a0 len0 cap0 zz) (hL : LaidL w) :
    Calls Tryd.prog 9 #[.slice a0 len0 cap0] w fun e w' => e = .returned (.bool true) ∧ Below w.heap.size w w' := by
  rcases Nat.lt_or_ge 1048576 len0 with hbig | hbig
  · clear w0
    go_enter Tryd.func9, Tryd.ntmps9
    go_wp2
    go_ret
    exact ⟨rfl, Below.refl _ _⟩
  have W0 := Lib.hid w0
  have HL := Lib.hid hL
  clear w0 hL
  go_enter Tryd.func9, Tryd.ntmps9
  go_wp2_with fail
  refine (drawAdd a0 len0 cap0 zz _ W0.out).mono ?_
  rintro e w1 ⟨t, x, rfl, ht, hx, hb1⟩
  have ht2 : t.size ≤ 1048576 := by omega
  have hx2 : x.size ≤ 1048576 := by omega
  go_wp2_with fail
  refine (addI t x _ ht2 hx2 (laidL_stays HL.out hb1)).mono ?_
  rintro e w2 ⟨o, b, rfl, -, hadd, hd2⟩
  have hb2 := btl hb1 hd2
  have ho : o.size ≤ 9000 := (add_size hadd.out).elim id (fun e => by rw [e]; exact ht)
  go_wp2_with fail
  refine (addS t x _ ht2 hx2).mono ?_
  rintro e w3 ⟨o', b', rfl, -, hadd', hd3⟩
  obtain ⟨rfl, rfl⟩ := add_one ht2 hadd.out hadd'.out
  have hb3 := btl hb2 hd3
  clear hadd'
  go_wp2_with fail
  refine (readI t _ ht2 (laidL_stays HL.out hb3)).mono ?_
  rintro e w4 ⟨rs, m, a1, cap1, rfl, hown1, hrn, hm, hlog, hd4⟩
  have hS1 := strs_own hown1 rfl
  have hb4 := btl hb3 hd4
  clear hown1
  go_wp2_with fail
  refine (readS t _ ht2).mono ?_
  rintro e w5 ⟨rs', m', a2, cap2, rfl, hown2, -, -, hlog', hd5⟩
  obtain ⟨rfl, rfl⟩ := log_one (by simp; omega) hlog.out hlog'.out
  have hS2 := strs_own hown2 rfl
  have HS1 := Lib.hid (hS1.kept hd5)
  have HS2 := Lib.hid hS2
  have hb5 := btl hb4 hd5
  clear hown2 hlog' hS1 hS2
  go_wp2_with fail
  refine (wsWordsS a1 a2 rs.length cap1 cap2 rs _ HS1.out HS2.out hrn).mono ?_
  rintro e w6 ⟨rfl, hq6⟩
  have hb6 : Below w.heap.size w w6 := btl hb5 (drew_below hq6)
  have HS6 := Lib.hid (HS1.out.kept (drew_below hq6))
  go_wp2_with fail
  refine (okI t _ ht2 (laidL_stays HL.out hb6)).mono ?_
  rintro e w7 ⟨c, rfl, hI, hd7⟩
  have hb7 := btl hb6 hd7
  have HS7 := Lib.hid (HS6.out.kept hd7)
  go_wp2_with fail
  refine (okS t _ ht2).mono ?_
  rintro e w8 ⟨c', rfl, hS, hd8⟩
  obtain rfl : c = c' := Bool.eq_iff_iff.2 (hI.out.trans hS.out.symm)
  have hb8 := btl hb7 hd8
  have HS8 := Lib.hid (HS7.out.kept hd8)
  have HB8 := Lib.hid hb8
  clear hI hS hd7 hd8
  have hcc : (c != c) = false := by cases c <;> rfl
  cases b with
  | false =>
    have hot : o = t := by
      obtain ⟨_, _, _, h⟩ := hadd.out
      rcases h with ⟨-, -, -, h⟩ | ⟨-, h, -⟩
      · cases h
      · exact h
    subst hot
    cases c with
    | false =>
      go_wp2
      go_ret
      exact ⟨rfl, HB8.out⟩
    | true =>
      go_wp2
      go_ret
      exact ⟨rfl, HB8.out⟩
  | true =>
    have hO : Hid (LogIs o.data.toList (rs ++ [x]) o.size) := added_is ht2 hadd.out hlog.out
    have ho2 : o.size ≤ 1048576 := by omega
    have hon : o.data.toList.length ≤ 1000000000 := by simp; omega
    have HOn := Lib.hid hon
    clear hon
    go_wp2_with fail
    refine (readI o _ ho2 (laidL_stays HL.out HB8.out)).mono ?_
    rintro e w9 ⟨rs3, m3, a3, cap3, rfl, hown3, hrn3, -, hlog3, hd9⟩
    obtain ⟨rfl, rfl⟩ := log_one HOn.out hO.out hlog3.out
    have hlen : (rs ++ [x]).length = rs.length + 1 := by simp
    rw [hlen] at hown3 hrn3 ⊢
    have hS3 := strs_own hown3 hlen
    have hcap3 := own_cap hown3
    have hcap4 : (rs.length : Int) ≤ (cap3 : Int) := by omega
    have hb9 := btl HB8.out hd9
    have HS9 := Lib.hid (HS8.out.kept hd9)
    have HS3 := Lib.hid hS3
    have HB9 := Lib.hid hb9
    clear hown3 hlog3 hS3
    go_wp2_with fail
    refine (okI o _ ho2 (laidL_stays HL.out HB9.out)).mono ?_
    rintro e w10 ⟨d, rfl, hI2, hd10⟩
    obtain rfl : d = true := hI2.out.2 ⟨ho, _, hO.out⟩
    have hb10 := btl HB9.out hd10
    have HS10 := Lib.hid (HS9.out.kept hd10)
    have HS3' := Lib.hid (HS3.out.kept hd10)
    have HB10 := Lib.hid hb10
    obtain ⟨g, off, rfl, hcell⟩ := HS3'.out.at rs.length (by omega)
    have hx0 : (rs ++ [x]).getD rs.length ByteArray.empty = x := by simp
    rw [hx0] at hcell
    have hw1 : IntKind.i64.wrap ((rs.length : Int) + 1) = (rs.length : Int) + 1 := IntWalk.i64_in _ (by omega)
    have k1 : (rs.length : Int) < ((rs.length + 1 : Nat) : Int) := by omega
    have HTk := Lib.hid (HS3'.out.take rs.length (by omega))
    go_wp2_with fail
    have htk : (rs ++ [x]).take rs.length = rs := by simp
    rw [htk] at HTk
    refine (wsWordsS _ _ rs.length _ _ rs _ HTk.out HS10.out (by omega)).mono ?_
    rintro e w11 ⟨rfl, hq11⟩
    go_wp2
    go_ret
    exact ⟨rfl, btl HB10.out (drew_below hq11)⟩
end Go.Proofs.YtlfgmodpcemjaaaDoor
