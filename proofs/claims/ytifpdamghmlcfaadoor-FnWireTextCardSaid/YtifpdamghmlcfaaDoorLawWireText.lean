/-
  The law FnWireText's own walk: a drawn text that is read, and drawn words that are written and read.
-/
import Derived.Test.YtifpdamghmlcfaaDoorDrawGet
import Derived.Test.YtifpdamghmlcfaaDoorGetImpl
import Derived.Test.YtifpdamghmlcfaaDoorGetSpec
import Derived.Test.YtifpdamghmlcfaaDoorWsWords
import Derived.Test.YtifpdamghmlcfaaDoorWirePut
namespace Go.Proofs.YtifpdamghmlcfaaDoor
open Go.RowKit
set_option linter.unusedVariables false

theorem slice_of_own {w : World} {B e len : Nat} {v : Value} {xs : List Value} (h : w.ownsRow B e 1 v len xs) : ∃ a cap, v = .slice a len cap := by
  rcases h.2 with ⟨rfl, h0⟩ | ⟨g, cap, cur, rfl, -⟩
  · exact ⟨none, 0, by rw [h0]⟩
  · exact ⟨_, cap, rfl⟩
theorem get_put {t : ByteArray} {ws : List ByteArray} (h : GetIs t.data.toList ws true) : putV ws = t ∧ ws.length ≤ 40 ∧ ∀ k, k < ws.length → (ws.getD k ByteArray.empty).size ≤ 1048576 := by
  rcases h with ⟨-, h1, h2, h3⟩ | ⟨h, -, -⟩
  · refine ⟨?_, h2, fun k hk => ?_⟩
    · rw [putV, if_neg (by rw [← h3]; omega), ← h3]
    · have e : ws.getD k ByteArray.empty = ws[k] := by simp [hk]
      rw [e]
      have key : ∀ (l : List ByteArray) (x : ByteArray), x ∈ l → x.size ≤ (wireL l).length := by
        intro l
        induction l with
        | nil => intro x hx; simp at hx
        | cons y r ih =>
          intro x hx
          simp only [wireL, List.length_append]
          rcases List.mem_cons.1 hx with rfl | hx
          · have e2 : x.data.toList.length = x.size := by simp
            simp only [wire1, List.length_append, e2]; omega
          · have := ih x hx; omega
      have := key ws ws[k] (List.getElem_mem hk)
      rw [← h3] at this; omega
  · cases h
theorem get_short {t : List UInt8} {ws : List ByteArray} {b : Bool} (h : GetIs t ws b) : ws.length ≤ 40 := by
  rcases h with ⟨-, -, h, -⟩ | ⟨-, rfl, -⟩
  · exact h
  · simp
theorem put_get {sd : List ByteArray} {s : ByteArray} (hs : s = putV sd) (h : ¬ (40 < sd.length ∨ 6000 < (wireL sd).length)) : GetIs s.data.toList sd true := by
  rw [hs, putV, if_neg h]
  refine get_ok ?_ ?_ (by omega)
  · show (wireL sd).toArray.toList.length ≤ 6000; simp; omega
  · show (wireL sd).toArray.toList = _; simp
theorem put_nil {sd : List ByteArray} {s : ByteArray} (hs : s = putV sd) (h : ¬ (40 < sd.length ∨ 6000 < (wireL sd).length)) (h0 : s = ⟨#[]⟩) : sd = [] := by
  cases sd with
  | nil => rfl
  | cons x r =>
    rw [putV, if_neg h] at hs
    have := wire1_pos x
    have h2 : s.size = (wireL (x :: r)).length := by rw [hs]; show (wireL (x :: r)).toArray.size = _; simp
    rw [h0] at h2
    simp [wireL, ByteArray.size] at h2
    omega
theorem emp_ne {a : ByteArray} (h : ¬ a = ⟨#[]⟩) : a.toList.isEmpty = false := by
  rw [Lib.toList_data]
  cases hh : a.data.toList with
  | nil => exact absurd (ByteArray.ext (by simpa using hh)) h
  | cons x r => rfl

set_option maxRecDepth 20000 in
set_option maxHeartbeats 4000000 in
theorem lawWireText (a0 : Option Addr) (len0 cap0 : Nat) (z0 : List Int) (a1 : Option Addr) (len1 cap1 : Nat) (z1 : List Int) (p : Addr) (w : World) (w0 : IsRow .u8 w a0 len0 cap0 z0) (w1 : IsRow .u8 w a1 len1 cap1 z1) (hL : LaidW p w) :
    Calls Tryd.prog 3 #[.slice a0 len0 cap0, .slice a1 len1 cap1] w fun e w' => e = .returned (.bool true) ∧ Below w.heap.size w w' := by
  rcases Nat.lt_or_ge 1048576 len0 with hb0 | hb0
  · clear w0 w1
    go_enter Tryd.func3, Tryd.ntmps3
    go_wp2
    go_ret
    exact ⟨rfl, Below.refl _ _⟩
  rcases Nat.lt_or_ge 1048576 len1 with hb1 | hb1
  · clear w0 w1
    go_enter Tryd.func3, Tryd.ntmps3
    go_wp2
    go_ret
    exact ⟨rfl, Below.refl _ _⟩
  · have W0 := Lib.hid w0
    have W1 := Lib.hid w1
    clear w0 w1
    go_enter Tryd.func3, Tryd.ntmps3
    go_wp2_with fail
    refine (drawGet a0 len0 cap0 z0 _ W0.out).mono ?_
    rintro e wa ⟨t, htz, rfl, hba⟩
    go_wp2_with fail
    refine (implGet p t _ (by omega) (laidW_stays hL hba)).mono ?_
    rintro e wb ⟨ws, b, v, rfl, hown, hget, hbb⟩
    obtain ⟨ga, ca, rfl⟩ := slice_of_own hown
    have hbwb : Below w.heap.size w wb := bt hba hbb
    have hst := strs_own hown rfl
    have HST := Lib.hid hst
    clear hown hst
    go_wp2_with fail
    refine (specGet t _ (by omega)).mono ?_
    rintro e wc ⟨ws', b', gb, cb, rfl, hSc, hget', hbc⟩
    obtain ⟨rfl, rfl⟩ := get_one hget.out hget'.out
    have hbwc : Below w.heap.size w wc := bt hbwb hbc
    have h40 := get_short hget.out
    have HSc := Lib.hid hSc
    have HSb := Lib.hid (HST.out.kept hbc)
    have HG := Lib.hid hget.out
    clear hSc hget hget'
    go_wp2_with fail
    refine (wsWordsS ga gb ws.length ca cb ws _ HSb.out HSc.out (by omega)).mono ?_
    rintro e wd ⟨rfl, qd, rfl⟩
    have hbx : Below w.heap.size w (wc.drewN qd) := belowN hbwc qd
    have HSx : Hid (Strs (wc.drewN qd) ga ws.length ws) := HSb.out.kept (belowN (Below.refl _ _) qd)
    cases b
    · go_wp2_with fail
      refine (drawWords a1 len1 cap1 z1 _ (isRow_below W1.out hbx)).mono ?_
      rintro e wf ⟨vd, nd, hnd, rfl, hwd, hbf⟩
      obtain ⟨gd, cd, sd, rfl, hdd⟩ := drawn_of hwd hnd
      obtain rfl : nd = sd.length := hdd.2.2.1.symm
      clear hwd
      have hbwf : Below w.heap.size w wf := bt hbx hbf
      have DD := Lib.hid hdd
      clear hdd
      go_wp2_with fail
      refine (implWirePut _ _ _ sd _ DD.out.1 (laidW_stays hL hbwf).1.1 (by omega) (fun k hk => getD_size DD.out.2.2.2.1 k hk)).mono ?_
      rintro e wg ⟨s, rfl, hs, hbg⟩
      have hbwg : Below w.heap.size w wg := bt hbwf hbg
      have hsz : s.size ≤ 6000 := by rw [hs.out]; exact putV_size sd
      go_wp2_with fail
      refine (implGet p s _ (by omega) (laidW_stays hL hbwg)).mono ?_
      rintro e wh ⟨ws2, b2, v2, rfl, hown2, hget2, hbh⟩
      obtain ⟨g2, c2, rfl⟩ := slice_of_own hown2
      have hbwh : Below w.heap.size w wh := bt hbwg hbh
      have hst2 := strs_own hown2 rfl
      have HST2 := Lib.hid hst2
      clear hown2 hst2
      have HSd : Hid (Strs wh (some ⟨gd, 0, none⟩) sd.length sd) := DD.out.1.kept (bt hbg hbh)
      by_cases big : 40 < sd.length ∨ 6000 < (wireL sd).length
      · obtain rfl : s = ⟨#[]⟩ := hs.out.trans (if_pos big)
        have hn0 : (0 : Int) < sd.length := by
          rcases Nat.eq_zero_or_pos sd.length with h | h
          · have : sd = [] := List.length_eq_zero_iff.1 h
            subst this
            simp [wireL] at big
          · omega
        have hn1 : decide ((0 : Int) < (sd.length : Int)) = true := decide_eq_true hn0
        have hn2 : decide (0 < sd.length) = true := decide_eq_true (by omega)
        have Hbig := Lib.hid big
        clear big
        go_wp2_with fail
        refine (specWirePut _ _ _ sd _ HSd.out (by omega) DD.out.2.2.2.2.1 (Nat.le_trans DD.out.2.2.2.2.2 (by omega)) (fun k hk => getD_size DD.out.2.2.2.1 k hk)).mono ?_
        rintro e wi ⟨s3, rfl, hs3, hbi⟩
        obtain rfl : s3 = ⟨#[]⟩ := hs3.out.trans (if_pos Hbig.out)
        go_wp2
        go_ret
        exact ⟨rfl, bt hbwh hbi⟩
      · have hgs := put_get hs.out big
        have hnil := put_nil hs.out big
        obtain ⟨rfl, rfl⟩ := get_one hgs hget2.out
        have Hnil := Lib.hid hnil
        clear big hgs hget2 hnil
        go_wp2_with fail
        refine (specWirePut _ _ _ sd _ HSd.out (by omega) DD.out.2.2.2.2.1 (Nat.le_trans DD.out.2.2.2.2.2 (by omega)) (fun k hk => getD_size DD.out.2.2.2.1 k hk)).mono ?_
        rintro e wi ⟨s3, rfl, hs3, hbi⟩
        obtain rfl : s3 = s := hs3.out.trans hs.out.symm
        have hbwi : Below w.heap.size w wi := bt hbwh hbi
        have HS2i : Hid (Strs wi g2 sd.length sd) := HST2.out.kept hbi
        have HSdi : Hid (Strs wi (some ⟨gd, 0, none⟩) sd.length sd) := HSd.out.kept hbi
        by_cases h0 : s3 = ⟨#[]⟩
        · have hz : (sd.length : Int) = 0 := by rw [Hnil.out h0]; rfl
          have hz2 : decide ((0 : Int) < (sd.length : Int)) = false := by rw [hz]; decide
          have hz3 : decide (0 < sd.length) = false := by rw [show sd.length = 0 from by omega]; decide
          subst h0
          go_wp2_with fail
          refine (wsWordsS g2 (some ⟨gd, 0, none⟩) sd.length c2 cd sd _ HS2i.out HSdi.out (by omega)).mono ?_
          rintro e wj ⟨rfl, qj, rfl⟩
          go_wp2
          go_ret
          exact ⟨rfl, belowN hbwi qj⟩
        · have hne := emp_ne h0
          go_wp2_with fail
          refine (wsWordsS g2 (some ⟨gd, 0, none⟩) sd.length c2 cd sd _ HS2i.out HSdi.out (by omega)).mono ?_
          rintro e wj ⟨rfl, qj, rfl⟩
          go_wp2
          go_ret
          exact ⟨rfl, belowN hbwi qj⟩
    · obtain ⟨hpv, -, hgd⟩ := get_put HG.out
      have HPV := Lib.hid hpv
      have HGD := Lib.hid hgd
      clear hpv hgd
      go_wp2_with fail
      refine (implWirePut _ _ _ ws _ HSx.out (laidW_stays hL hbx).1.1 (by omega) HGD.out).mono ?_
      rintro e we ⟨u, rfl, hu, hbe⟩
      obtain rfl : u = t := hu.out.trans HPV.out
      have hby : Below w.heap.size w we := bt hbx hbe
      clear hbx
      have hbx := hby
      go_wp2_with fail
      refine (drawWords a1 len1 cap1 z1 _ (isRow_below W1.out hbx)).mono ?_
      rintro e wf ⟨vd, nd, hnd, rfl, hwd, hbf⟩
      obtain ⟨gd, cd, sd, rfl, hdd⟩ := drawn_of hwd hnd
      obtain rfl : nd = sd.length := hdd.2.2.1.symm
      clear hwd
      have hbwf : Below w.heap.size w wf := bt hbx hbf
      have DD := Lib.hid hdd
      clear hdd
      go_wp2_with fail
      refine (implWirePut _ _ _ sd _ DD.out.1 (laidW_stays hL hbwf).1.1 (by omega) (fun k hk => getD_size DD.out.2.2.2.1 k hk)).mono ?_
      rintro e wg ⟨s, rfl, hs, hbg⟩
      have hbwg : Below w.heap.size w wg := bt hbwf hbg
      have hsz : s.size ≤ 6000 := by rw [hs.out]; exact putV_size sd
      go_wp2_with fail
      refine (implGet p s _ (by omega) (laidW_stays hL hbwg)).mono ?_
      rintro e wh ⟨ws2, b2, v2, rfl, hown2, hget2, hbh⟩
      obtain ⟨g2, c2, rfl⟩ := slice_of_own hown2
      have hbwh : Below w.heap.size w wh := bt hbwg hbh
      have hst2 := strs_own hown2 rfl
      have HST2 := Lib.hid hst2
      clear hown2 hst2
      have HSd : Hid (Strs wh (some ⟨gd, 0, none⟩) sd.length sd) := DD.out.1.kept (bt hbg hbh)
      by_cases big : 40 < sd.length ∨ 6000 < (wireL sd).length
      · obtain rfl : s = ⟨#[]⟩ := hs.out.trans (if_pos big)
        have hn0 : (0 : Int) < sd.length := by
          rcases Nat.eq_zero_or_pos sd.length with h | h
          · have : sd = [] := List.length_eq_zero_iff.1 h
            subst this
            simp [wireL] at big
          · omega
        have hn1 : decide ((0 : Int) < (sd.length : Int)) = true := decide_eq_true hn0
        have hn2 : decide (0 < sd.length) = true := decide_eq_true (by omega)
        have Hbig := Lib.hid big
        clear big
        go_wp2_with fail
        refine (specWirePut _ _ _ sd _ HSd.out (by omega) DD.out.2.2.2.2.1 (Nat.le_trans DD.out.2.2.2.2.2 (by omega)) (fun k hk => getD_size DD.out.2.2.2.1 k hk)).mono ?_
        rintro e wi ⟨s3, rfl, hs3, hbi⟩
        obtain rfl : s3 = ⟨#[]⟩ := hs3.out.trans (if_pos Hbig.out)
        go_wp2
        go_ret
        exact ⟨rfl, bt hbwh hbi⟩
      · have hgs := put_get hs.out big
        have hnil := put_nil hs.out big
        obtain ⟨rfl, rfl⟩ := get_one hgs hget2.out
        have Hnil := Lib.hid hnil
        clear big hgs hget2 hnil
        go_wp2_with fail
        refine (specWirePut _ _ _ sd _ HSd.out (by omega) DD.out.2.2.2.2.1 (Nat.le_trans DD.out.2.2.2.2.2 (by omega)) (fun k hk => getD_size DD.out.2.2.2.1 k hk)).mono ?_
        rintro e wi ⟨s3, rfl, hs3, hbi⟩
        obtain rfl : s3 = s := hs3.out.trans hs.out.symm
        have hbwi : Below w.heap.size w wi := bt hbwh hbi
        have HS2i : Hid (Strs wi g2 sd.length sd) := HST2.out.kept hbi
        have HSdi : Hid (Strs wi (some ⟨gd, 0, none⟩) sd.length sd) := HSd.out.kept hbi
        by_cases h0 : s3 = ⟨#[]⟩
        · have hz : (sd.length : Int) = 0 := by rw [Hnil.out h0]; rfl
          have hz2 : decide ((0 : Int) < (sd.length : Int)) = false := by rw [hz]; decide
          have hz3 : decide (0 < sd.length) = false := by rw [show sd.length = 0 from by omega]; decide
          subst h0
          go_wp2_with fail
          refine (wsWordsS g2 (some ⟨gd, 0, none⟩) sd.length c2 cd sd _ HS2i.out HSdi.out (by omega)).mono ?_
          rintro e wj ⟨rfl, qj, rfl⟩
          go_wp2
          go_ret
          exact ⟨rfl, belowN hbwi qj⟩
        · have hne := emp_ne h0
          go_wp2_with fail
          refine (wsWordsS g2 (some ⟨gd, 0, none⟩) sd.length c2 cd sd _ HS2i.out HSdi.out (by omega)).mono ?_
          rintro e wj ⟨rfl, qj, rfl⟩
          go_wp2
          go_ret
          exact ⟨rfl, belowN hbwi qj⟩
end Go.Proofs.YtifpdamghmlcfaaDoor
