/-
  The law on ops' texts: what was written is read, what was read was written so; by the model too.
-/
import Derived.Test.YtlfmhhdlandcjaaDoorDrawOpsT
import Derived.Test.YtlfmhhdlandcjaaDoorOrNoneO
namespace Go.Proofs.YtlfmhhdlandcjaaDoor
open Go.RowKit
set_option linter.unusedVariables false
set_option linter.unusedSimpArgs false

set_option maxHeartbeats 2000000 in
theorem wsOpsC (a a' : Option Addr) (n cap cap' : Nat) (ds ds' : Nat → OpD) (w : World) (h : Ops w a n ds) (h' : Ops w a' n ds') (he : ∀ i, i < n → ds i = ds' i) (hl : n ≤ 1048576) :
    Calls Tryd.prog 8 #[.slice a n cap, .slice a' n cap'] w fun e w' => e = .returned (.bool true) ∧ Below w.heap.size w w' := by
  have HE := Lib.hid he
  clear he
  go_enter Tryd.func8, Tryd.ntmps8
  go_wp2_with fail
  go_loopw [5] (fun i wr => ∃ k : Nat, k ≤ n ∧ i = .int .i64 k ∧ Below w.heap.size w wr) (fun i _ => n - (intOf i).toNat)
  case atStart => exact ⟨0, Nat.zero_le _, rfl, Below.refl _ _⟩
  case round =>
    obtain ⟨k, hk, rfl, hb⟩ := hrel
    rcases Nat.lt_or_ge k n with hlt | hge
    · rcases h.kept hb with hc | ⟨b, off, rfl, hbl, hcell⟩
      · omega
      rcases h'.kept hb with hc' | ⟨b', off', rfl, hbl', hcell'⟩
      · omega
      obtain ⟨c0, c1, c2, c3⟩ := hcell k hlt
      obtain ⟨d0, d1, d2, d3⟩ := hcell' k hlt
      rw [← HE.out k hlt] at d0 d1 d2 d3
      clear hcell hcell'
      generalize ds k = d at *
      have k1 : (k : Int) < n := by omega
      have k0 : (0 : Int) ≤ k := by omega
      go_wp2_with fail
      go_quiet (fail)
      go_wp2
      go_roundw
      case rel => exact ⟨k + 1, by omega, by go_num, belowN hb _⟩
      case measure => simp [intOf]; omega
    · obtain rfl : k = n := by omega
      go_wp2
      go_ret
      exact ⟨rfl, hb⟩
theorem good_isT {n : Nat} {ds : Nat → OpD} {s : ByteArray} (h : OpsGood n ds ∧ opsB ds n = s) : IsOpsT s := ⟨n, ds, h.1, h.2⟩
theorem ops_none (w : World) (ds : Nat → OpD) (a : Option Addr) : Ops w a 0 ds := Or.inl rfl
theorem opsB_ne {n : Nat} {ds : Nat → OpD} (h : OpsGood n ds) : opsB ds n ≠ ⟨#[]⟩ := by
  intro e
  have q := rdOps_opsB h
  rw [e] at q
  simp [rdOps, rdList, rdOp, rdPart, rdNext, offOf] at q
theorem half_none {n : Nat} {ds : Nat → OpD} (h : ¬ IsOpsT (textO n ds)) : (textO n ds).toList = [] := by
  unfold textO at h ⊢
  split at h
  · rename_i q; exact absurd ⟨n, ds, q, rfl⟩ h
  · rename_i q; rw [if_neg q, Lib.toList_data]
theorem half_some {n n' : Nat} {ds ds' : Nat → OpD} (hg : OpsGood n' ds') (he : opsB ds' n' = textO n ds) : n' = n ∧ (∀ i, i < n' → ds' i = ds i) ∧ (textO n ds).toList ≠ [] := by
  have hne := opsB_ne hg
  have hl : (textO n ds).toList ≠ [] := by
    rw [← he, Lib.toList_data]
    intro e
    exact hne (ByteArray.ext (Array.ext' e))
  unfold textO at he
  split at he
  · rename_i q
    obtain ⟨rfl, h⟩ := opsB_one hg q he
    exact ⟨rfl, h, hl⟩
  · exact absurd he hne
theorem own_cap' {w : World} {base cap n size : Nat} {a : Option Addr} {e : TypeId} {xs : List Value} (h : w.ownsRow base e size (.slice a n cap) n xs) : n ≤ cap := by
  rcases h.2 with ⟨h0, h1⟩ | ⟨g', cap', cur, hv, _, _, h1, _⟩
  · omega
  · cases hv; exact h1
set_option maxRecDepth 100000 in
set_option maxHeartbeats 16000000 in
theorem lawOpsText (a0 : Option Addr) (len0 cap0 : Nat) (z0 : List Int) (a1 : Option Addr) (len1 cap1 : Nat) (z1 : List Int) (w : World) (w0 : IsRow .u8 w a0 len0 cap0 z0) (w1 : IsRow .u8 w a1 len1 cap1 z1) (hL : LaidE w) :
    Calls Tryd.prog 3 #[.slice a0 len0 cap0, .slice a1 len1 cap1] w fun e w' => e = .returned (.bool true) ∧ Below w.heap.size w w' := by
  have W0 := Lib.hid w0
  have W1 := Lib.hid w1
  have HL := Lib.hid hL
  clear w0 w1 hL
  by_cases hz : len0 ≤ 1048576 ∧ len1 ≤ 1048576
  · obtain ⟨h0, h1⟩ := hz
    have g0 : decide ((1048576 : Int) < (len0 : Int)) = false := decide_eq_false (by omega)
    have g1 : decide ((1048576 : Int) < (len1 : Int)) = false := decide_eq_false (by omega)
    have g0n : decide (1048576 < len0) = false := decide_eq_false (by omega)
    have g1n : decide (1048576 < len1) = false := decide_eq_false (by omega)
    have K1 := Lib.hid (drawOpsT a0 len0 cap0 z0 w W0.out)
    clear h0 h1
    go_enter Tryd.func3, Tryd.ntmps3
    go_wp2_with fail
    refine K1.out.mono ?_
    rintro e w2 ⟨t, rfl, ht, hf, hb2⟩
    have HB2 := Lib.hid hb2
    have HF := Lib.hid hf.out
    have K2 := Lib.hid (readIO t w2 (by omega) (laidE_stays HL.out hb2))
    clear K1 hb2 hf
    go_wp2_with fail
    refine K2.out.mono ?_
    rintro e w3 ⟨hb3, ⟨hno, rfl⟩ | ⟨n, g, cap, ds, hc, hg, rfl, -, ho⟩⟩
    · have HNO := Lib.hid hno.out
      have HB3 := Lib.hid (HB2.out.trans (hb3.mono HB2.out.size))
      have KM := Lib.hid (readMO t w3 (by omega))
      clear hno hb3 K2
      go_wp2_with fail
      refine KM.out.mono ?_
      rintro e w4 ⟨hb4, ⟨-, b, cb, rfl⟩ | ⟨n, cb, b, ds, hg, rfl, -⟩⟩
      · have HB4 := Lib.hid (HB3.out.trans (hb4.mono HB3.out.size))
        have KQ := Lib.hid (wsOpsC none b 0 0 cb (fun _ => default) (fun _ => default) w4 (Or.inl rfl) (Or.inl rfl) (fun _ _ => rfl) (by omega))
        clear hb4 KM
        go_wp2_with fail
        refine KQ.out.mono ?_
        rintro e w5 ⟨rfl, hb5⟩
        have HB5 := Lib.hid (HB4.out.trans (hb5.mono HB4.out.size))
        clear hb5 KQ
        have HLA := Lib.hid (laidE_stays HL.out HB5.out)
        have KD := Lib.hid (drawOps a1 len1 cap1 z1 w5 (isRow_kept W1.out HB5.out))
        go_wp2_with fail
        refine KD.out.mono ?_
        rintro e wB ⟨acc, a, c, hl, hd, rfl, hown, hbB⟩
        have HBB := Lib.hid (HB5.out.trans (hbB.mono HB5.out.size))
        have HOP := Lib.hid (ops_own' hown)
        have hac := own_cap' hown
        obtain ⟨tz, -⟩ := textO_few hl hd.out
        have HLG : Hid (∀ i, i < acc.length → (dsL acc i).leg.size ≤ maxLen) := fun i hi => by
          have := (hd.out (dsL acc i) (by rw [dsL, List.getD_eq_getElem?_getD, List.getElem?_eq_getElem hi]; exact List.getElem_mem hi)).1
          unfold maxLen; omega
        have KW := Lib.hid (writeI a acc.length c (dsL acc) wB HOP.out HLG.out (by omega) hac (laidE_stays HL.out HBB.out).1)
        clear hd hown hbB KD
        go_wp2_with fail
        refine KW.out.mono ?_
        rintro e wC ⟨o, rfl, ho, hbC⟩
        obtain rfl := textO_of ho.out
        have HBC := Lib.hid (HBB.out.trans (hbC.mono HBB.out.size))
        have HOC := Lib.hid (HOP.out.kept hbC)
        have KR := Lib.hid (readIO (textO acc.length (dsL acc)) wC (by omega) (laidE_stays HL.out HBC.out))
        clear ho hbC KW HOP
        go_wp2_with fail
        refine KR.out.mono ?_
        rintro e wD ⟨hbD, ⟨hno, rfl⟩ | ⟨n, g, cap, ds, hc, hg, rfl, -, ho⟩⟩
        · have hq := half_none hno.out
          have HBD := Lib.hid (HBC.out.trans (hbD.mono HBC.out.size))
          have KS := Lib.hid (writeS a acc.length c (dsL acc) wD (HOC.out.kept hbD) HLG.out (by omega))
          have hE : (textO acc.length (dsL acc)).toList.isEmpty = true := by rw [hq]; rfl
          clear hno hbD KR
          go_wp2_with fail
          refine KS.out.mono ?_
          rintro e wE ⟨o, rfl, ho, hbE⟩
          obtain rfl := textO_of ho.out
          have HBE := Lib.hid (HBD.out.trans (hbE.mono HBD.out.size))
          clear ho hbE KS
          go_wp2
          go_ret
          exact ⟨rfl, HBE.out⟩
        · obtain ⟨rfl, hsame, hq⟩ := half_some hg.out.1 hg.out.2
          have HSA := Lib.hid hsame
          have HBD := Lib.hid (HBC.out.trans (hbD.mono HBC.out.size))
          have HOX := Lib.hid ho
          have KS := Lib.hid (writeS a acc.length c (dsL acc) wD (HOC.out.kept hbD) HLG.out (by omega))
          have HOD := Lib.hid (HOC.out.kept hbD)
          have hE : (textO acc.length (dsL acc)).toList.isEmpty = false := by cases h : (textO acc.length (dsL acc)).toList with
            | nil => exact absurd h hq
            | cons x y => rfl
          clear hg ho hbD KR hsame
          go_wp2_with fail
          refine KS.out.mono ?_
          rintro e wE ⟨o, rfl, ho, hbE⟩
          obtain rfl := textO_of ho.out
          have HBE := Lib.hid (HBD.out.trans (hbE.mono HBD.out.size))
          have KQ := Lib.hid (wsOpsC (some ⟨g, 0, none⟩) a acc.length cap c ds (dsL acc) wE (HOX.out.kept hbE) (HOD.out.kept hbE) HSA.out (by omega))
          clear ho hbE KS
          go_wp2_with fail
          refine KQ.out.mono ?_
          rintro e wF ⟨rfl, hbF⟩
          have HBF := Lib.hid (HBE.out.trans (hbF.mono HBE.out.size))
          clear hbF KQ
          go_wp2
          go_ret
          exact ⟨rfl, HBF.out⟩
      · exact absurd (good_isT hg.out) HNO.out
    · have HB3 := Lib.hid (HB2.out.trans (hb3.mono HB2.out.size))
      have HG := Lib.hid hg.out
      have HO := Lib.hid ho
      have KM := Lib.hid (readMO t w3 (by omega))
      have HLw3 := Lib.hid (laidE_stays HL.out HB3.out)
      clear hg hb3 K2 ho
      go_wp2_with fail
      refine KM.out.mono ?_
      rintro e w4 ⟨hb4, ⟨hno, -⟩ | ⟨n', cb, b, ds', hg', rfl, ho'⟩⟩
      · exact absurd (isM_few HF.out (good_isT HG.out)) hno.out
      · have HB4 := Lib.hid (HB3.out.trans (hb4.mono HB3.out.size))
        obtain ⟨rfl, he⟩ := opsB_one HG.out.1 hg'.out.1 (HG.out.2.trans hg'.out.2.symm)
        have hn3 := HG.out.1.1.2
        have HO4 := Lib.hid (HO.out.kept hb4)
        have KQ := Lib.hid (wsOpsC (some ⟨g, 0, none⟩) b n cap cb ds ds' w4 HO4.out ho' he (by omega))
        clear hb4 KM he hg' ho'
        go_wp2_with fail
        refine KQ.out.mono ?_
        rintro e w5 ⟨rfl, hb5⟩
        have HB5 := Lib.hid (HB4.out.trans (hb5.mono HB4.out.size))
        have HLG0 : Hid (∀ i, i < n → (ds i).leg.size ≤ maxLen) := fun i hi => by
          have := nameB_size (HG.out.1.2 i hi).1.1
          unfold maxLen; omega
        have KW0 := Lib.hid (writeI (some ⟨g, 0, none⟩) n cap ds w5 (HO4.out.kept hb5) HLG0.out (by omega) hc (laidE_stays HL.out HB5.out).1)
        clear hb5 KQ
        go_wp2_with fail
        refine KW0.out.mono ?_
        rintro e w6 ⟨o, rfl, ho, hb6⟩
        have ho2 : o = t := (ho.out.1 HG.out.1).trans HG.out.2
        subst ho2
        have HB6 := Lib.hid (HB5.out.trans (hb6.mono HB5.out.size))
        clear ho hb6 KW0
        have HLA := Lib.hid (laidE_stays HL.out HB6.out)
        have KD := Lib.hid (drawOps a1 len1 cap1 z1 w6 (isRow_kept W1.out HB6.out))
        go_wp2_with fail
        refine KD.out.mono ?_
        rintro e wB ⟨acc, a, c, hl, hd, rfl, hown, hbB⟩
        have HBB := Lib.hid (HB6.out.trans (hbB.mono HB6.out.size))
        have HOP := Lib.hid (ops_own' hown)
        have hac := own_cap' hown
        obtain ⟨tz, -⟩ := textO_few hl hd.out
        have HLG : Hid (∀ i, i < acc.length → (dsL acc i).leg.size ≤ maxLen) := fun i hi => by
          have := (hd.out (dsL acc i) (by rw [dsL, List.getD_eq_getElem?_getD, List.getElem?_eq_getElem hi]; exact List.getElem_mem hi)).1
          unfold maxLen; omega
        have KW := Lib.hid (writeI a acc.length c (dsL acc) wB HOP.out HLG.out (by omega) hac (laidE_stays HL.out HBB.out).1)
        clear hd hown hbB KD
        go_wp2_with fail
        refine KW.out.mono ?_
        rintro e wC ⟨o, rfl, ho, hbC⟩
        obtain rfl := textO_of ho.out
        have HBC := Lib.hid (HBB.out.trans (hbC.mono HBB.out.size))
        have HOC := Lib.hid (HOP.out.kept hbC)
        have KR := Lib.hid (readIO (textO acc.length (dsL acc)) wC (by omega) (laidE_stays HL.out HBC.out))
        clear ho hbC KW HOP
        go_wp2_with fail
        refine KR.out.mono ?_
        rintro e wD ⟨hbD, ⟨hno, rfl⟩ | ⟨n, g, cap, ds, hc, hg, rfl, -, ho⟩⟩
        · have hq := half_none hno.out
          have HBD := Lib.hid (HBC.out.trans (hbD.mono HBC.out.size))
          have KS := Lib.hid (writeS a acc.length c (dsL acc) wD (HOC.out.kept hbD) HLG.out (by omega))
          have hE : (textO acc.length (dsL acc)).toList.isEmpty = true := by rw [hq]; rfl
          clear hno hbD KR
          go_wp2_with fail
          refine KS.out.mono ?_
          rintro e wE ⟨o, rfl, ho, hbE⟩
          obtain rfl := textO_of ho.out
          have HBE := Lib.hid (HBD.out.trans (hbE.mono HBD.out.size))
          clear ho hbE KS
          go_wp2
          go_ret
          exact ⟨rfl, HBE.out⟩
        · obtain ⟨rfl, hsame, hq⟩ := half_some hg.out.1 hg.out.2
          have HSA := Lib.hid hsame
          have HBD := Lib.hid (HBC.out.trans (hbD.mono HBC.out.size))
          have HOX := Lib.hid ho
          have KS := Lib.hid (writeS a acc.length c (dsL acc) wD (HOC.out.kept hbD) HLG.out (by omega))
          have HOD := Lib.hid (HOC.out.kept hbD)
          have hE : (textO acc.length (dsL acc)).toList.isEmpty = false := by cases h : (textO acc.length (dsL acc)).toList with
            | nil => exact absurd h hq
            | cons x y => rfl
          clear hg ho hbD KR hsame
          go_wp2_with fail
          refine KS.out.mono ?_
          rintro e wE ⟨o, rfl, ho, hbE⟩
          obtain rfl := textO_of ho.out
          have HBE := Lib.hid (HBD.out.trans (hbE.mono HBD.out.size))
          have KQ := Lib.hid (wsOpsC (some ⟨g, 0, none⟩) a acc.length cap c ds (dsL acc) wE (HOX.out.kept hbE) (HOD.out.kept hbE) HSA.out (by omega))
          clear ho hbE KS
          go_wp2_with fail
          refine KQ.out.mono ?_
          rintro e wF ⟨rfl, hbF⟩
          have HBF := Lib.hid (HBE.out.trans (hbF.mono HBE.out.size))
          clear hbF KQ
          go_wp2
          go_ret
          exact ⟨rfl, HBF.out⟩
  · rcases Nat.lt_or_ge 1048576 len0 with c | c
    · have g0 : decide ((1048576 : Int) < (len0 : Int)) = true := decide_eq_true (by omega)
      have g0n : decide (1048576 < len0) = true := decide_eq_true c
      clear hz
      go_enter Tryd.func3, Tryd.ntmps3
      go_wp2
      go_ret
      exact ⟨rfl, Below.refl _ _⟩
    · have g0 : decide ((1048576 : Int) < (len0 : Int)) = false := decide_eq_false (by omega)
      have g0n : decide (1048576 < len0) = false := decide_eq_false (by omega)
      have g1 : decide ((1048576 : Int) < (len1 : Int)) = true := decide_eq_true (by omega)
      have g1n : decide (1048576 < len1) = true := decide_eq_true (by omega)
      clear hz
      go_enter Tryd.func3, Tryd.ntmps3
      go_wp2
      go_ret
      exact ⟨rfl, Below.refl _ _⟩

end Go.Proofs.YtlfmhhdlandcjaaDoor
