/-
  A block, by the model.
-/
import Derived.Test.YtiganhkmnklhlaaDoorShaBlocks
import Derived.Test.YtiganhkmnklhlaaDoorShaWords
import Derived.Deep.RegionLaw
import Derived.Deep.QuietTactic
import Derived.BigQuiet
import Derived.Deep.DeepMust
import Derived.OwnWalk
import Derived.Deep.OwnRows
import Derived.Deep.WholeRow
import Derived.Laws.MakeOwn
import Derived.Maps.AppendAt
namespace Go.Proofs.YtiganhkmnklhlaaDoor
open Go.RowKit
set_option linter.unusedVariables false

/-- Eight words that lie from a place on. -/
def At8 (w : World) (g o : Nat) (s : S8) : Prop := ∀ i, i < 8 → w.cell? ⟨g, o + i, none⟩ = some (.int .u32 (s.at i))
def list8 (s : S8) : List Int := [s.a, s.b, s.c, s.d, s.e, s.f, s.g, s.h]
def BlkPost (h : S8) (t : List UInt8) (w : World) (e : Ending) (w' : World) : Prop := ∃ a c, e = .returned (.slice a 8 c) ∧ OwnV w.heap.size w' (.slice a 8 c) (u32s (list8 (blockS h t))) ∧ Below w.heap.size w w'

theorem q_add {P : Program} {f : FuncId} {args : Array Value} {w : World} {v : Value} {a n : Nat} (h : Calls P f args (w.drewN (a + n)) fun e w' => e = .returned v ∧ Drew (w.drewN (a + n)) w') :
    Calls P f args (w.drewN (a + n)) fun e w' => e = .returned v ∧ ∃ m, w' = w.drewN (a + m) := h.mono fun _ _ ⟨he, m, hm⟩ => ⟨he, n + m, by rw [hm, World.drewN_drewN, Nat.add_assoc]⟩
def shifted (s : S8) (m i : Nat) : Int := if m < i then s.at (i - 1) else s.at i
theorem shifted_7 (s : S8) {i : Nat} (h : i < 8) : shifted s 7 i = s.at i := by rw [shifted, if_neg (by omega)]
theorem at_other {w : World} {g o m i : Nat} (x : Value) (h : i ≠ m) : (w.setCell ⟨g, o + m, none⟩ x).cell? ⟨g, o + i, none⟩ = w.cell? ⟨g, o + i, none⟩ :=
  World.cell?_setCell_other _ _ _ _ (by intro e; injection e with e1 e2; omega)
theorem fz_set (w : World) (p q : Addr) (x : Value) : (w.setCell p x).frozen? q = w.frozen? q := by simp
theorem shifted_low (s : S8) (j i : Nat) (h : i ≠ j + 1) : shifted s j i = shifted s (j + 1) i := by
  unfold shifted
  by_cases h1 : j < i
  · rw [if_pos h1, if_pos (by omega)]
  · rw [if_neg h1, if_neg (by omega)]
theorem OwnV.lower {B B' : Nat} {w : World} {v : Value} {xs : List Value} (h : OwnV B w v xs) (hb : B' ≤ B) : OwnV B' w v xs := by
  rcases h with h | ⟨g, o, cap, h1, h2, h3⟩
  · exact Or.inl h
  · exact Or.inr ⟨g, o, cap, h1, Nat.le_trans hb h2, h3⟩
theorem add8_next (x y : S8) (m : Nat) (h : m < 8) : u32s ((list8 (x.add y)).take (m + 1)) = u32s ((list8 (x.add y)).take m) ++ [.int .u32 ((x.at m + y.at m) % 4294967296)] := by
  have : m = 0 ∨ m = 1 ∨ m = 2 ∨ m = 3 ∨ m = 4 ∨ m = 5 ∨ m = 6 ∨ m = 7 := by omega
  rcases this with rfl | rfl | rfl | rfl | rfl | rfl | rfl | rfl <;> rfl
theorem cell_blk {w : World} {b t i : Nat} {cs : Array Value} {fr : Nat × Nat} {v : Value} (h : w.heap[b]? = some (.cells cs t fr)) (hv : cs[i]? = some v) : w.cell? ⟨b, i, none⟩ = some v := by simp [World.cell?, h, hv]
theorem add_at (g o j : Nat) : (⟨g, o, none⟩ : Addr).add j = ⟨g, o + j, none⟩ := by unfold Addr.add; split <;> simp_all
theorem list8_at (s : S8) (i : Nat) (h : i < 8) : (u32s (list8 s))[i]? = some (.int .u32 (s.at i)) := by
  have : i = 0 ∨ i = 1 ∨ i = 2 ∨ i = 3 ∨ i = 4 ∨ i = 5 ∨ i = 6 ∨ i = 7 := by omega
  rcases this with rfl | rfl | rfl | rfl | rfl | rfl | rfl | rfl <;> rfl
theorem news8 {w : World} {g o : Nat} {s : S8} (h : At8 w g o s) : ∀ j u, (u32s (list8 s))[j]? = some u → w.cell? ((⟨g, o, none⟩ : Addr).add j) = some u := by
  intro j u hu
  have hj : j < 8 := by
    rcases Nat.lt_or_ge j 8 with h | h
    · exact h
    · rw [List.getElem?_eq_none (by simpa [u32s, list8] using h)] at hu; cases hu
  rw [add_at, h j hj, ← hu, list8_at s j hj]
theorem one_u32s (l : List Int) : ∀ u ∈ u32s l, u.oneCell' = true := by
  intro u hu
  simp [u32s] at hu
  obtain ⟨x, -, rfl⟩ := hu
  rfl
theorem OwnV.form8 {B : Nat} {w : World} {a : Option Addr} {c : Nat} {s : S8} (h : OwnV B w (.slice a 8 c) (u32s (list8 s))) :
    ∃ g o, a = some ⟨g, o, none⟩ ∧ B ≤ g ∧ g < w.heap.size ∧ At8 w g o s ∧ ∀ i, i < 8 → w.frozen? ⟨g, o + i, none⟩ = false := by
  rcases h with ⟨-, h⟩ | ⟨g, o, cap, h1, h2, h3, h4, h5, h6⟩
  · exact absurd (congrArg List.length h) (by simp [u32s, list8])
  · cases h1
    have hl : (u32s (list8 s)).length = 8 := rfl
    exact ⟨g, o, rfl, h2, h3, fun j hj => (h5 j (by omega)).trans (list8_at s j hj), fun j hj => (h6 j (by omega)).2⟩
theorem At8.kept {B : Nat} {w w' : World} {g o : Nat} {s : S8} (h : At8 w g o s) (hb : Below B w w') (hg : g < B) : At8 w' g o s := fun i hi => (hb.cell (p := ⟨g, o + i, none⟩) hg).trans (h i hi)

set_option maxRecDepth 100000 in
set_option maxHeartbeats 100000000 in
theorem blkS (gh oh ch g o cap : Nat) (h : S8) (t : List UInt8) (w : World) (hgh : gh < w.heap.size) (hg : g < w.heap.size) (hh : At8 w gh oh h) (hc : BytesOf w g o t) :
    Calls Tryd.prog 61 #[.slice (some ⟨gh, oh, none⟩) 8 ch, .slice (some ⟨g, o, none⟩) 64 cap] w (BlkPost h t w) := by
  obtain ⟨i0, hi, hz0, hz1, hz2⟩ := info_parts info_u32
  have HH := Lib.hid hh
  have HC := Lib.hid hc
  clear hh hc
  go_enter Tryd.func61, Tryd.ntmps61
  go_wp2_with fail
  refine (wordsS g o cap t w hg HC.out).mono ?_
  rintro e w1 ⟨aw, cw, rfl, how, hbw⟩
  go_wp2_with fail
  refine (constsS w1).mono ?_
  rintro e w2 ⟨rfl, rfl⟩
  have hb2 : Below w.heap.size w ((w1.alloc (.cells kArr 76)).alloc (.cells #[] 76)) := (hbw.alloc hbw.size _).alloc (by have := hbw.size; simp; omega) _
  have hnew : OwnV (w1.heap.size + 1) ((w1.alloc (.cells kArr 76)).alloc (.cells #[] 76)) (.slice (some ⟨w1.heap.size + 1, 0, none⟩) 0 0) [] := by
    have h := OwnV.made (B := w1.heap.size + 1) (e := 76) (w1.alloc (.cells kArr 76)) (by simp)
    rw [World.size_alloc] at h; exact h
  go_wp2_with (at_builtin; go_must (refine wpList_append_ownV rfl _ _ 93 rfl 76 i0 (.int .u32 0) 4 Tryd.underlying93 hi hz0 hz1 hz2 rfl rfl hnew ?a1 ⟨gh, oh, none⟩ 8 ch (u32s (list8 h)) rfl rfl ?a2 (one_u32s _) ?a4 ?a5 ?a6 8 ?a7 ?_); (case a1 => go_must (simp)); (case a2 => go_must (exact news8 (HH.out.kept hb2 hgh))); (case a4 => go_must (decide)); (case a5 => go_must (unfold maxLen; simp)); (case a6 => go_must (simp)); (case a7 => go_must (rfl)); intro a3 c3 w2 hos hbs)
  obtain ⟨gs, os, rfl, hgs1, hgs2, hat, hfr⟩ := hos.form8
  obtain ⟨gw, ow, rfl, hgw, hcw⟩ := how.form (by rw [u32s_len, words_len]; omega)
  have hb0 : Below (w1.heap.size + 1) (w1.alloc (.cells kArr 76)) w2 := ((Below.refl _ _).alloc (by simp) _).trans hbs
  have HW : Hid (∀ j, j < 64 → w1.cell? ⟨gw, ow + j, none⟩ = some (.int .u32 ((wordsL t 48).getD j 0))) := Lib.hid fun j hj => hcw j (by rw [u32s_len, words_len]; omega)
  clear hcw hnew hos
  have HW1 : Hid (Below w.heap.size w (w1.alloc (.cells kArr 76))) := Lib.hid (hbw.alloc hbw.size _)
  have HB2 := Lib.hid hb2
  clear hb2 how
  go_loopw [8] (fun i wr => ∃ k : Nat, i = .int .i64 k ∧ k ≤ 64 ∧ At8 wr gs os (h.runs (wordsL t 48) k) ∧ (∀ j, j < 8 → wr.frozen? ⟨gs, os + j, none⟩ = false) ∧ gs < wr.heap.size ∧ Below (w1.heap.size + 1) (w1.alloc (.cells kArr 76)) wr) (fun i _ => 64 - (intOf i).toNat)
  case atStart => exact ⟨0, rfl, by omega, hat, hfr, hgs2, hb0⟩
  case round =>
    clear hat hfr hbs hb0
    obtain ⟨k, rfl, hk, hat, hfr, hgs3, hb⟩ := hrel
    rcases Nat.lt_or_ge k 64 with hlt | hge
    · have hki : (k : Int) < 64 := by omega
      have hst : h.runs (wordsL t 48) (k + 1) = (h.runs (wordsL t 48) k).rnd ((kAt k + (wordsL t 48).getD k 0) % 4294967296) := rfl
      generalize h.runs (wordsL t 48) k = st at *
      obtain ⟨sa, sb, sc, sd, se, sf, sg, sh⟩ := st
      have c0 : wr.cell? ⟨gs, os, none⟩ = some (.int .u32 sa) := hat 0 (by omega)
      have c1 : wr.cell? ⟨gs, os + 1, none⟩ = some (.int .u32 sb) := hat 1 (by omega)
      have c2 : wr.cell? ⟨gs, os + 2, none⟩ = some (.int .u32 sc) := hat 2 (by omega)
      have c3 : wr.cell? ⟨gs, os + 3, none⟩ = some (.int .u32 sd) := hat 3 (by omega)
      have c4 : wr.cell? ⟨gs, os + 4, none⟩ = some (.int .u32 se) := hat 4 (by omega)
      have c5 : wr.cell? ⟨gs, os + 5, none⟩ = some (.int .u32 sf) := hat 5 (by omega)
      have c6 : wr.cell? ⟨gs, os + 6, none⟩ = some (.int .u32 sg) := hat 6 (by omega)
      have c7 : wr.cell? ⟨gs, os + 7, none⟩ = some (.int .u32 sh) := hat 7 (by omega)
      have d1 : wr.cell? ⟨w1.heap.size, k, none⟩ = some (.int .u32 (kAt k)) := (hb.cell (p := ⟨w1.heap.size, k, none⟩) (Nat.lt_succ_self _)).trans (cell_blk (heap_alloc_last w1 _) (kArr_at k hlt))
      have d2 : wr.cell? ⟨gw, ow + k, none⟩ = some (.int .u32 ((wordsL t 48).getD k 0)) := (hb.cell (p := ⟨gw, ow + k, none⟩) (Nat.lt_succ_of_lt hgw)).trans (((Below.refl w1.heap.size w1).alloc (Nat.le_refl _) _).cell (p := ⟨gw, ow + k, none⟩) hgw |>.trans (HW.out k hlt))
      generalize (wordsL t 48).getD k 0 = xw at *
      generalize kAt k = xk at *
      have HA := Lib.hid hat
      have HF := Lib.hid hfr
      clear hat hfr
      go_wp2_with fail
      go_quiet ((first
        | (go_at_call_of 78 (Value.int IntKind.i64 6); exact Calls.quiet_of (tn6 se _))
        | (go_at_call_of 78 (Value.int IntKind.i64 11); exact Calls.quiet_of (tn11 se _))
        | (go_at_call_of 78 (Value.int IntKind.i64 25); exact Calls.quiet_of (tn25 se _))))
      go_wp2_with fail
      generalize hA : (bits .xor .u32 (bits .xor .u32 (rotr 64 67108864 se) (rotr 2048 2097152 se)) (rotr 33554432 128 se)) = E1
      go_quiet (fail)
      go_wp2_with fail
      go_quiet (fail)
      go_wp2_with fail
      go_quiet ((first
        | (go_at_call_of 78 (Value.int IntKind.i64 2); exact q_add (tn2 sa _))
        | (go_at_call_of 78 (Value.int IntKind.i64 13); exact q_add (tn13 sa _))
        | (go_at_call_of 78 (Value.int IntKind.i64 22); exact q_add (tn22 sa _))))
      go_wp2_with fail
      go_quiet (fail)
      go_wp2_with fail
      generalize hwx : World.drewN (World.drewN (World.drewN (World.drewN wr _) _) _) _ = wx
      have hD : ∀ B, Below B wr wx := by rw [← hwx]; exact fun B => belowN (belowN (belowN (belowN (Below.refl _ _) _) _) _) _
      clear hwx
      have hatx : At8 wx gs os ⟨sa, sb, sc, sd, se, sf, sg, sh⟩ := HA.out.kept (hD (gs + 1)) (Nat.lt_succ_self _)
      have hfrx : ∀ j, j < 8 → wx.frozen? ⟨gs, os + j, none⟩ = false := fun j hj => (World.frozen?_of_block (a := ⟨gs, os + j, none⟩) ((hD (gs + 1)).block gs (Nat.lt_succ_self _))).trans (HF.out j hj)
      have hbx := hb.trans (hD _)
      have hgx : gs < wx.heap.size := Nat.lt_of_lt_of_le hgs3 (hD 0).size
      clear c0 c1 c2 c3 c4 c5 c6 c7 d1 d2 hb hgs3 HA HF
      go_loopw [14] (fun n wy => ∃ m : Nat, n = .int .i64 m ∧ m ≤ 7 ∧ (∀ i, i < 8 → wy.cell? ⟨gs, os + i, none⟩ = some (.int .u32 (shifted ⟨sa, sb, sc, sd, se, sf, sg, sh⟩ m i))) ∧ (∀ j, j < 8 → wy.frozen? ⟨gs, os + j, none⟩ = false) ∧ gs < wy.heap.size ∧ Below (w1.heap.size + 1) (w1.alloc (.cells kArr 76)) wy) (fun n _ => (intOf n).toNat)
      case atStart => exact ⟨7, rfl, by omega, fun i hi => by rw [hatx i hi, shifted_7 _ hi], hfrx, hgx, hbx⟩
      case round =>
        clear hatx hfrx hbx hgx hD
        obtain ⟨m, rfl, hm, hcm, hfm, hgm, hbm⟩ := hrel
        rcases Nat.lt_or_ge 0 m with hm0 | hm0
        · obtain ⟨j, hj⟩ : ∃ j : Nat, j = m - 1 := ⟨_, rfl⟩
          have qj : IntKind.i64.wrap ((m : Int) - 1) = (j : Int) := by rw [IntWalk.i64_in _ (by omega)]; omega
          have m8 : (m : Int) < 8 := by omega
          have m0 : (0 : Int) < m := by omega
          have j8 : (j : Int) < 8 := by omega
          have cj := hcm j (by omega)
          have cm := hcm m (by omega)
          have fm := hfm m (by omega)
          generalize hval : shifted ⟨sa, sb, sc, sd, se, sf, sg, sh⟩ m j = y at cj
          have HCM := Lib.hid hcm
          have HFM := Lib.hid hfm
          have HV := Lib.hid hval
          have HJ := Lib.hid hj
          clear hcm hfm hval hj
          go_wp2_with fail
          obtain rfl : m = j + 1 := by have := HJ.out; omega
          refine ⟨⟨j, rfl, by omega, fun i hi => ?_, fun i hi => (fz_set _ _ _ _).trans (HFM.out i hi), by simpa using hgm, hbm.setCell (p := ⟨gs, os + (j + 1), none⟩) hgs1 _⟩, by simp [intOf]⟩
          by_cases hij : i = j + 1
          · subst hij
            refine (World.cell?_setCell_same _ _ _ cm).trans ?_
            rw [← HV.out, shifted, shifted, if_neg (by omega), if_pos (by omega)]; rfl
          · rw [at_other _ hij, HCM.out i hi, shifted_low _ _ _ hij]
        · obtain rfl : m = 0 := by omega
          have c0 : wr.cell? ⟨gs, os, none⟩ = some (.int .u32 sa) := hcm 0 (by omega)
          have c4 : wr.cell? ⟨gs, os + 4, none⟩ = some (.int .u32 sd) := hcm 4 (by omega)
          have f0 : wr.frozen? ⟨gs, os, none⟩ = false := hfm 0 (by omega)
          have f4 : wr.frozen? ⟨gs, os + 4, none⟩ = false := hfm 4 (by omega)
          have HCM := Lib.hid hcm
          have HFM := Lib.hid hfm
          clear hcm hfm
          go_wp2_with fail
          refine ⟨⟨k + 1, by simp, by omega, ?_, fun i hi => (fz_set _ _ _ _).trans ((fz_set _ _ _ _).trans (HFM.out i hi)), by simpa using hgm, (hbm.setCell (p := ⟨gs, os + 4, none⟩) hgs1 _).setCell (p := ⟨gs, os, none⟩) hgs1 _⟩, by simp [intOf]; omega⟩
          rw [hst]
          intro i hi
          have hcase : i = 0 ∨ i = 1 ∨ i = 2 ∨ i = 3 ∨ i = 4 ∨ i = 5 ∨ i = 6 ∨ i = 7 := by omega
          rcases hcase with rfl | rfl | rfl | rfl | rfl | rfl | rfl | rfl
          · refine (World.cell?_setCell_same _ _ _ ((at_other (m := 4) _ (by decide)).trans c0)).trans (congrArg (fun x => some (Value.int .u32 x)) ?_)
            show _ = (sh + mixE se + choice se sf sg + (xk + xw) % 4294967296 + mixA sa + most sa sb sc) % 4294967296
            rw [show mixE se = E1 from hA]
            show (sh + E1 + choice se sf sg + xk + xw + mixA sa + most sa sb sc) % 4294967296 = _
            omega
          · exact ((at_other (m := 0) _ (by decide)).trans (at_other (m := 4) _ (by decide))).trans (HCM.out 1 (by omega))
          · exact ((at_other (m := 0) _ (by decide)).trans (at_other (m := 4) _ (by decide))).trans (HCM.out 2 (by omega))
          · exact ((at_other (m := 0) _ (by decide)).trans (at_other (m := 4) _ (by decide))).trans (HCM.out 3 (by omega))
          · refine ((at_other (m := 0) _ (by decide)).trans (World.cell?_setCell_same _ _ _ c4)).trans (congrArg (fun x => some (Value.int .u32 x)) ?_)
            show _ = (sd + (sh + mixE se + choice se sf sg + (xk + xw) % 4294967296)) % 4294967296
            rw [show mixE se = E1 from hA]
            show (sd + (sh + E1 + choice se sf sg + xk + xw)) % 4294967296 = _
            omega
          · exact ((at_other (m := 0) _ (by decide)).trans (at_other (m := 4) _ (by decide))).trans (HCM.out 5 (by omega))
          · exact ((at_other (m := 0) _ (by decide)).trans (at_other (m := 4) _ (by decide))).trans (HCM.out 6 (by omega))
          · exact ((at_other (m := 0) _ (by decide)).trans (at_other (m := 4) _ (by decide))).trans (HCM.out 7 (by omega))
    · have hk64 : k = 64 := by omega
      have hatF : At8 wr gs os (h.runs (wordsL t 48) 64) := by rw [← hk64]; exact hat
      have HK := Lib.hid hk64
      have hwB : Below w.heap.size w wr := (HW1.out).trans (hb.mono (by have := hbw.size; omega))
      clear hat hk64
      go_wp2_with fail
      have hcr : ∀ i, i < 8 → wr.cell? ⟨gh, oh + i, none⟩ = some (.int .u32 (h.at i)) := HH.out.kept hwB hgh
      generalize hfin : h.runs (wordsL t 48) 64 = fin at hatF
      have hbl : blockS h t = h.add fin := by rw [blockS, hfin]
      have HBL := Lib.hid hbl
      have HHR := Lib.hid hcr
      have HF8 := Lib.hid hatF
      have hwx : wr.heap.size = wr.heap.size := rfl
      generalize hws : wr = ws at hgs3 hwB HHR HF8
      have hmd : OwnV ws.heap.size (ws.alloc (.cells #[] 76)) (.slice (some ⟨ws.heap.size, 0, none⟩) 0 0) (u32s ((list8 (h.add fin)).take 0)) := OwnV.made ws (Nat.le_refl _)
      have hmb : Below ws.heap.size ws (ws.alloc (.cells #[] 76)) := (Below.refl _ _).alloc (Nat.le_refl _) _
      have hgw : gh < ws.heap.size := Nat.lt_of_lt_of_le hgh hwB.size
      clear hb hbl hfin hcr hatF hwx
      go_loopw [15, 16] (fun v i wr => ∃ (m : Nat) (a : Option Addr) (c : Nat), v = .slice a m c ∧ i = .int .i64 m ∧ m ≤ 8 ∧ OwnV ws.heap.size wr (.slice a m c) (u32s ((list8 (h.add fin)).take m)) ∧ Below ws.heap.size ws wr) (fun _ i _ => 8 - (intOf i).toNat)
      case atStart => exact ⟨0, _, _, rfl, rfl, by omega, hmd, hmb⟩
      case round =>
        clear hmd hmb hws
        obtain ⟨m, a, c, rfl, rfl, hm, ho, hb⟩ := hrel
        have HO := Lib.hid ho
        have hle : (u32s ((list8 (h.add fin)).take m)).length = m := by rw [u32s_len, List.length_take]; simp [list8]; omega
        clear ho
        rcases Nat.lt_or_ge m 8 with hlt | hge
        · have hmi : (m : Int) < 8 := by omega
          have e1 := (hb.cell (p := ⟨gh, oh + m, none⟩) hgw).trans (HHR.out m hlt)
          have e2 := (hb.cell (p := ⟨gs, os + m, none⟩) hgs3).trans (HF8.out m hlt)
          have hnx := add8_next h fin m hlt
          generalize h.at m = hm at *
          generalize fin.at m = fm at *
          have HN := Lib.hid hnx
          have hbx : Below ws.heap.size ws wr := hb
          clear hnx
          go_wp2_with fail
          go_region_law (refine step_append_ownV (B := ws.heap.size) (w := ?gw) (v := ?gv) (xs := (u32s ((list8 (h.add fin)).take m))) ?ga ?gs ?gx 93 ?gb 76 i0 (.int .u32 0) 4 ?gc ?gd ?gf ?gg ?gh ?gi ?gj ?g0 ?g1 ⟨wr.heap.size, 0, none⟩ 1 1 [Value.int .u32 ((hm + fm) % 4294967296)] ?gk ?gl ?g2 ?g3 ?g4 ?g5 ?g6 (m + 1) ?g7 ?_; (case ga => rfl); (case gb => rfl); (case gj => rfl); (case g0 => go_must (exact HO.out.grown (Below.drew ((Below.refl _ _).alloc (Nat.le_refl _) _)))); (case gk => rfl); (case gc => exact Tryd.underlying93); (case gd => exact hi); (case gf => exact hz0); (case gg => exact hz1); (case gh => exact hz2); (case gi => rfl); (case gl => rfl); (case g1 => go_must (have := hbx.size; simp; omega)); (case g2 => go_must (exact World.news_of_block (heap_alloc_last _ _))); (case g3 => go_must (intro u hu; simp at hu; first | (subst hu; rfl) | (rcases hu with rfl | rfl <;> rfl) | (rcases hu with rfl | rfl | rfl | rfl <;> rfl))); (case g4 => go_must (omega)); (case g5 => go_must (unfold maxLen; omega)); (case g6 => go_must (omega)); (case g7 => go_must (omega)); intro a2 c2 w3 ho2 hb3)
          all_goals
            go_wp2
            go_roundw
            case rel => exact ⟨m + 1, a2, c2, rfl, by go_num, by omega, by rw [HN.out]; exact ho2, ((hb.alloc hb.size _).drew).trans hb3⟩
            case measure => simp [intOf]; omega
        · have h8 : m = 8 := by omega
          have hfe : OwnV w.heap.size wr (.slice a m c) (u32s (list8 (blockS h t))) := by
            have h9 := HO.out.lower hwB.size
            rw [h8] at h9 ⊢
            rw [HBL.out]; exact h9
          have HE := Lib.hid hfe
          have H8 := Lib.hid h8
          clear HO h8 hfe hle
          go_wp2_with fail
          go_ret
          have h9 := HE.out
          rw [H8.out] at h9
          exact ⟨a, c, by rw [H8.out]; rfl, h9, hwB.trans (hb.mono hwB.size)⟩
end Go.Proofs.YtiganhkmnklhlaaDoor
