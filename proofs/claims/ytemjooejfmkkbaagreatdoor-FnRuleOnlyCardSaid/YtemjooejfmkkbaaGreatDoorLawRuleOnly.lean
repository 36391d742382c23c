/-
  The law FnRuleOnly's own walk.
-/
import Derived.Test.YtemjooejfmkkbaaGreatDoorJ44
import Derived.Test.YtemjooejfmkkbaaGreatDoorFuelMath
import Derived.Test.YtemjooejfmkkbaaGreatDoorJ24
import Derived.Test.YtemjooejfmkkbaaGreatDoorNamesJ
import Derived.Lib.QuietBelow
import Derived.Deep.RegionWith
import Derived.Deep.DeepMust
import Derived.Deep.AppendLies
namespace Go.Proofs.YtemjooejfmkkbaaGreatDoor
open Go.RowKit
set_option linter.unusedVariables false
set_option linter.unusedSimpArgs false

theorem only_law (t : Tr) (ns : List (ByteArray × Int)) (fu : Int) : ruleOfV t (ns.filter fun p => decide (p.1.data.toList ∈ namesR t)) fu = ruleOfV t ns fu := by
  unfold ruleOfV
  split
  · rename_i h
    have e := eval_only ns (ns.filter fun p => decide (p.1.data.toList ∈ namesR t)) _ t (Nat.le_refl _) (fun s hs => varV_filter (namesR t) s (by unfold namesR; rw [if_pos h.1]; exact (putsU_mem _ _ _).2 (.inr hs)) ns)
    rw [e]
  · rfl
theorem bsU_at (l : List (List UInt8)) (k : Nat) (hk : k < l.length) : (l.map bsU).getD k ByteArray.empty = bsU l[k] := by simp [hk]
theorem bsU_eq (s : ByteArray) (u : List UInt8) : bsU u = s ↔ u = s.data.toList := by
  constructor
  · intro h; subst h; simp [bsU]
  · intro h; subst h; unfold bsU; cases s; simp
set_option maxHeartbeats 1000000 in
theorem wsHasC (a : Option Addr) (len cap : Nat) (l : List (List UInt8)) (s : ByteArray) (w : World) (h : Strs w a len (l.map bsU)) (hl : len ≤ 1048576) :
    Calls Tryz.prog 48 #[.slice a len cap, .string s] w fun e w' => e = .returned (.bool (decide (s.data.toList ∈ l))) ∧ w' = w := by
  obtain ⟨hn, hc⟩ := h
  rw [List.length_map] at hn
  obtain ⟨bb, hbb⟩ : ∃ b, decide (s.data.toList ∈ l) = b := ⟨_, rfl⟩
  rw [hbb]
  have HB := Lib.hid hbb
  have HN := Lib.hid hn
  clear hbb hn
  go_enter Tryz.func48, Tryz.ntmps48
  go_wp2_with fail
  go_loopw [5] (fun i wr => ∃ k : Nat, k ≤ len ∧ i = .int .i64 k ∧ wr = w ∧ Hid (∀ j, j < k → (l.map bsU).getD j ByteArray.empty ≠ s)) (fun i _ => len - (intOf i).toNat)
  case atStart => exact ⟨0, Nat.zero_le _, rfl, rfl, Lib.hid (fun j hj => by omega)⟩
  case round =>
    obtain ⟨k, hk, rfl, rfl, hno⟩ := hrel
    rcases Nat.lt_or_ge k len with hlt | hge
    · rcases hc with hc | ⟨b, off, rfl, hbl, hcell⟩
      · omega
      have c1 := hcell k hlt
      clear hcell
      have k1 : (k : Int) < len := by omega
      have k0 : (0 : Int) ≤ k := by omega
      by_cases he : (l.map bsU).getD k ByteArray.empty = s
      · have ht : bb = true := by
          rw [← HB.out]
          refine decide_eq_true ?_
          have hk2 : k < l.length := by rw [HN.out]; exact hlt
          rw [bsU_at l k hk2, bsU_eq] at he
          rw [← he]
          exact List.getElem_mem hk2
        subst ht
        rw [he] at c1
        clear he
        go_wp2_with fail
        go_ret
        exact ⟨rfl, rfl⟩
      · have hno2 : Hid (∀ j, j < k + 1 → (l.map bsU).getD j ByteArray.empty ≠ s) := by
          refine Lib.hid (fun j hj => ?_)
          rcases Nat.lt_or_ge j k with h | h
          · exact hno.out j h
          · obtain rfl : j = k := by omega
            exact he
        generalize (l.map bsU).getD k ByteArray.empty = u at *
        have z := nm_neq he
        clear he
        go_wp2_with fail
        go_roundw
        case rel => exact ⟨k + 1, by omega, by go_num, trivial, hno2⟩
        case measure => simp [intOf]; omega
    · obtain rfl : k = len := by omega
      have ht : bb = false := by
        rw [← HB.out]
        refine decide_eq_false (fun hm => ?_)
        obtain ⟨j, hj, e⟩ := List.getElem_of_mem hm
        exact hno.out j (by rw [← HN.out]; exact hj) (by rw [bsU_at l j hj, bsU_eq]; exact e)
      subst ht
      go_wp2
      go_ret
      exact ⟨rfl, rfl⟩
theorem pairsAll {N : Nat → Prop} {w : World} {a : Option Addr} {n : Nat} {l : List (ByteArray × Int)} (h : PairsN N w a n l) : PairsN All w a n l :=
  ⟨h.1, h.2.imp id fun ⟨b, off, k1, k2, k3, k4⟩ => ⟨b, off, k1, trivial, k3, k4⟩⟩
def NmP (ln : Nat) (t : Tr) (W : World) (v : Value) : Prop := ∃ (a : Option Addr) (c : Nat), v = .slice a ln c ∧ Strs W a ln ((namesR t).map bsU)
def SR (M : List Value) (ln : Nat) (t : Tr) (i : Nat) (W : World) (v : Value) : Prop := (i = 11 → NmP ln t W v) ∧ (i ≠ 11 → v = M.getD i (.bool false))
theorem SR.kept {M : List Value} {ln : Nat} {t : Tr} {i : Nat} {W W' : World} {v : Value} (h : SR M ln t i W v) (hB : Below W.heap.size W W') : SR M ln t i W' v :=
  ⟨fun e => by obtain ⟨a, c, e2, hs⟩ := h.1 e; exact ⟨a, c, e2, hs.kept hB⟩, h.2⟩
structure RJ (w0 : World) (M : List Value) (ln : Nat) (t : Tr) (L : Nat → Bool) (f : Nat → Value) (W : World) : Prop where
  below : Below w0.heap.size w0 W
  pre : ∀ i, L i = true → SR M ln t i W (f i)
theorem RJ.op {w0 W W' : World} {M : List Value} {ln : Nat} {t : Tr} {L : Nat → Bool} {f : Nat → Value} (h : RJ w0 M ln t L f W) {i : Nat} {v : Value} (hB : Below W.heap.size W W') (hv : SR M ln t i W' v) : RJ w0 M ln t (upd L i true) (upd f i v) W' := by
  refine ⟨h.below.trans (hB.mono h.below.size), fun j hL => ?_⟩
  by_cases e : j = i
  · subst e; rw [upd_self]; exact hv
  · rw [upd_ne _ _ e] at hL ⊢; exact (h.pre j hL).kept hB
set_option maxRecDepth 20000 in
set_option maxHeartbeats 16000000 in
theorem lawRuleOnly (a0 : Option Addr) (len0 cap0 : Nat) (z0 : List Int) (w : World) (w0 : IsRow .u8 w a0 len0 cap0 z0) (hL : Laid w) :
    Calls Tryz.prog 8 #[.slice a0 len0 cap0] w fun e w' => e = .returned (.bool true) ∧ Below w.heap.size w w' := by
  rcases Nat.lt_or_ge 1048576 len0 with hb0 | hb0
  · clear w0
    go_enter Tryz.func8, Tryz.ntmps8
    go_wp2
    go_ret
    exact ⟨rfl, Below.refl _ _⟩
  have hd := drawRuleOf a0 len0 cap0 z0 w w0
  unfold DrawnRO Fld.val at hd
  have HD := Lib.hid hd
  have HL := Lib.hid hL
  clear w0 hd hL
  go_enter Tryz.func8, Tryz.ntmps8
  go_wp2_with fail
  refine HD.out.mono ?_
  rintro e w1 ⟨t, f, ns, na, nl, nc, fu, rfl, ht, hsz, hp, hn6, hfu, d1⟩
  have hXb := heap_alloc_new w1 (.cells #[.int .i64 0, .int .i64 0, .string ⟨#[]⟩, .slice none 0 0, .slice none 0 0] 38)
  obtain ⟨W2, hW2, hX2, hB2⟩ := box_rule (w1 := w1) f
  obtain ⟨y0, y1, y2, y3, y4⟩ := box_cells (w1 := w1) hX2 (Below.refl _ _)
  have hT2 := ht.kept (same_of_below (N := All) hB2)
  have hP2 := hp.kept (same_of_below (N := All) hB2)
  have hBw := d1.trans (hB2.mono d1.size)
  have HT2 := Lib.hid hT2
  have HP2 := Lib.hid hP2
  have HX2 := Lib.hid hX2
  have HBW := Lib.hid hBw
  have HSZ : Hid (szT t ≤ 1048576) := Lib.hid (by omega)
  have HFU := Lib.hid hfu
  clear HD ht hp d1 hT2 hP2 hX2 hBw hB2 hsz hfu
  rw [hW2] at y0 y1 y2 y3 y4
  have HW2 := Lib.hid hW2
  clear hW2
  go_wp2_with (first
    | (refine wpList_store_row rfl 38 _ _ rfl w1.heap.size #[.int .i64 f.op, .int .i64 f.num, .string f.name, .slice f.ka f.kl f.kc, .slice f.ma f.ml f.mc] rfl rfl 38 #[.int .i64 0, .int .i64 0, .string ⟨#[]⟩, .slice none 0 0, .slice none 0 0] hXb ruleSize rfl (by simp [Value.oneCell']) ?_)
    | fail)
  clear hXb y0 y1 y2 y3 y4
  rw [← HW2.out]
  clear HW2
  have L2 := laid_stays HL.out HBW.out
  have hI := implRuleOf t f ns na nl nc fu W2 HT2.out HSZ.out HP2.out (by omega) L2
  unfold Fld.val at hI
  have HI := Lib.hid hI
  clear hI
  refine HI.out.mono ?_
  rintro e w3 ⟨rfl, d3⟩
  generalize hX : w1.heap.size = X at *
  have HXe := Lib.hid hX
  clear hX
  obtain ⟨y0, y1, y2, y3, y4⟩ := box_cells (w1 := w1) HX2.out d3
  have D3 := Lib.hid d3
  have hS := specRuleOf t f ns na nl nc fu w3 (HT2.out.kept (same_of_below D3.out)) HSZ.out (HP2.out.kept (same_of_below D3.out)) (by omega)
  unfold Fld.val at hS
  have HS := Lib.hid hS
  clear d3 hS HI
  obtain ⟨n, k, hnk⟩ : ∃ n k, ruleOfV t ns fu = (n, k) := ⟨_, _, rfl⟩
  rw [hnk] at HS ⊢
  have HNK := Lib.hid hnk
  clear hnk
  dsimp only at HS ⊢
  go_wp2_with fail
  refine HS.out.mono ?_
  rintro e w4 ⟨rfl, d4⟩
  clear HS y0 y1 y2 y3 y4
  have D4 : Hid (Below W2.heap.size W2 w4) := D3.out.trans (d4.mono D3.out.size)
  clear d4 D3
  obtain ⟨y0, y1, y2, y3, y4⟩ := box_cells (w1 := w1) HX2.out D4.out
  have L4 := laid_stays (laid_stays HL.out HBW.out) D4.out
  have HL4 := Lib.hid L4
  have T4 := HT2.out.kept (same_of_below D4.out)
  have HT4 := Lib.hid T4
  clear L4 T4
  have HP4 := Lib.hid (HP2.out.kept (same_of_below D4.out))
  obtain ⟨ok, hok⟩ : ∃ ok, decide (okR t) = ok := ⟨_, rfl⟩
  have HOKE := Lib.hid hok
  obtain ⟨ln, hln⟩ : ∃ ln, (namesR t).length = ln := ⟨_, rfl⟩
  have HLN := Lib.hid hln
  have HL30 : Hid (ln ≤ 1048576) := Lib.hid (by have := namesR_len t; omega)
  clear hok hln
  have hI := implRuleNames HT4.out HSZ.out HL4.out
  unfold Fld.val NamesP at hI
  have HI := Lib.hid hI
  clear hI
  go_wp2_with fail
  refine HI.out.mono ?_
  rintro e w5 ⟨la, ln', lc, rfl, hl5, hr5, d5⟩
  rw [HLN.out] at hl5
  obtain rfl : ln = ln' := hl5.symm
  have HLS := Lib.hid (row_lies hr5)
  have HX5 := Lib.hid ((d5.block X (by have := (Array.getElem?_eq_some_iff.1 HX2.out).1; have := D4.out.size; omega)).trans ((D4.out.block X (Array.getElem?_eq_some_iff.1 HX2.out).1).trans HX2.out))
  have HT5 := Lib.hid (HT4.out.kept (same_of_below d5))
  have HP5 := Lib.hid (HP4.out.kept (same_of_below d5))
  have HL5 := Lib.hid (laid_stays HL4.out d5)
  have D5 := D4.out.trans (d5.mono D4.out.size)
  have HB5 : Hid (Below w.heap.size w w5) := HBW.out.trans (D5.mono HBW.out.size)
  clear HI hr5 d5 D5 y0 y1 y2 y3 y4 HX2 HT2 HP2 D4 HT4 HL4 HP4 HBW HXe
  have SN : ∀ ww, Below w5.heap.size w5 ww → Calls Tryz.prog 47 #[.agg #[.int .i64 f.op, .int .i64 f.num, .string f.name, .slice f.ka f.kl f.kc, .slice f.ma f.ml f.mc]] ww (SNamesP (namesR t) ww) := fun ww hB => by have hq := specRuleNames (HT5.out.kept (same_of_below hB)) HSZ.out; unfold Fld.val at hq; exact hq
  have IO : ∀ ww, Below w5.heap.size w5 ww → Calls Tryz.prog 37 #[.agg #[.int .i64 f.op, .int .i64 f.num, .string f.name, .slice f.ka f.kl f.kc, .slice f.ma f.ml f.mc]] ww fun e w' => e = .returned (.bool ok) ∧ Below ww.heap.size ww w' := fun ww hB => by have hq := implRuleOk (HT5.out.kept (same_of_below hB)) HSZ.out (laid_stays HL5.out hB); rw [HOKE.out] at hq; unfold Fld.val at hq; exact hq
  have SO : ∀ ww, Below w5.heap.size w5 ww → Calls Tryz.prog 38 #[.agg #[.int .i64 f.op, .int .i64 f.num, .string f.name, .slice f.ka f.kl f.kc, .slice f.ma f.ml f.mc]] ww fun e w' => e = .returned (.bool ok) ∧ Below ww.heap.size ww w' := fun ww hB => by have hq := specRuleOk (HT5.out.kept (same_of_below hB)) HSZ.out; rw [HOKE.out] at hq; unfold Fld.val at hq; exact hq
  go_wp2_with fail
  refine wp_region_invK (by kernel_rfl) (fun _ L fL W => RJ w5 [Value.int .i64 n, .int .i64 n, .bool false, .bool false, .int .i64 k, .int .i64 k, .bool false, .bool false, .bool false, .slice la ln lc, .agg #[.int .i64 f.op, .int .i64 f.num, .string f.name, .slice f.ka f.kl f.kc, .slice f.ma f.ml f.mc], .bool false, .bool true, .bool false, .bool false, .bool false, .agg #[.int .i64 f.op, .int .i64 f.num, .string f.name, .slice f.ka f.kl f.kc, .slice f.ma f.ml f.mc], .bool ok, .agg #[.int .i64 f.op, .int .i64 f.num, .string f.name, .slice f.ka f.kl f.kc, .slice f.ma f.ml f.mc], .bool ok, .bool false, .bool false] ln t L fL W) (by kernel_rfl) ⟨Below.drew (Below.refl _ _), fun _ a => by cases a⟩ ?_
  apply Exists.intro
  apply And.intro
  · intro f
    simp only [over, List.set]
    exact rfl
  refine ⟨?hops, ?hend⟩
  case hops =>
    refine EachOp.cons ?_ (EachOp.cons ?_ (EachOp.cons ?_ (EachOp.cons ?_ (EachOp.cons ?_ (EachOp.cons ?_ (EachOp.cons ?_ (EachOp.cons ?_ (EachOp.cons ?_ (EachOp.cons ?_ (EachOp.cons ?_ (EachOp.cons ?_ (EachOp.cons ?_ (EachOp.cons ?_ (EachOp.cons ?_ (EachOp.cons ?_ (EachOp.cons ?_ (EachOp.cons ?_ (EachOp.cons ?_ (EachOp.cons ?_ (EachOp.cons ?_ (EachOp.cons ?_ (EachOp.nil))))))))))))))))))))))
    · intro L ff kk ww hkk hJ hcl hLi hwt QQ' hQ
      try dsimp only
      go_big_wp2_with fail
      refine hQ _ (.int .i64 n) _ ?_ (hJ.op (Below.refl _ _) ⟨fun e => absurd e (by decide), fun _ => rfl⟩)
      first | rfl | (simp [upd]; done)
    · intro L ff kk ww hkk hJ hcl hLi hwt QQ' hQ
      try dsimp only
      go_big_wp2_with fail
      refine hQ _ (.int .i64 n) _ ?_ (hJ.op (Below.refl _ _) ⟨fun e => absurd e (by decide), fun _ => rfl⟩)
      first | rfl | (simp [upd]; done)
    · intro L ff kk ww hkk hJ hcl hLi hwt QQ' hQ
      try dsimp only
      have c0' : ff 0 = .int .i64 n := (hJ.pre 0 (hwt 0 (by decide))).2 (by decide)
      have c1' : ff 1 = .int .i64 n := (hJ.pre 1 (hwt 1 (by decide))).2 (by decide)
      go_big_wp2_with fail
      refine hQ _ (.bool false) _ ?_ (hJ.op (Below.refl _ _) ⟨fun e => absurd e (by decide), fun _ => rfl⟩)
      first | rfl | (simp [upd, c0', c1']; done)
    · intro L ff kk ww hkk hJ hcl hLi hwt QQ' hQ
      try dsimp only
      have c2' : ff 2 = .bool false := (hJ.pre 2 (hwt 2 (by decide))).2 (by decide)
      go_big_wp2_with fail
      refine hQ _ (.bool false) _ ?_ (hJ.op (Below.refl _ _) ⟨fun e => absurd e (by decide), fun _ => rfl⟩)
      first | rfl | (simp [upd, c2']; done)
    · intro L ff kk ww hkk hJ hcl hLi hwt QQ' hQ
      try dsimp only
      have c3' : ff 3 = .bool false := (hJ.pre 3 (hwt 3 (by decide))).2 (by decide)
      go_big_wp2_with fail
      refine hQ _ (.int .i64 k) _ ?_ (hJ.op (Below.refl _ _) ⟨fun e => absurd e (by decide), fun _ => rfl⟩)
      first | rfl | (simp [upd, c3']; done)
    · intro L ff kk ww hkk hJ hcl hLi hwt QQ' hQ
      try dsimp only
      have c3' : ff 3 = .bool false := (hJ.pre 3 (hwt 3 (by decide))).2 (by decide)
      go_big_wp2_with fail
      refine hQ _ (.int .i64 k) _ ?_ (hJ.op (Below.refl _ _) ⟨fun e => absurd e (by decide), fun _ => rfl⟩)
      first | rfl | (simp [upd, c3']; done)
    · intro L ff kk ww hkk hJ hcl hLi hwt QQ' hQ
      try dsimp only
      have c3' : ff 3 = .bool false := (hJ.pre 3 (hwt 3 (by decide))).2 (by decide)
      have c4' : ff 4 = .int .i64 k := (hJ.pre 4 (hwt 4 (by decide))).2 (by decide)
      have c5' : ff 5 = .int .i64 k := (hJ.pre 5 (hwt 5 (by decide))).2 (by decide)
      go_big_wp2_with fail
      refine hQ _ (.bool false) _ ?_ (hJ.op (Below.refl _ _) ⟨fun e => absurd e (by decide), fun _ => rfl⟩)
      first | rfl | (simp [upd, c3', c4', c5']; done)
    · intro L ff kk ww hkk hJ hcl hLi hwt QQ' hQ
      try dsimp only
      have c3' : ff 3 = .bool false := (hJ.pre 3 (hwt 3 (by decide))).2 (by decide)
      have c6' : ff 6 = .bool false := (hJ.pre 6 (hwt 6 (by decide))).2 (by decide)
      go_big_wp2_with fail
      refine hQ _ (.bool false) _ ?_ (hJ.op (Below.refl _ _) ⟨fun e => absurd e (by decide), fun _ => rfl⟩)
      first | rfl | (simp [upd, c3', c6']; done)
    · intro L ff kk ww hkk hJ hcl hLi hwt QQ' hQ
      try dsimp only
      have c7' : ff 7 = .bool false := (hJ.pre 7 (hwt 7 (by decide))).2 (by decide)
      go_big_wp2_with fail
      refine hQ _ (.bool false) _ ?_ (hJ.op (Below.refl _ _) ⟨fun e => absurd e (by decide), fun _ => rfl⟩)
      first | rfl | (simp [upd, c7']; done)
    · intro L ff kk ww hkk hJ hcl hLi hwt QQ' hQ
      try dsimp only
      have c8' : ff 8 = .bool false := (hJ.pre 8 (hwt 8 (by decide))).2 (by decide)
      go_big_wp2_with fail
      refine hQ _ (.slice la ln lc) _ ?_ (hJ.op (Below.refl _ _) ⟨fun e => absurd e (by decide), fun _ => rfl⟩)
      first | rfl | (simp [upd, c8']; done)
    · intro L ff kk ww hkk hJ hcl hLi hwt QQ' hQ
      try dsimp only
      have c8' : ff 8 = .bool false := (hJ.pre 8 (hwt 8 (by decide))).2 (by decide)
      obtain ⟨z0, z1, z2, z3, z4⟩ := box_cells (w1 := w1) HX5.out hJ.below
      go_big_wp2_with fail
      refine hQ _ (.agg #[.int .i64 f.op, .int .i64 f.num, .string f.name, .slice f.ka f.kl f.kc, .slice f.ma f.ml f.mc]) _ ?_ (hJ.op (Below.refl _ _) ⟨fun e => absurd e (by decide), fun _ => rfl⟩)
      first | rfl | (simp [upd, c8']; done)
    · intro L ff kk ww hkk hJ hcl hLi hwt QQ' hQ
      try dsimp only
      have c8' : ff 8 = .bool false := (hJ.pre 8 (hwt 8 (by decide))).2 (by decide)
      have c10' : ff 10 = .agg #[.int .i64 f.op, .int .i64 f.num, .string f.name, .slice f.ka f.kl f.kc, .slice f.ma f.ml f.mc] := (hJ.pre 10 (hwt 10 (by decide))).2 (by decide)
      go_big_wp2_with fail
      refine (SN ww hJ.below).mono ?_
      rintro e wa ⟨a9, n9, c9, rfl, hn9, hS9, d9⟩
      rw [HLN.out] at hn9
      obtain rfl : ln = n9 := hn9.symm
      go_big_wp2_with fail
      refine hQ _ (.slice a9 ln c9) wa ?_ (hJ.op d9 ⟨fun _ => ⟨a9, c9, rfl, hS9⟩, fun e => absurd rfl e⟩)
      first | rfl | (simp [upd, c8', c10']; done)
    · intro L ff kk ww hkk hJ hcl hLi hwt QQ' hQ
      try dsimp only
      have c8' : ff 8 = .bool false := (hJ.pre 8 (hwt 8 (by decide))).2 (by decide)
      have c9' : ff 9 = .slice la ln lc := (hJ.pre 9 (hwt 9 (by decide))).2 (by decide)
      obtain ⟨a9, c9, c11, hS9⟩ := (hJ.pre 11 (hwt 11 (by decide))).1 rfl
      go_big_wp2_with fail
      refine (wsWordsS la a9 ln lc c9 ((namesR t).map bsU) ww (HLS.out.kept hJ.below) hS9 HL30.out).mono ?_
      rintro e wa ⟨rfl, q, rfl⟩
      go_big_wp2_with fail
      refine hQ _ (.bool true) _ ?_ (hJ.op ⟨rfl, rfl, rfl, Nat.le_refl _, fun _ _ => rfl⟩ ⟨fun e => absurd e (by decide), fun _ => rfl⟩)
      first | rfl | (simp [upd, c8', c9', c11]; done)
    · intro L ff kk ww hkk hJ hcl hLi hwt QQ' hQ
      try dsimp only
      have c8' : ff 8 = .bool false := (hJ.pre 8 (hwt 8 (by decide))).2 (by decide)
      have c12' : ff 12 = .bool true := (hJ.pre 12 (hwt 12 (by decide))).2 (by decide)
      go_big_wp2_with fail
      refine hQ _ (.bool false) _ ?_ (hJ.op (Below.refl _ _) ⟨fun e => absurd e (by decide), fun _ => rfl⟩)
      first | rfl | (simp [upd, c8', c12']; done)
    · intro L ff kk ww hkk hJ hcl hLi hwt QQ' hQ
      try dsimp only
      have c8' : ff 8 = .bool false := (hJ.pre 8 (hwt 8 (by decide))).2 (by decide)
      have c13' : ff 13 = .bool false := (hJ.pre 13 (hwt 13 (by decide))).2 (by decide)
      go_big_wp2_with fail
      refine hQ _ (.bool false) _ ?_ (hJ.op (Below.refl _ _) ⟨fun e => absurd e (by decide), fun _ => rfl⟩)
      first | rfl | (simp [upd, c8', c13']; done)
    · intro L ff kk ww hkk hJ hcl hLi hwt QQ' hQ
      try dsimp only
      have c14' : ff 14 = .bool false := (hJ.pre 14 (hwt 14 (by decide))).2 (by decide)
      go_big_wp2_with fail
      refine hQ _ (.bool false) _ ?_ (hJ.op (Below.refl _ _) ⟨fun e => absurd e (by decide), fun _ => rfl⟩)
      first | rfl | (simp [upd, c14']; done)
    · intro L ff kk ww hkk hJ hcl hLi hwt QQ' hQ
      try dsimp only
      have c15' : ff 15 = .bool false := (hJ.pre 15 (hwt 15 (by decide))).2 (by decide)
      obtain ⟨z0, z1, z2, z3, z4⟩ := box_cells (w1 := w1) HX5.out hJ.below
      go_big_wp2_with fail
      refine hQ _ (.agg #[.int .i64 f.op, .int .i64 f.num, .string f.name, .slice f.ka f.kl f.kc, .slice f.ma f.ml f.mc]) _ ?_ (hJ.op (Below.refl _ _) ⟨fun e => absurd e (by decide), fun _ => rfl⟩)
      first | rfl | (simp [upd, c15']; done)
    · intro L ff kk ww hkk hJ hcl hLi hwt QQ' hQ
      try dsimp only
      have c15' : ff 15 = .bool false := (hJ.pre 15 (hwt 15 (by decide))).2 (by decide)
      have c16' : ff 16 = .agg #[.int .i64 f.op, .int .i64 f.num, .string f.name, .slice f.ka f.kl f.kc, .slice f.ma f.ml f.mc] := (hJ.pre 16 (hwt 16 (by decide))).2 (by decide)
      go_big_wp2_with fail
      refine (IO ww hJ.below).mono ?_
      rintro e wa ⟨rfl, d9⟩
      go_big_wp2_with fail
      refine hQ _ (.bool ok) wa ?_ (hJ.op d9 ⟨fun e => absurd e (by decide), fun _ => rfl⟩)
      first | rfl | (simp [upd, c15', c16']; done)
    · intro L ff kk ww hkk hJ hcl hLi hwt QQ' hQ
      try dsimp only
      have c15' : ff 15 = .bool false := (hJ.pre 15 (hwt 15 (by decide))).2 (by decide)
      obtain ⟨z0, z1, z2, z3, z4⟩ := box_cells (w1 := w1) HX5.out hJ.below
      go_big_wp2_with fail
      refine hQ _ (.agg #[.int .i64 f.op, .int .i64 f.num, .string f.name, .slice f.ka f.kl f.kc, .slice f.ma f.ml f.mc]) _ ?_ (hJ.op (Below.refl _ _) ⟨fun e => absurd e (by decide), fun _ => rfl⟩)
      first | rfl | (simp [upd, c15']; done)
    · intro L ff kk ww hkk hJ hcl hLi hwt QQ' hQ
      try dsimp only
      have c15' : ff 15 = .bool false := (hJ.pre 15 (hwt 15 (by decide))).2 (by decide)
      have c18' : ff 18 = .agg #[.int .i64 f.op, .int .i64 f.num, .string f.name, .slice f.ka f.kl f.kc, .slice f.ma f.ml f.mc] := (hJ.pre 18 (hwt 18 (by decide))).2 (by decide)
      go_big_wp2_with fail
      refine (SO ww hJ.below).mono ?_
      rintro e wa ⟨rfl, d9⟩
      go_big_wp2_with fail
      refine hQ _ (.bool ok) wa ?_ (hJ.op d9 ⟨fun e => absurd e (by decide), fun _ => rfl⟩)
      first | rfl | (simp [upd, c15', c18']; done)
    · intro L ff kk ww hkk hJ hcl hLi hwt QQ' hQ
      try dsimp only
      have c15' : ff 15 = .bool false := (hJ.pre 15 (hwt 15 (by decide))).2 (by decide)
      have c17' : ff 17 = .bool ok := (hJ.pre 17 (hwt 17 (by decide))).2 (by decide)
      have c19' : ff 19 = .bool ok := (hJ.pre 19 (hwt 19 (by decide))).2 (by decide)
      go_big_wp2_with fail
      refine hQ _ (.bool false) _ ?_ (hJ.op (Below.refl _ _) ⟨fun e => absurd e (by decide), fun _ => rfl⟩)
      first | rfl | (cases ok <;> rfl) | (simp [upd, c15', c17', c19']; done)
    · intro L ff kk ww hkk hJ hcl hLi hwt QQ' hQ
      try dsimp only
      have c15' : ff 15 = .bool false := (hJ.pre 15 (hwt 15 (by decide))).2 (by decide)
      have c20' : ff 20 = .bool false := (hJ.pre 20 (hwt 20 (by decide))).2 (by decide)
      go_big_wp2_with fail
      refine hQ _ (.bool false) _ ?_ (hJ.op (Below.refl _ _) ⟨fun e => absurd e (by decide), fun _ => rfl⟩)
      first | rfl | (simp [upd, c15', c20']; done)
  case hend =>
  intro L ff kk w6 hkb hL hJ
  try dsimp only
  have c21 : ff 21 = .bool false := (hJ.pre 21 (hL 21 (by decide))).2 (by decide)
  rw [c21]
  have D6 := hJ.below
  clear SN IO SO hJ hL c21
  have HLS6 := Lib.hid (HLS.out.kept D6)
  have HX6 := Lib.hid ((D6.block X (Array.getElem?_eq_some_iff.1 HX5.out).1).trans HX5.out)
  have HT6 := Lib.hid (HT5.out.kept (same_of_below D6))
  have HP6 := Lib.hid (HP5.out.kept (same_of_below D6))
  have HL6 := Lib.hid (laid_stays HL5.out D6)
  have HB6 : Hid (Below w.heap.size w w6) := HB5.out.trans (D6.mono HB5.out.size)
  clear HLS HX5 HT5 HP5 HL5 HB5 D6
  obtain ⟨i0, hi, hz0, hz1, hz2⟩ := info_parts infoPairD
  have HI0 := Lib.hid hi
  have HZ0 := Lib.hid hz0
  have HZ1 := Lib.hid hz1
  have HZ2 := Lib.hid hz2
  clear hi hz0 hz1 hz2
  have hown0 : (w6.alloc (.cells #[] 65)).ownsRow w6.heap.size 65 2 (.slice (some ⟨w6.heap.size, 0, none⟩) 0 0) 0 (cellsP []) := World.ownsRow_made w6 #[] 0 (Nat.le_refl _) (by unfold maxLen; omega) rfl
  have O0 := Lib.hid hown0
  have B0 : Hid (Below w6.heap.size w6 (w6.alloc (.cells #[] 65))) := Lib.hid ((Below.refl _ _).alloc (Nat.le_refl _) _)
  clear hown0
  go_wp2_with fail
  generalize w6.alloc (.cells #[] 65) = W0 at *
  go_loopw [11, 12] (fun vo vi wr => ∃ (i m c : Nat) (a : Option Addr), i ≤ nl ∧ vi = .int .i64 i ∧ vo = .slice a m c ∧ m ≤ i ∧ Hid (m = ((ns.take i).filter fun p => decide (p.1.data.toList ∈ namesR t)).length) ∧ Hid (wr.ownsRow w6.heap.size 65 2 (.slice a m c) m (cellsP ((ns.take i).filter fun p => decide (p.1.data.toList ∈ namesR t)))) ∧ Hid (Below w6.heap.size w6 wr)) (fun _ vi _ => nl - (intOf vi).toNat)
  case atStart => exact ⟨0, 0, 0, some ⟨w6.heap.size, 0, none⟩, Nat.zero_le _, rfl, rfl, Nat.le_refl _, Lib.hid rfl, O0, B0⟩
  case round =>
    obtain ⟨i, m, c, a, hi, rfl, rfl, hmi, hml, hO, hB⟩ := hrel
    rcases Nat.lt_or_ge i nl with hlt | hge
    · obtain ⟨pb, po, rfl, hpl, hpc⟩ := HP6.out.row (by omega)
      obtain ⟨x0', x1'⟩ := hpc i hlt
      have hil : i < ns.length := by have := HP6.out.1; omega
      have eg : ns.getD i (⟨#[]⟩, 0) = ns[i] := by simp [hil]
      rw [eg] at x0' x1'
      have x0 := (hB.out.cell (World.block_lt_of_cell? _ _ x0')).trans x0'
      have x1 := (hB.out.cell (World.block_lt_of_cell? _ _ x1')).trans x1'
      have htk : ns.take (i + 1) = ns.take i ++ [ns[i]] := List.take_succ_eq_append_getElem hil
      have HTK := Lib.hid htk
      generalize ns[i] = p at *
      obtain ⟨s, x⟩ := p
      dsimp only at x0 x1
      have hH := wsHasC la ln lc (namesR t) s wr (HLS6.out.kept hB.out) HL30.out
      have HH := Lib.hid hH
      have k1 : (i : Int) < nl := by omega
      have k0 : (0 : Int) ≤ i := by omega
      clear hH hpc x0' x1' eg htk
      cases hin : decide (s.data.toList ∈ namesR t) with
      | false =>
        rw [hin] at HH
        have HFE : Hid ((ns.take (i + 1)).filter (fun p => decide (p.1.data.toList ∈ namesR t)) = (ns.take i).filter (fun p => decide (p.1.data.toList ∈ namesR t))) := by
          refine Lib.hid ?_
          rw [HTK.out, List.filter_append]
          simp at hin
          simp [hin]
        clear hin
        go_wp2_with fail
        refine HH.out.mono ?_
        rintro e w7 ⟨rfl, rfl⟩
        go_wp2_with fail
        go_roundw
        case rel => exact ⟨_, _, _, _, _, _, _, _, _, _, _, _, _, _, _, _, _, _, _, _, _, _, ⟨i + 1, m, c, a, by omega, by go_num, rfl, by omega, Lib.hid (by rw [HFE.out]; exact hml.out), Lib.hid (by rw [HFE.out]; exact hO.out), hB⟩, rfl⟩
        case measure => simp [intOf]; omega
      | true =>
        rw [hin] at HH
        have HFE : Hid ((ns.take (i + 1)).filter (fun p => decide (p.1.data.toList ∈ namesR t)) = (ns.take i).filter (fun p => decide (p.1.data.toList ∈ namesR t)) ++ [(s, x)]) := by
          refine Lib.hid ?_
          rw [HTK.out, List.filter_append]
          simp at hin
          simp [hin]
        have hO2 := own_rowKept (row := none) hO.out (grown_any ((Below.refl _ _).alloc (Nat.le_refl _) (.cells #[.string s, .int .i64 x] 65))) (fun b e => by cases e)
        have HO2 := Lib.hid hO2
        have HBS : Hid (w6.heap.size ≤ (wr.alloc (.cells #[.string s, .int .i64 x] 65)).heap.size) := Lib.hid (by have := hB.out.size; simp only [World.size_alloc]; omega)
        clear hin hO2
        go_wp2_with fail
        refine HH.out.mono ?_
        rintro e w7 ⟨rfl, rfl⟩
        go_wp2_with (first
          | (refine wpList_append_lies (w7.alloc (.cells #[.string s, .int .i64 x] 65)) rfl _ _ 30 rfl w6.heap.size 65 i0 (.agg #[.string ⟨#[]⟩, .int .i64 0]) 2 24 Tryz.underlying30 HI0.out HZ0.out HZ1.out HZ2.out rfl (by decide) (.slice a m c) m (cellsP ((ns.take i).filter (fun p => decide (p.1.data.toList ∈ namesR t)))) rfl HO2.out ⟨w7.heap.size, 0, none⟩ 1 1 [.string s, .int .i64 x] rfl rfl news_pair (by intro u hu; simp at hu; rcases hu with rfl | rfl <;> rfl) (by decide) (by unfold maxLen; omega) (by omega) HBS.out _ rfl ?_)
          | fail)
        intro g2 cp2 w8 ho hg hat hlt2
        have hB8 := (hB.out.alloc hB.out.size (.cells #[.string s, .int .i64 x] 65)).grown hg HBS.out (fun y e => (HO2.out.lt y e).1)
        rw [cellsP_snoc] at ho
        have HO8 := Lib.hid ho
        have HB8 := Lib.hid hB8
        clear ho hg hat hlt2 hB8 HO2
        go_wp2_with fail
        go_roundw
        case rel => exact ⟨_, _, _, _, _, _, _, _, _, _, _, _, _, _, _, _, _, _, _, _, _, _, ⟨i + 1, m + 1, cp2, some ⟨g2, 0, none⟩, by omega, by go_num, rfl, by omega, Lib.hid (by rw [HFE.out, List.length_append, ← hml.out]; rfl), Lib.hid (by rw [HFE.out]; exact HO8.out), HB8⟩, rfl⟩
        case measure => simp [intOf]; omega
    · obtain rfl : i = nl := by omega
      have htk : ns.take i = ns := by rw [HP6.out.1]; exact List.take_length
      rw [htk] at hml hO
      have hO3 := hO.out
      rw [hml.out] at hO3
      have hm3 := hml.out
      have hpa : PairsN All wr a m (ns.filter (fun p => decide (p.1.data.toList ∈ namesR t))) := pairsAll (pairsN_own (c := c) (by rw [← hm3]; exact hO.out)).2
      have hq := implRuleOf t f (ns.filter (fun p => decide (p.1.data.toList ∈ namesR t))) a m c fu wr (HT6.out.kept (same_of_below hB.out)) HSZ.out hpa (by omega) (laid_stays HL6.out hB.out)
      rw [only_law, HNK.out] at hq
      unfold Fld.val at hq
      have HQ := Lib.hid hq
      obtain ⟨y0, y1, y2, y3, y4⟩ := box_cells (w1 := w1) HX6.out hB.out
      have HBE : Hid (Below w.heap.size w wr) := HB6.out.trans (hB.out.mono HB6.out.size)
      clear hq hO3 hO hml htk hm3 hpa
      go_wp2_with fail
      refine HQ.out.mono ?_
      rintro e w9 ⟨rfl, d9⟩
      have HB9 := Lib.hid (HBE.out.trans (d9.mono HBE.out.size))
      clear d9 y0 y1 y2 y3 y4
      go_wp2_with fail
      go_ret
      exact ⟨rfl, HB9.out⟩
end Go.Proofs.YtemjooejfmkkbaaGreatDoor
