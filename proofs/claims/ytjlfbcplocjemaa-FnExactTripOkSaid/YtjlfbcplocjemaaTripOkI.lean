/-
  Whether a trip can be made in a net: the program.
-/
import Derived.Test.YtjlfbcplocjemaaTripWay
import Derived.Test.YtjlfbcplocjemaaNetOk
import Derived.Test.YtjlfbcplocjemaaNetCopy
import Derived.Laws.OwnMore
import Derived.Deep.AppendLies
namespace Go.Proofs.Ytjlfbcplocjemaa
open Go.RowKit
set_option linter.unusedVariables false
set_option linter.unusedSimpArgs false

/-- When a trip can be made in a net. -/
def TripD (n : Nat) (ds : Nat → LegD) (ss : List ByteArray) (f : ByteArray) (m : Int) : Prop := NetD n ds ∧ FormOk ss f m ∧ LegsGo ds n ss ss.length
def LegsPost (S : Prop) (w : World) (e : Ending) (w' : World) : Prop := ∃ (v : Value) (b : Bool), e = .returned (.tuple #[v, .bool b]) ∧ Hid (b = true ↔ S) ∧ Below w.heap.size w w'
theorem news_legT (w : World) (d : LegD) (p : LegP) : ∀ j u, (LegC d p).toList[j]? = some u → (w.alloc (.cells (LegC d p) 34)).cell? ((⟨w.heap.size, 0, none⟩ : Addr).add j) = some u := by
  intro j u hj
  have e : (⟨w.heap.size, 0, none⟩ : Addr).add j = ⟨w.heap.size, j, none⟩ := by by_cases h0 : j = 0 <;> simp [Addr.add, h0]
  have h := LegBox.new w d p
  rw [e, Lib.cell_of_heap h]
  simpa using hj
theorem one_legT (d : LegD) (p : LegP) : ∀ u ∈ (LegC d p).toList, u.oneCell' = true := by
  intro u hu
  have h := leg_one d p
  rw [Array.all_eq_true_iff_forall_mem] at h
  exact h u (by simpa using hu)
/-- The last leg of those that are gathered is the one that the trip came with last. -/
def LastIs (ds : Nat → LegD) (ps : Nat → LegP) (n : Nat) (ss : List ByteArray) (k : Nat) (xs : List Value) : Prop := 0 < k → ∀ m, AtLeg ds n (legAt ss (k - 1)) m → ∀ q, q < 10 → xs[(k - 1) * 10 + q]? = (LegC (ds m) (ps m))[q]?
theorem last_next {ds : Nat → LegD} {ps : Nat → LegP} {n : Nat} {ss : List ByteArray} {k j : Nat} {xs : List Value} (hx : xs.length = k * 10) (hj : AtLeg ds n (legAt ss k) j) : LastIs ds ps n ss (k + 1) (xs ++ (LegC (ds j) (ps j)).toList) := by
  intro _ m hm q hq
  rw [Nat.add_sub_cancel] at hm ⊢
  rw [at_one hm hj, List.getElem?_append_right (by omega), hx, Nat.add_sub_cancel_left]
  simp
def SWi (ds : Nat → LegD) (ps : Nat → LegP) (j k m n cap b off g gc : Nat) (gb : Bool) (i : Nat) (W : World) (v : Value) : Prop := match i with
  | 0 => v = .int .i64 (j : Int)
  | 1 => v = .bool false
  | 2 => v = .bool false
  | 3 => v = .int .i64 ((k : Int) + 1)
  | 4 => v = .bool true
  | 5 => v = .bool true
  | 6 => v = .slice (some ⟨g, 0, none⟩) (k + 1) gc
  | 7 => v = .int .i64 ((k : Int) + 1)
  | 8 => v = .int .i64 (k : Int)
  | 9 => v = .pointer (some ⟨g, k * 10, none⟩)
  | 10 => v = LegV (ds m) (ps m)
  | 11 => v = .slice (some ⟨b, off, none⟩) n cap
  | 12 => v = .int .i64 (j : Int)
  | 13 => v = .pointer (some ⟨b, off + j * 10, none⟩)
  | 14 => v = LegV (ds j) (ps j)
  | 15 => v = .bool gb
  | 16 => v = .bool (!gb)
  | 17 => v = .bool (!gb)
  | 18 => v = .bool (!gb)
  | _ => True
set_option maxRecDepth 100000 in
set_option maxHeartbeats 16000000 in
theorem legsI (a : Option Addr) (n cap : Nat) (ds : Nat → LegD) (ps : Nat → LegP) (ta : Option Addr) (tcap : Nat) (ss : List ByteArray) (f : ByteArray) (m : Int) (w : World) (h : Legs w a n ds ps) (hf : ∀ i, i < n → Fits (ds i)) (hc : ∀ i, i < n → (ds i).nS ≤ (ps i).cS) (hlc : n ≤ cap) (hcm : cap ≤ 1048576) (hl : n ≤ 1048576) (hs : Strs w ta ss.length ss) (hsc : ss.length ≤ tcap) (hsl : ss.length ≤ 1048576) (hss : ∀ i, i < ss.length → (legAt ss i).size ≤ 1048576) (hfz : f.size ≤ 1048576) :
    Calls Try.prog 20 #[.slice a n cap, .agg #[.slice ta ss.length tcap, .string f, .int .i64 m]] w (LegsPost (TripD n ds ss f m) w) := by
  obtain ⟨i0, hi, hz0, hz1, hz2⟩ := info_parts infoLegF
  have HFm : Hid (∀ W, Strs W ta ss.length ss → Calls Try.prog 39 #[.agg #[.slice ta ss.length tcap, .string f, .int .i64 m]] W (FormPost ss f m W)) := fun W q => formI ta tcap ss f m W q hsc hsl hss hfz
  have HNet : Hid (∀ W, Legs W a n ds ps → Calls Try.prog 8 #[.slice a n cap] W (OkPost (NetD n ds) (Below W.heap.size W))) := fun W q => netI a n cap ds ps W q hf hc hl hlc hcm
  have HS := Lib.hid hs
  have H := Lib.hid h
  clear hs h hss hf hc
  unfold TripD
  generalize hlen : ss.length = len at *
  clear hlen
  have hbA : Below w.heap.size w (w.alloc (.cells #[.slice ta len tcap, .string f, .int .i64 m] 26)) := (Below.refl _ _).alloc (Nat.le_refl _) _
  have HbA := Lib.hid hbA
  have HA := Lib.hid (heap_alloc_new w (.cells #[.slice ta len tcap, .string f, .int .i64 m] 26))
  clear hbA
  go_enter Try.func20, Try.ntmps20
  go_wp2_with fail
  refine (HNet.out _ (H.out.kept HbA.out)).mono ?_
  rintro e w1 ⟨b1, rfl, hb1, d1⟩
  have HB1 := Lib.hid (bt HbA.out d1)
  have HX1 := Lib.hid ((d1.block _ (by simp)).trans HA.out)
  clear d1
  cases b1 with
  | false =>
    have hno : Hid (¬ (NetD n ds ∧ FormOk ss f m ∧ LegsGo ds n ss len)) := fun q => by have := hb1.out.2 q.1; cases this
    go_wp2
    go_ret2
    exact ⟨_, false, rfl, ⟨fun q => (by cases q), fun q => absurd q hno.out⟩, HB1.out⟩
  | true =>
    have HND := Lib.hid (hb1.out.1 rfl)
    obtain ⟨x0, x1, x2⟩ := row3 HX1.out
    clear hb1
    go_wp2_with fail
    refine (HFm.out _ (HS.out.kept HB1.out)).mono ?_
    rintro e w2 ⟨b2, rfl, hb2, d2⟩
    have HB2 := Lib.hid (bt HB1.out d2)
    have HX2 := Lib.hid ((d2.block _ (lt_heap HX1.out)).trans HX1.out)
    clear d2 x0 x1 x2
    cases b2 with
    | false =>
      have hno : Hid (¬ (NetD n ds ∧ FormOk ss f m ∧ LegsGo ds n ss len)) := fun q => by have := hb2.out.2 q.2.1; cases this
      go_wp2
      go_ret2
      exact ⟨_, false, rfl, ⟨fun q => (by cases q), fun q => absurd q hno.out⟩, HB2.out⟩
    | true =>
      have HFO := Lib.hid (hb2.out.1 rfl)
      have x0 := (row3 HX2.out).1
      clear hb2
      go_wp2_with fail
      go_loopw [6, 21] (fun vl vi wr => ∃ (k : Nat) (xs : List Value) (lv : Value), k ≤ len ∧ vi = .int .i64 k ∧ lv = vl ∧ wr.ownsRow (w.heap.size + 1) 34 10 lv k xs ∧ Hid (LastIs ds ps n ss k xs) ∧ Hid (LegsGo ds n ss k) ∧ Hid (wr.heap[w.heap.size]? = some (.cells #[.slice ta len tcap, .string f, .int .i64 m] 26 (0, 0))) ∧ Below w.heap.size w wr) (fun _ vi _ => len - (intOf vi).toNat)
      case atStart => exact ⟨0, [], _, Nat.zero_le _, rfl, rfl, ⟨rfl, .inl ⟨rfl, rfl⟩⟩, fun q => absurd q (Nat.lt_irrefl _), fun i hi => absurd hi (Nat.not_lt_zero _), HX2.out, HB2.out⟩
      case round =>
        obtain ⟨k, xs, vl, hk, rfl, rfl, hown, hlast, hway, HX, hb⟩ := hrel
        clear x0
        clear HB1 HX1 HB2 HX2
        rcases Nat.lt_or_ge k len with hlt | hge
        · obtain ⟨tb, to, hta, htl, hcell⟩ := (HS.out.kept hb).cells (by omega)
          subst hta
          have HB := Lib.hid hb
          have HOWN := Lib.hid hown
          have HN := Lib.hid (H.out.kept hb)
          have t0 := hcell k hlt
          have hk1 : (k : Int) < len := by omega
          have hk0 : (0 : Int) ≤ k := by omega
          clear hb hcell hown htl
          go_wp2_with fail
          refine (placeI _ n cap ds ps (legAt ss k) wr HN.out hl).mono ?_
          rintro e w1 ⟨r, rfl, hr, d1⟩
          have HB1 := Lib.hid (bt HB.out d1)
          have HX1 := Lib.hid ((d1.block _ (lt_heap HX.out)).trans HX.out)
          have HN1 := Lib.hid (HN.out.kept d1)
          have HO1 : Hid (w1.ownsRow (w.heap.size + 1) 34 10 vl k xs) := HOWN.out.kept (row := none) ⟨d1.os, d1.tape, d1.output, d1.size, fun i hi _ => d1.block i hi⟩ (by cases hv : vl.ownBlock <;> simp)
          clear d1 t0 HB HX HN HOWN
          rcases Int.lt_or_le r 0 with c | c
          · have hno : Hid (¬ (NetD n ds ∧ FormOk ss f m ∧ LegsGo ds n ss len)) := fun q => way_none hlt (place_none hr.out c) q.2.2
            have z1 : decide (r < 0) = true := decide_eq_true c
            clear hr
            go_wp2_with fail
            go_quiet (fail)
            go_wp2
            go_ret2
            exact ⟨_, false, rfl, ⟨fun q => (by cases q), fun q => absurd q hno.out⟩, belowN HB1.out _⟩
          obtain ⟨j, rfl, hat⟩ := place_some hr.out c
          have HJ := Lib.hid hat
          clear hr c hat
          have z1 : decide ((j : Int) < 0) = false := decide_eq_false (by omega)
          have hjn := HJ.out.1
          have i1 : (j : Int) < (n : Int) := by omega
          have i0j : (0 : Int) ≤ (j : Int) := by omega
          have HXL : Hid (xs.length = k * 10) := HO1.out.1
          rcases Nat.eq_zero_or_pos k with h0 | h0
          · subst h0
            rcases HN1.out with hc | ⟨b, off, ha, hbl, hrow⟩
            · omega
            subst ha
            have HRJ := Lib.hid (hrow j hjn).1
            have HLB := Lib.hid hbl
            clear hbl hrow
            go_wp2_with fail
            go_quiet (fail)
            have hq2 : Below w1.heap.size w1 (w1.drewN nq) := belowN (Below.refl _ _) nq
            have HX2 : Hid ((w1.drewN nq).heap[w.heap.size]? = some (.cells #[.slice (some ⟨tb, to, none⟩) len tcap, .string f, .int .i64 m] 26 (0, 0))) := HX1.out
            generalize w1.drewN nq = w2 at *
            have HB2 := Lib.hid (bt HB1.out hq2)
            have HO2 : Hid (w2.ownsRow (w.heap.size + 1) 34 10 vl 0 xs) := HO1.out.kept (row := none) ⟨hq2.os, hq2.tape, hq2.output, hq2.size, fun i hi _ => hq2.block i hi⟩ (by cases hv : vl.ownBlock <;> simp)
            have HZ := HRJ.out.kept HLB.out hq2
            have z0 := HZ.c0
            have z1 := HZ.c1
            have z2 := HZ.c2
            have z3 := HZ.c3
            have z4 := HZ.c4
            have z5 := HZ.c5
            have z6 := HZ.c6
            have z7 := HZ.c7
            have z8 := HZ.c8
            have z9 := HZ.c9
            clear HZ hq2 HO1
            go_wp2_with (at_builtin; go_must (refine wpList_append_own _ rfl _ _ 23 rfl (w.heap.size + 1) 34 i0 (.agg #[.string ⟨#[]⟩, .string ⟨#[]⟩, .string ⟨#[]⟩, .int .i64 0, .int .i64 0, .int .i64 0, .slice none 0 0, .slice none 0 0, .slice none 0 0, .slice none 0 0]) 10 168 Try.underlying23 hi hz0 hz1 hz2 rfl (by decide) _ _ _ rfl (HO2.out.alloc _) ⟨w2.heap.size, 0, none⟩ 1 1 (LegC (ds j) (ps j)).toList rfl rfl ?p1 ?p2 ?p3 ?p4 ?p5 ?_); (case p1 => go_must (exact news_legT w2 (ds j) (ps j))); (case p2 => go_must (exact one_legT (ds j) (ps j))); (case p3 => go_must (unfold maxLen; omega)); (case p4 => go_must (omega)); (case p5 => go_must (have := HB2.out.size; simp only [World.size_alloc]; omega)); intro v' w9 hown9 hgrow9 hnil9)
            have HB9 : Hid (Below w.heap.size w w9) := (HB2.out.alloc HB2.out.size _).grown hgrow9 (by have := HB2.out.size; simp only [World.size_alloc]; omega) (fun q e => by have := (HO2.out.lt q e).1; omega)
            have HX9 : Hid (w9.heap[w.heap.size]? = some (.cells #[.slice (some ⟨tb, to, none⟩) len tcap, .string f, .int .i64 m] 26 (0, 0))) := (hgrow9.block _ (by have := lt_heap HX2.out; simp only [World.size_alloc]; omega) (fun e => by have := (HO2.out.lt _ e.symm).1; omega)).trans ((Lib.alloc_old _ _ _ (lt_heap HX2.out)).trans HX2.out)
            have HOWN9 := Lib.hid hown9
            clear hown9 hgrow9 hnil9 HO2
            (try clear z0 z1 z2 z3 z4 z5 z6 z7 z8 z9)
            go_wp2
            go_roundw
            case rel => exact ⟨0 + 1, _, _, by omega, by go_num, rfl, HOWN9.out, last_next HXL.out HJ.out, way_next hway.out HJ.out (fun q => absurd q (Nat.lt_irrefl _)), HX9.out, HB9.out⟩
            case measure => simp [intOf]; omega
          · obtain ⟨k, rfl⟩ : ∃ q, k = q + 1 := ⟨k - 1, by omega⟩
            obtain ⟨m', hm'⟩ := way_at hway.out h0
            rw [Nat.add_sub_cancel] at hm'
            have HM := Lib.hid hm'
            have hmn := hm'.1
            obtain ⟨gb, hgb⟩ : ∃ gb : Bool, gb = true ↔ GoesOn (ds m') (ds j) := by
              by_cases q : GoesOn (ds m') (ds j)
              · exact ⟨true, fun _ => q, fun _ => rfl⟩
              · exact ⟨false, fun x => (by cases x), fun x => absurd x q⟩
            have HG := Lib.hid hgb
            obtain ⟨g, gc, rfl, hg1, hg2⟩ := HO1.out.form (by omega)
            have HRG : Hid (RowAt w1 g (k * 10) (ds m') (ps m')) := fun q hq => (HO1.out.cellAt (k * 10 + q) (by omega)).trans (by have := hlast.out (by omega) m' (by rw [Nat.add_sub_cancel]; exact HM.out) q hq; rw [Nat.add_sub_cancel] at this; exact this)
            have HLG := Lib.hid hg2
            rcases HN1.out with hc | ⟨b, off, ha, hbl, hrow⟩
            · omega
            subst ha
            have HRJ := Lib.hid (hrow j hjn).1
            have HLB := Lib.hid hbl
            clear hm' hgb hbl hrow hg1 hg2
            go_upto_region 8 with fail
            refine wp_region_free' (by kernel_rfl) (fun _ W => Below w1.heap.size w1 W) (fun _ _ => True) (SWi ds ps j k m' n cap b off g gc gb) (by kernel_rfl) (fun i k v W W' h _ _ => h) ((Below.refl _ _).drew) ?_
            apply Exists.intro
            apply And.intro
            · intro f
              simp only [over, List.set]
              exact rfl
            refine ⟨?hopsI, ?hendI⟩
            case hopsI =>
              refine EachOp.cons ?_ (EachOp.cons ?_ (EachOp.cons ?_ (EachOp.cons ?_ (EachOp.cons ?_ (EachOp.cons ?_ (EachOp.cons ?_ (EachOp.cons ?_ (EachOp.cons ?_ (EachOp.cons ?_ (EachOp.cons ?_ (EachOp.cons ?_ (EachOp.cons ?_ (EachOp.cons ?_ (EachOp.cons ?_ (EachOp.cons ?_ (EachOp.cons ?_ (EachOp.cons ?_ (EachOp.cons ?_ (EachOp.nil)))))))))))))))))))
              · intro ff kk ww hkk hI hd QQ' hQ
                try dsimp only
                go_big_wp2_with fail
                refine hQ _ _ _ ?_ hI trivial rfl
                first | rfl | (simp [upd]; done)
              · intro ff kk ww hkk hI hd QQ' hQ
                try dsimp only
                have z1 : decide ((j : Int) < 0) = false := decide_eq_false (by omega)
                have c0' : ff 0 = _ := DepsT.get hd (n := 0) (by decide)
                go_big_wp2_with fail
                refine hQ _ _ _ ?_ hI trivial rfl
                first | rfl | (simp [upd, c0']; done)
              · intro ff kk ww hkk hI hd QQ' hQ
                try dsimp only
                have c1' : ff 1 = _ := DepsT.get hd (n := 1) (by decide)
                go_big_wp2_with fail
                refine hQ _ _ _ ?_ hI trivial rfl
                first | rfl | (simp [upd, c1']; done)
              · intro ff kk ww hkk hI hd QQ' hQ
                try dsimp only
                have c2' : ff 2 = _ := DepsT.get hd (n := 2) (by decide)
                go_big_wp2_with fail
                refine hQ _ _ _ ?_ hI trivial rfl
                first | rfl | (simp [upd, c2']; done)
              · intro ff kk ww hkk hI hd QQ' hQ
                try dsimp only
                have z1 : decide ((0 : Int) < (k : Int) + 1) = true := decide_eq_true (by omega)
                have c2' : ff 2 = _ := DepsT.get hd (n := 2) (by decide)
                have c3' : ff 3 = _ := DepsT.get hd (n := 3) (by decide)
                go_big_wp2_with fail
                refine hQ _ _ _ ?_ hI trivial rfl
                first | rfl | (simp [upd, c2', c3']; done)
              · intro ff kk ww hkk hI hd QQ' hQ
                try dsimp only
                have c2' : ff 2 = _ := DepsT.get hd (n := 2) (by decide)
                have c4' : ff 4 = _ := DepsT.get hd (n := 4) (by decide)
                go_big_wp2_with fail
                refine hQ _ _ _ ?_ hI trivial rfl
                first | rfl | (simp [upd, c2', c4']; done)
              · intro ff kk ww hkk hI hd QQ' hQ
                try dsimp only
                have c5' : ff 5 = _ := DepsT.get hd (n := 5) (by decide)
                go_big_wp2_with fail
                refine hQ _ _ _ ?_ hI trivial rfl
                first | rfl | (simp [upd, c5']; done)
              · intro ff kk ww hkk hI hd QQ' hQ
                try dsimp only
                have c5' : ff 5 = _ := DepsT.get hd (n := 5) (by decide)
                go_big_wp2_with fail
                refine hQ _ _ _ ?_ hI trivial rfl
                first | rfl | (simp [upd, c5']; done)
              · intro ff kk ww hkk hI hd QQ' hQ
                try dsimp only
                have e0 : IntKind.i64.wrap ((k : Int) + 1 - 1) = (k : Int) := by rw [show (k : Int) + 1 - 1 = (k : Int) by omega]; exact IntWalk.i64_in _ (by omega)
                have c5' : ff 5 = _ := DepsT.get hd (n := 5) (by decide)
                have c7' : ff 7 = _ := DepsT.get hd (n := 7) (by decide)
                go_big_wp2_with fail
                refine hQ _ _ _ ?_ hI trivial rfl
                first | rfl | (simp [upd, c5', c7']; done)
              · intro ff kk ww hkk hI hd QQ' hQ
                try dsimp only
                have i1 : (k : Int) < ((k : Int) + 1) := by omega
                have i0 : (0 : Int) ≤ (k : Int) := by omega
                have c5' : ff 5 = _ := DepsT.get hd (n := 5) (by decide)
                have c6' : ff 6 = _ := DepsT.get hd (n := 6) (by decide)
                have c8' : ff 8 = _ := DepsT.get hd (n := 8) (by decide)
                go_big_wp2_with fail
                refine hQ _ _ _ ?_ hI trivial rfl
                first | rfl | (simp [upd, c5', c6', c8']; done)
              · intro ff kk ww hkk hI hd QQ' hQ
                try dsimp only
                have HRr := HRG.out.kept HLG.out hI
                have y0 := HRr.c0
                have y1 := HRr.c1
                have y2 := HRr.c2
                have y3 := HRr.c3
                have y4 := HRr.c4
                have y5 := HRr.c5
                have y6 := HRr.c6
                have y7 := HRr.c7
                have y8 := HRr.c8
                have y9 := HRr.c9
                have c5' : ff 5 = _ := DepsT.get hd (n := 5) (by decide)
                have c9' : ff 9 = _ := DepsT.get hd (n := 9) (by decide)
                go_big_wp2_with fail
                refine hQ _ _ _ ?_ hI trivial rfl
                first | rfl | (simp [upd, c5', c9', LegV_eqT, LegC]; done)
              · intro ff kk ww hkk hI hd QQ' hQ
                try dsimp only
                have c5' : ff 5 = _ := DepsT.get hd (n := 5) (by decide)
                go_big_wp2_with fail
                refine hQ _ _ _ ?_ hI trivial rfl
                first | rfl | (simp [upd, c5']; done)
              · intro ff kk ww hkk hI hd QQ' hQ
                try dsimp only
                have c5' : ff 5 = _ := DepsT.get hd (n := 5) (by decide)
                go_big_wp2_with fail
                refine hQ _ _ _ ?_ hI trivial rfl
                first | rfl | (simp [upd, c5']; done)
              · intro ff kk ww hkk hI hd QQ' hQ
                try dsimp only
                have i1 : (j : Int) < (n : Int) := by omega
                have i0 : (0 : Int) ≤ (j : Int) := by omega
                have c5' : ff 5 = _ := DepsT.get hd (n := 5) (by decide)
                have c11' : ff 11 = _ := DepsT.get hd (n := 11) (by decide)
                have c12' : ff 12 = _ := DepsT.get hd (n := 12) (by decide)
                go_big_wp2_with fail
                refine hQ _ _ _ ?_ hI trivial rfl
                first | rfl | (simp [upd, c5', c11', c12']; done)
              · intro ff kk ww hkk hI hd QQ' hQ
                try dsimp only
                have HRr := HRJ.out.kept HLB.out hI
                have y0 := HRr.c0
                have y1 := HRr.c1
                have y2 := HRr.c2
                have y3 := HRr.c3
                have y4 := HRr.c4
                have y5 := HRr.c5
                have y6 := HRr.c6
                have y7 := HRr.c7
                have y8 := HRr.c8
                have y9 := HRr.c9
                have c5' : ff 5 = _ := DepsT.get hd (n := 5) (by decide)
                have c13' : ff 13 = _ := DepsT.get hd (n := 13) (by decide)
                go_big_wp2_with fail
                refine hQ _ _ _ ?_ hI trivial rfl
                first | rfl | (simp [upd, c5', c13', LegV_eqT, LegC]; done)
              · intro ff kk ww hkk hI hd QQ' hQ
                try dsimp only
                have c5' : ff 5 = _ := DepsT.get hd (n := 5) (by decide)
                have c10' : ff 10 = _ := DepsT.get hd (n := 10) (by decide)
                have c14' : ff 14 = _ := DepsT.get hd (n := 14) (by decide)
                go_big_wp2_with fail
                refine (nextI (ds m') (ps m') (ds j) (ps j) ww).mono ?_
                rintro e wa ⟨b2, rfl, hb2, da⟩
                obtain rfl : b2 = gb := detT hb2.out HG.out
                go_big_wp2_with fail
                refine hQ _ _ wa ?_ (bt hI da) trivial rfl
                first | rfl | (simp [upd, c5', c10', c14']; done)
              · intro ff kk ww hkk hI hd QQ' hQ
                try dsimp only
                have c5' : ff 5 = _ := DepsT.get hd (n := 5) (by decide)
                have c15' : ff 15 = _ := DepsT.get hd (n := 15) (by decide)
                go_big_wp2_with fail
                refine hQ _ _ _ ?_ hI trivial rfl
                first | rfl | (simp [upd, c5', c15']; done)
              · intro ff kk ww hkk hI hd QQ' hQ
                try dsimp only
                have c2' : ff 2 = _ := DepsT.get hd (n := 2) (by decide)
                have c5' : ff 5 = _ := DepsT.get hd (n := 5) (by decide)
                have c16' : ff 16 = _ := DepsT.get hd (n := 16) (by decide)
                go_big_wp2_with fail
                refine hQ _ _ _ ?_ hI trivial rfl
                first | rfl | (simp [upd, c2', c5', c16']; done)
              · intro ff kk ww hkk hI hd QQ' hQ
                try dsimp only
                have c2' : ff 2 = _ := DepsT.get hd (n := 2) (by decide)
                have c17' : ff 17 = _ := DepsT.get hd (n := 17) (by decide)
                go_big_wp2_with fail
                refine hQ _ _ _ ?_ hI trivial rfl
                first | rfl | (simp [upd, c2', c17']; done)
            case hendI =>
            intro ff kk w2 d2 hS
            try dsimp only
            have cz : ff 18 = _ := hS 18 (by decide)
            rw [cz]
            have HB2 := Lib.hid (bt HB1.out d2)
            have HX2 := Lib.hid ((d2.block _ (lt_heap HX1.out)).trans HX1.out)
            cases gb with
            | false =>
              have hno : Hid (¬ (NetD n ds ∧ FormOk ss f m ∧ LegsGo ds n ss len)) := fun q => way_off hlt h0 HJ.out HM.out (fun x => by have := HG.out.2 x; cases this) q.2.2
              clear cz hS d2
              go_wp2
              go_ret2
              exact ⟨_, false, rfl, ⟨fun q => (by cases q), fun q => absurd q hno.out⟩, HB2.out⟩
            | true =>
              have hnext : Hid (LegsGo ds n ss (k + 1 + 1)) := way_next hway.out HJ.out (fun _ x hx => by rw [at_one hx HM.out]; exact HG.out.1 rfl)
              have HO2 : Hid (w2.ownsRow (w.heap.size + 1) 34 10 (.slice (some ⟨g, 0, none⟩) (k + 1) gc) (k + 1) xs) := HO1.out.kept (row := none) ⟨d2.os, d2.tape, d2.output, d2.size, fun i hi _ => d2.block i hi⟩ (Or.inr (by simp [Value.ownBlock]))
              have HZ := HRJ.out.kept HLB.out d2
              have z0 := HZ.c0
              have z1 := HZ.c1
              have z2 := HZ.c2
              have z3 := HZ.c3
              have z4 := HZ.c4
              have z5 := HZ.c5
              have z6 := HZ.c6
              have z7 := HZ.c7
              have z8 := HZ.c8
              have z9 := HZ.c9
              clear cz hS d2 HZ HO1
              go_wp2_with (at_builtin; go_must (refine wpList_append_own _ rfl _ _ 23 rfl (w.heap.size + 1) 34 i0 (.agg #[.string ⟨#[]⟩, .string ⟨#[]⟩, .string ⟨#[]⟩, .int .i64 0, .int .i64 0, .int .i64 0, .slice none 0 0, .slice none 0 0, .slice none 0 0, .slice none 0 0]) 10 168 Try.underlying23 hi hz0 hz1 hz2 rfl (by decide) _ _ _ rfl (HO2.out.alloc _) ⟨w2.heap.size, 0, none⟩ 1 1 (LegC (ds j) (ps j)).toList rfl rfl ?q1 ?q2 ?q3 ?q4 ?q5 ?_); (case q1 => go_must (exact news_legT w2 (ds j) (ps j))); (case q2 => go_must (exact one_legT (ds j) (ps j))); (case q3 => go_must (unfold maxLen; omega)); (case q4 => go_must (omega)); (case q5 => go_must (have := HB2.out.size; simp only [World.size_alloc]; omega)); intro v' w9 hown9 hgrow9 hnil9)
              have HB9 : Hid (Below w.heap.size w w9) := (HB2.out.alloc HB2.out.size _).grown hgrow9 (by have := HB2.out.size; simp only [World.size_alloc]; omega) (fun q e => by have := (HO2.out.lt q e).1; omega)
              have HX9 : Hid (w9.heap[w.heap.size]? = some (.cells #[.slice (some ⟨tb, to, none⟩) len tcap, .string f, .int .i64 m] 26 (0, 0))) := (hgrow9.block _ (by have := lt_heap HX2.out; simp only [World.size_alloc]; omega) (fun e => by have := (HO2.out.lt _ e.symm).1; omega)).trans ((Lib.alloc_old _ _ _ (lt_heap HX2.out)).trans HX2.out)
              have HOWN9 := Lib.hid hown9
              clear hown9 hgrow9 hnil9 HO2
              (try clear z0 z1 z2 z3 z4 z5 z6 z7 z8 z9)
              go_wp2
              go_roundw
              case rel => exact ⟨k + 1 + 1, _, _, by omega, by go_num, rfl, HOWN9.out, last_next HXL.out HJ.out, hnext.out, HX9.out, HB9.out⟩
              case measure => simp [intOf]; omega
        · obtain rfl : k = len := by omega
          go_wp2
          go_ret2
          exact ⟨_, true, rfl, ⟨fun _ => ⟨HND.out, HFO.out, hway.out⟩, fun _ => rfl⟩, hb⟩
end Go.Proofs.Ytjlfbcplocjemaa
