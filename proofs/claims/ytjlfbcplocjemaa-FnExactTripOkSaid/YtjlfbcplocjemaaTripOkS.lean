/-
  Whether a trip can be made in a net: the model.
-/
import Derived.Test.YtjlfbcplocjemaaTripWay
namespace Go.Proofs.Ytjlfbcplocjemaa
open Go.RowKit
set_option linter.unusedVariables false
set_option linter.unusedSimpArgs false

def SWs (ds : Nat → LegD) (ps : Nat → LegP) (ss : List ByteArray) (j k m n cap b off bx tb to len tcap : Nat) (gb : Bool) (i : Nat) (W : World) (v : Value) : Prop := match i with
  | 0 => v = .int .i64 (j : Int)
  | 1 => v = .bool false
  | 2 => v = .bool false
  | 3 => v = .int .i64 ((k : Int) + 1)
  | 4 => v = .bool true
  | 5 => v = .bool true
  | 6 => v = .slice (some ⟨b, off, none⟩) n cap
  | 7 => v = .slice (some ⟨b, off, none⟩) n cap
  | 8 => v = .pointer (some ⟨bx, 0, none⟩)
  | 9 => v = .slice (some ⟨tb, to, none⟩) len tcap
  | 10 => v = .int .i64 ((k : Int) + 1)
  | 11 => v = .int .i64 (k : Int)
  | 12 => v = .pointer (some ⟨tb, to + k, none⟩)
  | 13 => v = .string (legAt ss k)
  | 14 => v = .int .i64 (m : Int)
  | 15 => v = .pointer (some ⟨b, off + m * 10, none⟩)
  | 16 => v = LegV (ds m) (ps m)
  | 17 => v = .slice (some ⟨b, off, none⟩) n cap
  | 18 => v = .int .i64 (j : Int)
  | 19 => v = .pointer (some ⟨b, off + j * 10, none⟩)
  | 20 => v = LegV (ds j) (ps j)
  | 21 => v = .bool gb
  | 22 => v = .bool (!gb)
  | 23 => v = .bool (!gb)
  | 24 => v = .bool (!gb)
  | _ => True
set_option maxRecDepth 100000 in
set_option maxHeartbeats 16000000 in
theorem waysS (a : Option Addr) (n cap : Nat) (ds : Nat → LegD) (ps : Nat → LegP) (ta : Option Addr) (tcap : Nat) (ss : List ByteArray) (f : ByteArray) (m : Int) (w : World) (h : Legs w a n ds ps) (hl : n ≤ 1048576) (hs : Strs w ta ss.length ss) (hsl : ss.length ≤ 1048576) (hss : ∀ i, i < ss.length → (legAt ss i).size ≤ 1048576) (hf : f.size ≤ 1048576) :
    Calls Try.prog 21 #[.slice a n cap, .agg #[.slice ta ss.length tcap, .string f, .int .i64 m]] w (OkPost (FormOk ss f m ∧ LegsGo ds n ss ss.length) (Below w.heap.size w)) := by
  have HFm : Hid (∀ W, Strs W ta ss.length ss → Calls Try.prog 41 #[.agg #[.slice ta ss.length tcap, .string f, .int .i64 m]] W (FormPost ss f m W)) := fun W q => formS ta tcap ss f m W q hsl hss hf
  have HS := Lib.hid hs
  have H := Lib.hid h
  clear hs h hss
  generalize hlen : ss.length = len at *
  clear hlen
  have hbA : Below w.heap.size w (w.alloc (.cells #[.slice ta len tcap, .string f, .int .i64 m] 26)) := (Below.refl _ _).alloc (Nat.le_refl _) _
  have HbA := Lib.hid hbA
  have HA := Lib.hid (heap_alloc_new w (.cells #[.slice ta len tcap, .string f, .int .i64 m] 26))
  clear hbA
  go_enter Try.func21, Try.ntmps21
  go_wp2_with fail
  refine (HFm.out _ (HS.out.kept HbA.out)).mono ?_
  rintro e w1 ⟨b1, rfl, hb1, d1⟩
  have HB1 := Lib.hid (bt HbA.out d1)
  have HX1 := Lib.hid ((d1.block _ (by simp)).trans HA.out)
  clear d1
  cases b1 with
  | false =>
    have hno : Hid (¬ (FormOk ss f m ∧ LegsGo ds n ss len)) := fun q => by have := hb1.out.2 q.1; cases this
    go_wp2
    go_ret
    exact ⟨false, rfl, ⟨fun q => (by cases q), fun q => absurd q hno.out⟩, HB1.out⟩
  | true =>
    have HFO := Lib.hid (hb1.out.1 rfl)
    have hXc := (row3 HX1.out).1
    have hlt1 := lt_heap HX1.out
    clear hb1
    go_wp2_with fail
    go_loopw [5] (fun i wr => ∃ k : Nat, k ≤ len ∧ i = .int .i64 k ∧ Hid (LegsGo ds n ss k) ∧ Hid (wr.heap[w.heap.size]? = some (.cells #[.slice ta len tcap, .string f, .int .i64 m] 26 (0, 0))) ∧ Below w.heap.size w wr) (fun i _ => len - (intOf i).toNat)
    case atStart => exact ⟨0, Nat.zero_le _, rfl, fun i hi => absurd hi (Nat.not_lt_zero _), HX1.out, HB1.out⟩
    case round =>
      obtain ⟨k, hk, rfl, hway, HX, hb⟩ := hrel
      have x0 := (row3 HX.out).1
      clear hXc hlt1
      rcases Nat.lt_or_ge k len with hlt | hge
      · obtain ⟨tb, to, hta, htl, hcell⟩ := (HS.out.kept hb).cells (by omega)
        subst hta
        have HB := Lib.hid hb
        have HC := Lib.hid hcell
        have HN := Lib.hid (H.out.kept hb)
        have t0 := hcell k hlt
        have hk1 : (k : Int) < len := by omega
        have hk0 : (0 : Int) ≤ k := by omega
        clear hb hcell
        go_wp2_with fail
        refine (placeS _ n cap ds ps (legAt ss k) wr HN.out hl).mono ?_
        rintro e w1 ⟨r, rfl, hr, d1⟩
        have HB1 := Lib.hid (bt HB.out d1)
        have HX1 := Lib.hid ((d1.block _ (lt_heap HX.out)).trans HX.out)
        have HC1 : Hid (∀ i, i < len → w1.cell? ⟨tb, to + i, none⟩ = some (.string (legAt ss i))) := fun i hi => (d1.cell (p := ⟨tb, to + i, none⟩) htl).trans (HC.out i hi)
        have HLT : Hid (tb < w1.heap.size) := Nat.lt_of_lt_of_le htl d1.size
        have HN1 := Lib.hid (HN.out.kept d1)
        clear d1 x0 t0 htl HB HX HC HN
        rcases Int.lt_or_le r 0 with c | c
        · have hno : Hid (¬ (FormOk ss f m ∧ LegsGo ds n ss len)) := fun q => way_none hlt (place_none hr.out c) q.2
          have z1 : decide (r < 0) = true := decide_eq_true c
          clear hr
          go_wp2_with fail
          go_quiet (fail)
          go_wp2
          go_ret
          exact ⟨false, rfl, ⟨fun q => (by cases q), fun q => absurd q hno.out⟩, belowN HB1.out _⟩
        obtain ⟨j, rfl, hat⟩ := place_some hr.out c
        have HJ := Lib.hid hat
        clear hr c hat
        have z1 : decide ((j : Int) < 0) = false := decide_eq_false (by omega)
        rcases Nat.eq_zero_or_pos k with h0 | h0
        · subst h0
          go_wp2_with fail
          go_quiet (fail)
          go_wp2
          go_roundw
          case rel => exact ⟨0 + 1, by omega, by go_num, way_next hway.out HJ.out (fun q => by omega), HX1.out, belowN HB1.out _⟩
          case measure => simp [intOf]; omega
        · obtain ⟨k, rfl⟩ : ∃ q, k = q + 1 := ⟨k - 1, by omega⟩
          obtain ⟨m', hm'⟩ := way_at hway.out h0
          rw [Nat.add_sub_cancel] at hm'
          have HM := Lib.hid hm'
          have hmn := hm'.1
          have hjn := HJ.out.1
          obtain ⟨gb, hgb⟩ : ∃ gb : Bool, gb = true ↔ GoesOn (ds m') (ds j) := by
            by_cases q : GoesOn (ds m') (ds j)
            · exact ⟨true, fun _ => q, fun _ => rfl⟩
            · exact ⟨false, fun x => (by cases x), fun x => absurd x q⟩
          have HG := Lib.hid hgb
          rcases HN1.out with hc | ⟨b, off, ha, hbl, hrow⟩
          · omega
          subst ha
          have HRM := Lib.hid (hrow m' hmn).1
          have HRJ := Lib.hid (hrow j hjn).1
          have HLB := Lib.hid hbl
          have HLX : Hid (w.heap.size < w1.heap.size) := lt_heap HX1.out
          clear hm' hgb hbl hrow
          go_upto_region 7 with fail
          refine wp_region_free' (by kernel_rfl) (fun _ W => Below w1.heap.size w1 W) (fun _ _ => True) (SWs ds ps ss j k m' n cap b off w.heap.size tb to len tcap gb) (by kernel_rfl) (fun i k v W W' h _ _ => h) ((Below.refl _ _).drew) ?_
          apply Exists.intro
          apply And.intro
          · intro f
            simp only [over, List.set]
            exact rfl
          refine ⟨?hopsS, ?hendS⟩
          case hopsS =>
            refine EachOp.cons ?_ (EachOp.cons ?_ (EachOp.cons ?_ (EachOp.cons ?_ (EachOp.cons ?_ (EachOp.cons ?_ (EachOp.cons ?_ (EachOp.cons ?_ (EachOp.cons ?_ (EachOp.cons ?_ (EachOp.cons ?_ (EachOp.cons ?_ (EachOp.cons ?_ (EachOp.cons ?_ (EachOp.cons ?_ (EachOp.cons ?_ (EachOp.cons ?_ (EachOp.cons ?_ (EachOp.cons ?_ (EachOp.cons ?_ (EachOp.cons ?_ (EachOp.cons ?_ (EachOp.cons ?_ (EachOp.cons ?_ (EachOp.cons ?_ (EachOp.nil)))))))))))))))))))))))))
            · intro ff kk ww hkk hI hd QQ' hQ
              try dsimp only
              go_big_wp2_with fail
              refine hQ _ _ _ ?_ hI trivial rfl
              first | rfl | (simp [upd]; done)
            · intro ff kk ww hkk hI hd QQ' hQ
              try dsimp only
              have z1 : decide ((j : Int) < 0) = false := decide_eq_false (by omega)
              have c0' : ff 0 = _ := DepsT.get hd (n := 0) (by decide)
              go_big_wp2_with fail
              refine hQ _ _ _ ?_ hI trivial rfl
              first | rfl | (simp [upd, c0']; done)
            · intro ff kk ww hkk hI hd QQ' hQ
              try dsimp only
              have c1' : ff 1 = _ := DepsT.get hd (n := 1) (by decide)
              go_big_wp2_with fail
              refine hQ _ _ _ ?_ hI trivial rfl
              first | rfl | (simp [upd, c1']; done)
            · intro ff kk ww hkk hI hd QQ' hQ
              try dsimp only
              have c2' : ff 2 = _ := DepsT.get hd (n := 2) (by decide)
              go_big_wp2_with fail
              refine hQ _ _ _ ?_ hI trivial rfl
              first | rfl | (simp [upd, c2']; done)
            · intro ff kk ww hkk hI hd QQ' hQ
              try dsimp only
              have z1 : decide ((0 : Int) < (k : Int) + 1) = true := decide_eq_true (by omega)
              have c2' : ff 2 = _ := DepsT.get hd (n := 2) (by decide)
              have c3' : ff 3 = _ := DepsT.get hd (n := 3) (by decide)
              go_big_wp2_with fail
              refine hQ _ _ _ ?_ hI trivial rfl
              first | rfl | (simp [upd, c2', c3']; done)
            · intro ff kk ww hkk hI hd QQ' hQ
              try dsimp only
              have c2' : ff 2 = _ := DepsT.get hd (n := 2) (by decide)
              have c4' : ff 4 = _ := DepsT.get hd (n := 4) (by decide)
              go_big_wp2_with fail
              refine hQ _ _ _ ?_ hI trivial rfl
              first | rfl | (simp [upd, c2', c4']; done)
            · intro ff kk ww hkk hI hd QQ' hQ
              try dsimp only
              have c5' : ff 5 = _ := DepsT.get hd (n := 5) (by decide)
              go_big_wp2_with fail
              refine hQ _ _ _ ?_ hI trivial rfl
              first | rfl | (simp [upd, c5']; done)
            · intro ff kk ww hkk hI hd QQ' hQ
              try dsimp only
              have c5' : ff 5 = _ := DepsT.get hd (n := 5) (by decide)
              go_big_wp2_with fail
              refine hQ _ _ _ ?_ hI trivial rfl
              first | rfl | (simp [upd, c5']; done)
            · intro ff kk ww hkk hI hd QQ' hQ
              try dsimp only
              have c5' : ff 5 = _ := DepsT.get hd (n := 5) (by decide)
              go_big_wp2_with fail
              refine hQ _ _ _ ?_ hI trivial rfl
              first | rfl | (simp [upd, c5']; done)
            · intro ff kk ww hkk hI hd QQ' hQ
              try dsimp only
              have x0 : ww.cell? ⟨w.heap.size, 0, none⟩ = _ := (row3 ((hI.block _ HLX.out).trans HX1.out)).1
              have c5' : ff 5 = _ := DepsT.get hd (n := 5) (by decide)
              have c8' : ff 8 = _ := DepsT.get hd (n := 8) (by decide)
              go_big_wp2_with fail
              refine hQ _ _ _ ?_ hI trivial rfl
              first | rfl | (simp [upd, c5', c8']; done)
            · intro ff kk ww hkk hI hd QQ' hQ
              try dsimp only
              have c5' : ff 5 = _ := DepsT.get hd (n := 5) (by decide)
              go_big_wp2_with fail
              refine hQ _ _ _ ?_ hI trivial rfl
              first | rfl | (simp [upd, c5']; done)
            · intro ff kk ww hkk hI hd QQ' hQ
              try dsimp only
              have e0 : IntKind.i64.wrap ((k : Int) + 1 - 1) = (k : Int) := by rw [show (k : Int) + 1 - 1 = (k : Int) by omega]; exact IntWalk.i64_in _ (by omega)
              have c5' : ff 5 = _ := DepsT.get hd (n := 5) (by decide)
              have c10' : ff 10 = _ := DepsT.get hd (n := 10) (by decide)
              go_big_wp2_with fail
              refine hQ _ _ _ ?_ hI trivial rfl
              first | rfl | (simp [upd, c5', c10']; done)
            · intro ff kk ww hkk hI hd QQ' hQ
              try dsimp only
              have i1 : (k : Int) < (len : Int) := by omega
              have i0 : (0 : Int) ≤ (k : Int) := by omega
              have c5' : ff 5 = _ := DepsT.get hd (n := 5) (by decide)
              have c9' : ff 9 = _ := DepsT.get hd (n := 9) (by decide)
              have c11' : ff 11 = _ := DepsT.get hd (n := 11) (by decide)
              go_big_wp2_with fail
              refine hQ _ _ _ ?_ hI trivial rfl
              first | rfl | (simp [upd, c5', c9', c11']; done)
            · intro ff kk ww hkk hI hd QQ' hQ
              try dsimp only
              have x0 : ww.cell? ⟨tb, to + k, none⟩ = _ := (hI.cell (p := ⟨tb, to + k, none⟩) HLT.out).trans (HC1.out k (by omega))
              have c5' : ff 5 = _ := DepsT.get hd (n := 5) (by decide)
              have c12' : ff 12 = _ := DepsT.get hd (n := 12) (by decide)
              go_big_wp2_with fail
              refine hQ _ _ _ ?_ hI trivial rfl
              first | rfl | (simp [upd, c5', c12']; done)
            · intro ff kk ww hkk hI hd QQ' hQ
              try dsimp only
              have c5' : ff 5 = _ := DepsT.get hd (n := 5) (by decide)
              have c7' : ff 7 = _ := DepsT.get hd (n := 7) (by decide)
              have c13' : ff 13 = _ := DepsT.get hd (n := 13) (by decide)
              go_big_wp2_with fail
              refine (placeS _ n cap ds ps (legAt ss k) ww (HN1.out.kept hI) hl).mono ?_
              rintro e wa ⟨r, rfl, hr, da⟩
              obtain rfl := place_is hr.out HM.out
              go_big_wp2_with fail
              refine hQ _ _ wa ?_ (bt hI da) trivial rfl
              first | rfl | (simp [upd, c5', c7', c13']; done)
            · intro ff kk ww hkk hI hd QQ' hQ
              try dsimp only
              have i1 : (m' : Int) < (n : Int) := by omega
              have i0 : (0 : Int) ≤ (m' : Int) := by omega
              have c5' : ff 5 = _ := DepsT.get hd (n := 5) (by decide)
              have c6' : ff 6 = _ := DepsT.get hd (n := 6) (by decide)
              have c14' : ff 14 = _ := DepsT.get hd (n := 14) (by decide)
              go_big_wp2_with fail
              refine hQ _ _ _ ?_ hI trivial rfl
              first | rfl | (simp [upd, c5', c6', c14']; done)
            · intro ff kk ww hkk hI hd QQ' hQ
              try dsimp only
              have HRr := HRM.out.kept HLB.out hI
              have y0 := HRr.c0
              have y1 := HRr.c1
              have y2 := HRr.c2
              have y3 := HRr.c3
              have y4 := HRr.c4
              have y5 := HRr.c5
              have y6 := HRr.c6
              have y7 := HRr.c7
              have y8 := HRr.c8
              have y9 := HRr.c9
              have c5' : ff 5 = _ := DepsT.get hd (n := 5) (by decide)
              have c15' : ff 15 = _ := DepsT.get hd (n := 15) (by decide)
              go_big_wp2_with fail
              refine hQ _ _ _ ?_ hI trivial rfl
              first | rfl | (simp [upd, c5', c15', LegV_eqT, LegC]; done)
            · intro ff kk ww hkk hI hd QQ' hQ
              try dsimp only
              have c5' : ff 5 = _ := DepsT.get hd (n := 5) (by decide)
              go_big_wp2_with fail
              refine hQ _ _ _ ?_ hI trivial rfl
              first | rfl | (simp [upd, c5']; done)
            · intro ff kk ww hkk hI hd QQ' hQ
              try dsimp only
              have c5' : ff 5 = _ := DepsT.get hd (n := 5) (by decide)
              go_big_wp2_with fail
              refine hQ _ _ _ ?_ hI trivial rfl
              first | rfl | (simp [upd, c5']; done)
            · intro ff kk ww hkk hI hd QQ' hQ
              try dsimp only
              have i1 : (j : Int) < (n : Int) := by omega
              have i0 : (0 : Int) ≤ (j : Int) := by omega
              have c5' : ff 5 = _ := DepsT.get hd (n := 5) (by decide)
              have c17' : ff 17 = _ := DepsT.get hd (n := 17) (by decide)
              have c18' : ff 18 = _ := DepsT.get hd (n := 18) (by decide)
              go_big_wp2_with fail
              refine hQ _ _ _ ?_ hI trivial rfl
              first | rfl | (simp [upd, c5', c17', c18']; done)
            · intro ff kk ww hkk hI hd QQ' hQ
              try dsimp only
              have HRr := HRJ.out.kept HLB.out hI
              have y0 := HRr.c0
              have y1 := HRr.c1
              have y2 := HRr.c2
              have y3 := HRr.c3
              have y4 := HRr.c4
              have y5 := HRr.c5
              have y6 := HRr.c6
              have y7 := HRr.c7
              have y8 := HRr.c8
              have y9 := HRr.c9
              have c5' : ff 5 = _ := DepsT.get hd (n := 5) (by decide)
              have c19' : ff 19 = _ := DepsT.get hd (n := 19) (by decide)
              go_big_wp2_with fail
              refine hQ _ _ _ ?_ hI trivial rfl
              first | rfl | (simp [upd, c5', c19', LegV_eqT, LegC]; done)
            · intro ff kk ww hkk hI hd QQ' hQ
              try dsimp only
              have c5' : ff 5 = _ := DepsT.get hd (n := 5) (by decide)
              have c16' : ff 16 = _ := DepsT.get hd (n := 16) (by decide)
              have c20' : ff 20 = _ := DepsT.get hd (n := 20) (by decide)
              go_big_wp2_with fail
              refine (nextS (ds m') (ps m') (ds j) (ps j) ww).mono ?_
              rintro e wa ⟨b2, rfl, hb2, da⟩
              obtain rfl : b2 = gb := detT hb2.out HG.out
              go_big_wp2_with fail
              refine hQ _ _ wa ?_ (bt hI da) trivial rfl
              first | rfl | (simp [upd, c5', c16', c20']; done)
            · intro ff kk ww hkk hI hd QQ' hQ
              try dsimp only
              have c5' : ff 5 = _ := DepsT.get hd (n := 5) (by decide)
              have c21' : ff 21 = _ := DepsT.get hd (n := 21) (by decide)
              go_big_wp2_with fail
              refine hQ _ _ _ ?_ hI trivial rfl
              first | rfl | (simp [upd, c5', c21']; done)
            · intro ff kk ww hkk hI hd QQ' hQ
              try dsimp only
              have c2' : ff 2 = _ := DepsT.get hd (n := 2) (by decide)
              have c5' : ff 5 = _ := DepsT.get hd (n := 5) (by decide)
              have c22' : ff 22 = _ := DepsT.get hd (n := 22) (by decide)
              go_big_wp2_with fail
              refine hQ _ _ _ ?_ hI trivial rfl
              first | rfl | (simp [upd, c2', c5', c22']; done)
            · intro ff kk ww hkk hI hd QQ' hQ
              try dsimp only
              have c2' : ff 2 = _ := DepsT.get hd (n := 2) (by decide)
              have c23' : ff 23 = _ := DepsT.get hd (n := 23) (by decide)
              go_big_wp2_with fail
              refine hQ _ _ _ ?_ hI trivial rfl
              first | rfl | (simp [upd, c2', c23']; done)
          case hendS =>
          intro ff kk w2 d2 hS
          try dsimp only
          have cz : ff 24 = _ := hS 24 (by decide)
          rw [cz]
          have HB2 := Lib.hid (bt HB1.out d2)
          have HX2 := Lib.hid ((d2.block _ HLX.out).trans HX1.out)
          clear cz hS d2
          cases gb with
          | false =>
            have hno : Hid (¬ (FormOk ss f m ∧ LegsGo ds n ss len)) := fun q => way_off hlt h0 HJ.out HM.out (fun x => by have := HG.out.2 x; cases this) q.2
            go_wp2
            go_ret
            exact ⟨false, rfl, ⟨fun q => (by cases q), fun q => absurd q hno.out⟩, HB2.out⟩
          | true =>
            have hnext : Hid (LegsGo ds n ss (k + 1 + 1)) := way_next hway.out HJ.out (fun _ x hx => by rw [at_one hx HM.out]; exact HG.out.1 rfl)
            go_wp2
            go_roundw
            case rel => exact ⟨k + 1 + 1, by omega, by go_num, hnext.out, HX2.out, HB2.out⟩
            case measure => simp [intOf]; omega
      · obtain rfl : k = len := by omega
        go_wp2
        go_ret
        exact ⟨true, rfl, ⟨fun _ => ⟨HFO.out, hway.out⟩, fun _ => rfl⟩, hb⟩
end Go.Proofs.Ytjlfbcplocjemaa
