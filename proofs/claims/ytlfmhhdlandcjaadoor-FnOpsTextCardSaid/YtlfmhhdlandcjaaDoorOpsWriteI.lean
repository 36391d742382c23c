/-
  The text of ops: the program's answer.
-/
import Derived.Test.YtlfmhhdlandcjaaDoorOpsWriteS
import Derived.Test.YtlfmhhdlandcjaaDoorTSeq
namespace Go.Proofs.YtlfmhhdlandcjaaDoor
open Go.RowKit
set_option linter.unusedVariables false
set_option linter.unusedSimpArgs false

theorem infoStrO : (Tryd.prog.info? 9).map (fun i => (i.zero, i.size, i.bytes)) = some (some (.string ⟨#[]⟩), 1, 16) := by kernel_rfl
theorem opsB_join (ds : Nat → OpD) : ∀ n, (opsB ds n).data.toList = Lib.join ((opWords ds n).map (·.data.toList)) [44]
  | 0 => by simp [opsB, opWords, Lib.join_nil]
  | 1 => by simp [opsB, opWords, Lib.join_one]
  | n + 2 => by
    have ih := opsB_join ds (n + 1)
    have e : opWords ds (n + 2) = opWords ds (n + 1) ++ [opB (ds (n + 1))] := rfl
    rw [e, List.map_append, List.map_cons, List.map_nil]
    show (opsB ds (n + 1) ++ ⟨#[44]⟩ ++ opB (ds (n + 1))).data.toList = _
    have h0 : ((opWords ds (n + 1)).map (·.data.toList)) ≠ [] := fun q => by have := congrArg List.length q; rw [List.length_map, opWords_len] at this; simp at this
    obtain ⟨x, r, hx⟩ := List.exists_cons_of_ne_nil h0
    rw [hx] at ih ⊢
    have j : Lib.join ((x :: r) ++ [(opB (ds (n + 1))).data.toList]) [44] = Lib.join (x :: r) [44] ++ ([44] ++ (opB (ds (n + 1))).data.toList) := by
      rw [List.cons_append, Lib.join_cons, Lib.join_cons, Lib.joinTail, Lib.joinTail]
      simp
    rw [j, ← ih]
    simp
def SOi (d : OpD) (k n g bx : Nat) (i : Nat) (v : Value) : Prop := match i with
  | 0 => v = .slice (some ⟨g, 0, none⟩) n n
  | 1 => v = .int .i64 (k : Int)
  | 2 => v = .pointer (some ⟨bx, 0, none⟩)
  | 3 => v = .string (d.leg)
  | 4 => v = .string (d.leg ++ ⟨#[58]⟩)
  | 5 => v = .pointer (some ⟨bx, 1, none⟩)
  | 6 => v = .int .i64 d.cls
  | 7 => v = .string (intB d.cls)
  | 8 => v = .string (d.leg ++ ⟨#[58]⟩ ++ intB d.cls)
  | 9 => v = .string (d.leg ++ ⟨#[58]⟩ ++ intB d.cls ++ ⟨#[58]⟩)
  | 10 => v = .pointer (some ⟨bx, 2, none⟩)
  | 11 => v = .int .i64 d.st
  | 12 => v = .string (intB d.st)
  | 13 => v = .string (d.leg ++ ⟨#[58]⟩ ++ intB d.cls ++ ⟨#[58]⟩ ++ intB d.st)
  | 14 => v = .string (d.leg ++ ⟨#[58]⟩ ++ intB d.cls ++ ⟨#[58]⟩ ++ intB d.st ++ ⟨#[58]⟩)
  | 15 => v = .pointer (some ⟨bx, 3, none⟩)
  | 16 => v = .int .i64 d.sh
  | 17 => v = .string (intB d.sh)
  | 18 => v = .string (d.leg ++ ⟨#[58]⟩ ++ intB d.cls ++ ⟨#[58]⟩ ++ intB d.st ++ ⟨#[58]⟩ ++ intB d.sh)
  | 19 => v = .pointer (some ⟨g, k, none⟩)
  | _ => True
set_option maxRecDepth 100000 in
set_option maxHeartbeats 16000000 in
theorem writeI (a : Option Addr) (n cap : Nat) (ds : Nat → OpD) (w : World) (h : Ops w a n ds) (hz : ∀ i, i < n → (ds i).leg.size ≤ maxLen) (hl : n ≤ 1048576) (hlc : n ≤ cap) (hLd : Laid w) :
    Calls Tryd.prog 9 #[.slice a n cap] w (TextPost n ds w) := by
  obtain ⟨i0, hi, hz0, hz1, hz2⟩ := info_parts infoStrO
  have H := Lib.hid h
  have HZ0 := Lib.hid hz
  have HL := Lib.hid hLd
  clear h hz hLd
  go_enter Tryd.func9, Tryd.ntmps9
  go_wp2_with fail
  refine (goodI a n cap ds w H.out HZ0.out hl hlc).mono ?_
  rintro e w1 ⟨b1, rfl, hb1, d1⟩
  have HB1 := Lib.hid d1
  have H1 := Lib.hid (H.out.kept d1)
  have HLw := Lib.hid (laid_stays HL.out d1)
  clear d1
  cases b1 with
  | false =>
    have hno : Hid (¬ OpsGood n ds) := fun q => by have := hb1.out.2 q; cases this
    go_wp2
    go_ret
    exact ⟨_, rfl, ⟨fun q => absurd q hno.out, fun _ => rfl⟩, HB1.out⟩
  | true =>
    have HOK := Lib.hid (hb1.out.1 rfl)
    have hn3 := HOK.out.1
    clear hb1
    go_wp2_with (at_make; refine wpList_make_full _ rfl _ _ 31 rfl w1.heap.size 9 i0 (.string ⟨#[]⟩) 1 Tryd.underlying31 hi hz0 hz1 .i64 .i64 n n n rfl rfl rfl rfl ?_ ?_ ?_ ?_; rw [hz2]; omega; unfold maxLen; omega; exact Nat.le_refl _; intro w2 hown1 hgrow1)
    have hz := hgrow1.size
    generalize hg : w1.heap.size = g at *
    have Hg := Lib.hid hg
    clear hg
    have hb2 : Below g w1 w2 := (Below.refl _ _).grown hgrow1 (by rw [Hg.out]; exact Nat.le_refl _) (fun k e => by cases e)
    clear hgrow1
    go_loopw [14] (fun i wr => ∃ k : Nat, k ≤ n ∧ i = .int .i64 k ∧ ∃ xs : List Value, wr.ownsRow g 9 1 (.slice (some ⟨g, 0, none⟩) n n) n xs ∧ Hid (∀ j, j < k → xs[j]? = some (.string (opB (ds j)))) ∧ Below g w1 wr) (fun i _ => n - (intOf i).toNat)
    case atStart => exact ⟨0, Nat.zero_le _, rfl, _, hown1, fun j hj => absurd hj (Nat.not_lt_zero _), hb2⟩
    case round =>
      obtain ⟨k, hk, rfl, xs, hown, hxs, hb⟩ := hrel
      rcases Nat.lt_or_ge k n with hlt | hge
      · have hbw1 : Below w1.heap.size w1 wr := by rw [Hg.out]; exact hb
        rcases H1.out.kept hbw1 with hc | ⟨b, off, rfl, hbl, hrow⟩
        · omega
        have HGD := Lib.hid ((HOK.out.2 k hlt).1)
        have HNB : Hid ((-9223372036854775807 ≤ (ds k).cls ∧ (ds k).cls ≤ 9223372036854775807) ∧ (-9223372036854775807 ≤ (ds k).st ∧ (ds k).st ≤ 9223372036854775807) ∧ (-9223372036854775807 ≤ (ds k).sh ∧ (ds k).sh ≤ 9223372036854775807)) := by
          obtain ⟨-, q2, q3, -, q5⟩ := HGD.out
          exact ⟨⟨by omega, by omega⟩, ⟨by omega, by omega⟩, ⟨by omega, by omega⟩⟩
        have HSZ : Hid ((ds k).leg.size ≤ 8 ∧ (intB (ds k).cls).size ≤ 21 ∧ (intB (ds k).st).size ≤ 21 ∧ (intB (ds k).sh).size ≤ 21) := ⟨nameB_size HGD.out.1, intB_size HNB.out.1.1 HNB.out.1.2, intB_size HNB.out.2.1.1 HNB.out.2.1.2, intB_size HNB.out.2.2.1 HNB.out.2.2.2⟩
        have hrb := opRowBelow wr (OpC (ds k))
        have HX := Lib.hid (opRowBox wr (ds k))
        have HOWN3 := Lib.hid (hown.kept (row := none) ⟨hrb.os, hrb.tape, hrb.output, hrb.size, fun i hi _ => hrb.block i hi⟩ (Or.inr (by simp [Value.ownBlock])))
        have HLw3 := Lib.hid (laid_stays (laid_stays HLw.out hbw1) hrb)
        have hgw := (hown.lt g rfl).2
        have HB3 := Lib.hid (hb.trans (hrb.mono (by omega)))
        have HG3 : Hid (g ≤ ((wr.alloc (.cells #[.string ⟨#[]⟩, .int .i64 0, .int .i64 0, .int .i64 0] 55)).setRow wr.heap.size (OpC (ds k))).heap.size) := Nat.le_trans (Nat.le_of_lt hgw) hrb.size
        have k1 : (k : Int) < n := by omega
        have k0 : (0 : Int) ≤ k := by omega
        obtain ⟨y0, y1, y2, y3⟩ := hrow k hlt
        clear hrow hb hbl hown hbw1 hrb hown1 hb2
        go_upto_region 7 with (first
          | (refine wpList_store_row rfl 55 _ _ rfl wr.heap.size (OpC (ds k)) rfl rfl 55 #[.string ⟨#[]⟩, .int .i64 0, .int .i64 0, .int .i64 0] (heap_alloc_new wr _) opSize rfl (op_one (ds k)) ?_)
          | fail)
        clear y0 y1 y2 y3
        generalize (wr.alloc (.cells #[.string ⟨#[]⟩, .int .i64 0, .int .i64 0, .int .i64 0] 55)).setRow wr.heap.size (OpC (ds k)) = w3 at *
        generalize wr.heap.size = bx at *
        refine wp_region_invK (by kernel_rfl) (fun kk L f W => TS 20 (fun _ W => Below w3.heap.size w3 W) (SOi (ds k) k n g bx) (fun W => W.ownsRow g 9 1 (.slice (some ⟨g, 0, none⟩) n n) n (xs.set k (.string (opB (ds k)))) ∧ Below g w3 W) kk L f W) (by kernel_rfl) (TS.start ((Below.refl _ _).drew)) ?_
        apply Exists.intro
        apply And.intro
        · intro f
          simp only [over, List.set]
          exact rfl
        refine ⟨?hops, ?hend⟩
        case hops =>
          refine EachOp.cons ?_ (EachOp.cons ?_ (EachOp.cons ?_ (EachOp.cons ?_ (EachOp.cons ?_ (EachOp.cons ?_ (EachOp.cons ?_ (EachOp.cons ?_ (EachOp.cons ?_ (EachOp.cons ?_ (EachOp.cons ?_ (EachOp.cons ?_ (EachOp.cons ?_ (EachOp.cons ?_ (EachOp.cons ?_ (EachOp.cons ?_ (EachOp.cons ?_ (EachOp.cons ?_ (EachOp.cons ?_ (EachOp.cons ?_ (EachOp.cons ?_ (EachOp.nil)))))))))))))))))))))
          · intro L ff kk ww hkk hJ hcl hLi hwt QQ' hQ
            try dsimp only
            have n20 : L 20 = false := by
              cases hx : L 20 with
              | false => rfl
              | true =>
                have h20x := hx
                have h19x : L 19 = true := hcl 20 _ rfl h20x 19 (by decide)
                have h0x : L 0 = true := hcl 19 _ rfl h19x 0 (by decide)
                have h2 : L 0 = false := hLi
                rw [h0x] at h2; cases h2
            have hI := hJ.inv n20
            go_big_wp2_with fail
            refine hQ _ _ _ ?_ (hJ.pre_op (i := 0) (by decide) n20 hI rfl)
            first | rfl | (simp [upd]; done)
          · intro L ff kk ww hkk hJ hcl hLi hwt QQ' hQ
            try dsimp only
            have n20 : L 20 = false := by
              cases hx : L 20 with
              | false => rfl
              | true =>
                have h20x := hx
                have h19x : L 19 = true := hcl 20 _ rfl h20x 19 (by decide)
                have h1x : L 1 = true := hcl 19 _ rfl h19x 1 (by decide)
                have h2 : L 1 = false := hLi
                rw [h1x] at h2; cases h2
            have hI := hJ.inv n20
            go_big_wp2_with fail
            refine hQ _ _ _ ?_ (hJ.pre_op (i := 1) (by decide) n20 hI rfl)
            first | rfl | (simp [upd]; done)
          · intro L ff kk ww hkk hJ hcl hLi hwt QQ' hQ
            try dsimp only
            have n20 : L 20 = false := by
              cases hx : L 20 with
              | false => rfl
              | true =>
                have h20x := hx
                have h18x : L 18 = true := hcl 20 _ rfl h20x 18 (by decide)
                have h14x : L 14 = true := hcl 18 _ rfl h18x 14 (by decide)
                have h13x : L 13 = true := hcl 14 _ rfl h14x 13 (by decide)
                have h9x : L 9 = true := hcl 13 _ rfl h13x 9 (by decide)
                have h8x : L 8 = true := hcl 9 _ rfl h9x 8 (by decide)
                have h4x : L 4 = true := hcl 8 _ rfl h8x 4 (by decide)
                have h3x : L 3 = true := hcl 4 _ rfl h4x 3 (by decide)
                have h2x : L 2 = true := hcl 3 _ rfl h3x 2 (by decide)
                have h2 : L 2 = false := hLi
                rw [h2x] at h2; cases h2
            have hI := hJ.inv n20
            go_big_wp2_with fail
            refine hQ _ _ _ ?_ (hJ.pre_op (i := 2) (by decide) n20 hI rfl)
            first | rfl | (simp [upd]; done)
          · intro L ff kk ww hkk hJ hcl hLi hwt QQ' hQ
            try dsimp only
            have n20 : L 20 = false := by
              cases hx : L 20 with
              | false => rfl
              | true =>
                have h20x := hx
                have h18x : L 18 = true := hcl 20 _ rfl h20x 18 (by decide)
                have h14x : L 14 = true := hcl 18 _ rfl h18x 14 (by decide)
                have h13x : L 13 = true := hcl 14 _ rfl h14x 13 (by decide)
                have h9x : L 9 = true := hcl 13 _ rfl h13x 9 (by decide)
                have h8x : L 8 = true := hcl 9 _ rfl h9x 8 (by decide)
                have h4x : L 4 = true := hcl 8 _ rfl h8x 4 (by decide)
                have h3x : L 3 = true := hcl 4 _ rfl h4x 3 (by decide)
                have h2 : L 3 = false := hLi
                rw [h3x] at h2; cases h2
            have c2' : ff 2 = _ := hJ.pre 2 (by decide) (hwt 2 (by decide)) n20
            have hI := hJ.inv n20
            obtain ⟨y0, y1, y2, y3⟩ := op_cells ((hI.block _ (lt_heap HX.out)).trans HX.out)
            simp only [Nat.zero_add] at y1 y2 y3
            go_big_wp2_with fail
            refine hQ _ _ _ ?_ (hJ.pre_op (i := 3) (by decide) n20 hI rfl)
            first | rfl | (simp [upd, c2']; done)
          · intro L ff kk ww hkk hJ hcl hLi hwt QQ' hQ
            try dsimp only
            have n20 : L 20 = false := by
              cases hx : L 20 with
              | false => rfl
              | true =>
                have h20x := hx
                have h18x : L 18 = true := hcl 20 _ rfl h20x 18 (by decide)
                have h14x : L 14 = true := hcl 18 _ rfl h18x 14 (by decide)
                have h13x : L 13 = true := hcl 14 _ rfl h14x 13 (by decide)
                have h9x : L 9 = true := hcl 13 _ rfl h13x 9 (by decide)
                have h8x : L 8 = true := hcl 9 _ rfl h9x 8 (by decide)
                have h4x : L 4 = true := hcl 8 _ rfl h8x 4 (by decide)
                have h2 : L 4 = false := hLi
                rw [h4x] at h2; cases h2
            have c3' : ff 3 = _ := hJ.pre 3 (by decide) (hwt 3 (by decide)) n20
            have hI := hJ.inv n20
            have q1 := HSZ.out.1
            have q2 := HSZ.out.2.1
            have q3 := HSZ.out.2.2.1
            have q4 := HSZ.out.2.2.2
            have mm : ¬ 9223372036854775807 < (ds k).leg.size + 1 := by omega
            clear q1 q2 q3 q4
            go_big_wp2_with fail
            refine hQ _ _ _ ?_ (hJ.pre_op (i := 4) (by decide) n20 hI rfl)
            first | rfl | (simp [upd, c3']; done)
          · intro L ff kk ww hkk hJ hcl hLi hwt QQ' hQ
            try dsimp only
            have n20 : L 20 = false := by
              cases hx : L 20 with
              | false => rfl
              | true =>
                have h20x := hx
                have h18x : L 18 = true := hcl 20 _ rfl h20x 18 (by decide)
                have h14x : L 14 = true := hcl 18 _ rfl h18x 14 (by decide)
                have h13x : L 13 = true := hcl 14 _ rfl h14x 13 (by decide)
                have h9x : L 9 = true := hcl 13 _ rfl h13x 9 (by decide)
                have h8x : L 8 = true := hcl 9 _ rfl h9x 8 (by decide)
                have h7x : L 7 = true := hcl 8 _ rfl h8x 7 (by decide)
                have h6x : L 6 = true := hcl 7 _ rfl h7x 6 (by decide)
                have h5x : L 5 = true := hcl 6 _ rfl h6x 5 (by decide)
                have h2 : L 5 = false := hLi
                rw [h5x] at h2; cases h2
            have hI := hJ.inv n20
            go_big_wp2_with fail
            refine hQ _ _ _ ?_ (hJ.pre_op (i := 5) (by decide) n20 hI rfl)
            first | rfl | (simp [upd]; done)
          · intro L ff kk ww hkk hJ hcl hLi hwt QQ' hQ
            try dsimp only
            have n20 : L 20 = false := by
              cases hx : L 20 with
              | false => rfl
              | true =>
                have h20x := hx
                have h18x : L 18 = true := hcl 20 _ rfl h20x 18 (by decide)
                have h14x : L 14 = true := hcl 18 _ rfl h18x 14 (by decide)
                have h13x : L 13 = true := hcl 14 _ rfl h14x 13 (by decide)
                have h9x : L 9 = true := hcl 13 _ rfl h13x 9 (by decide)
                have h8x : L 8 = true := hcl 9 _ rfl h9x 8 (by decide)
                have h7x : L 7 = true := hcl 8 _ rfl h8x 7 (by decide)
                have h6x : L 6 = true := hcl 7 _ rfl h7x 6 (by decide)
                have h2 : L 6 = false := hLi
                rw [h6x] at h2; cases h2
            have c5' : ff 5 = _ := hJ.pre 5 (by decide) (hwt 5 (by decide)) n20
            have hI := hJ.inv n20
            obtain ⟨y0, y1, y2, y3⟩ := op_cells ((hI.block _ (lt_heap HX.out)).trans HX.out)
            simp only [Nat.zero_add] at y1 y2 y3
            go_big_wp2_with fail
            refine hQ _ _ _ ?_ (hJ.pre_op (i := 6) (by decide) n20 hI rfl)
            first | rfl | (simp [upd, c5']; done)
          · intro L ff kk ww hkk hJ hcl hLi hwt QQ' hQ
            try dsimp only
            have n20 : L 20 = false := by
              cases hx : L 20 with
              | false => rfl
              | true =>
                have h20x := hx
                have h18x : L 18 = true := hcl 20 _ rfl h20x 18 (by decide)
                have h14x : L 14 = true := hcl 18 _ rfl h18x 14 (by decide)
                have h13x : L 13 = true := hcl 14 _ rfl h14x 13 (by decide)
                have h9x : L 9 = true := hcl 13 _ rfl h13x 9 (by decide)
                have h8x : L 8 = true := hcl 9 _ rfl h9x 8 (by decide)
                have h7x : L 7 = true := hcl 8 _ rfl h8x 7 (by decide)
                have h2 : L 7 = false := hLi
                rw [h7x] at h2; cases h2
            have c6' : ff 6 = _ := hJ.pre 6 (by decide) (hwt 6 (by decide)) n20
            have hI := hJ.inv n20
            go_big_wp2_with fail
            refine (itoaZ (ds k).cls ww (laid_stays HLw3.out hI) HNB.out.1.1 HNB.out.1.2).mono ?_
            rintro e wa ⟨rfl, da⟩
            go_big_wp2_with fail
            refine hQ _ _ _ ?_ (hJ.pre_op (i := 7) (by decide) n20 (bt hI da) rfl)
            first | rfl | (simp [upd, c6']; done)
          · intro L ff kk ww hkk hJ hcl hLi hwt QQ' hQ
            try dsimp only
            have n20 : L 20 = false := by
              cases hx : L 20 with
              | false => rfl
              | true =>
                have h20x := hx
                have h18x : L 18 = true := hcl 20 _ rfl h20x 18 (by decide)
                have h14x : L 14 = true := hcl 18 _ rfl h18x 14 (by decide)
                have h13x : L 13 = true := hcl 14 _ rfl h14x 13 (by decide)
                have h9x : L 9 = true := hcl 13 _ rfl h13x 9 (by decide)
                have h8x : L 8 = true := hcl 9 _ rfl h9x 8 (by decide)
                have h2 : L 8 = false := hLi
                rw [h8x] at h2; cases h2
            have c4' : ff 4 = _ := hJ.pre 4 (by decide) (hwt 4 (by decide)) n20
            have c7' : ff 7 = _ := hJ.pre 7 (by decide) (hwt 7 (by decide)) n20
            have hI := hJ.inv n20
            have q1 := HSZ.out.1
            have q2 := HSZ.out.2.1
            have q3 := HSZ.out.2.2.1
            have q4 := HSZ.out.2.2.2
            have mm : ¬ 9223372036854775807 < (ds k).leg.size + 1 + (intB (ds k).cls).size := by omega
            clear q1 q2 q3 q4
            go_big_wp2_with fail
            refine hQ _ _ _ ?_ (hJ.pre_op (i := 8) (by decide) n20 hI rfl)
            first | rfl | (simp [upd, c4', c7']; done)
          · intro L ff kk ww hkk hJ hcl hLi hwt QQ' hQ
            try dsimp only
            have n20 : L 20 = false := by
              cases hx : L 20 with
              | false => rfl
              | true =>
                have h20x := hx
                have h18x : L 18 = true := hcl 20 _ rfl h20x 18 (by decide)
                have h14x : L 14 = true := hcl 18 _ rfl h18x 14 (by decide)
                have h13x : L 13 = true := hcl 14 _ rfl h14x 13 (by decide)
                have h9x : L 9 = true := hcl 13 _ rfl h13x 9 (by decide)
                have h2 : L 9 = false := hLi
                rw [h9x] at h2; cases h2
            have c8' : ff 8 = _ := hJ.pre 8 (by decide) (hwt 8 (by decide)) n20
            have hI := hJ.inv n20
            have q1 := HSZ.out.1
            have q2 := HSZ.out.2.1
            have q3 := HSZ.out.2.2.1
            have q4 := HSZ.out.2.2.2
            have mm : ¬ 9223372036854775807 < (ds k).leg.size + 1 + (intB (ds k).cls).size + 1 := by omega
            clear q1 q2 q3 q4
            go_big_wp2_with fail
            refine hQ _ _ _ ?_ (hJ.pre_op (i := 9) (by decide) n20 hI rfl)
            first | rfl | (simp [upd, c8']; done)
          · intro L ff kk ww hkk hJ hcl hLi hwt QQ' hQ
            try dsimp only
            have n20 : L 20 = false := by
              cases hx : L 20 with
              | false => rfl
              | true =>
                have h20x := hx
                have h18x : L 18 = true := hcl 20 _ rfl h20x 18 (by decide)
                have h14x : L 14 = true := hcl 18 _ rfl h18x 14 (by decide)
                have h13x : L 13 = true := hcl 14 _ rfl h14x 13 (by decide)
                have h12x : L 12 = true := hcl 13 _ rfl h13x 12 (by decide)
                have h11x : L 11 = true := hcl 12 _ rfl h12x 11 (by decide)
                have h10x : L 10 = true := hcl 11 _ rfl h11x 10 (by decide)
                have h2 : L 10 = false := hLi
                rw [h10x] at h2; cases h2
            have hI := hJ.inv n20
            go_big_wp2_with fail
            refine hQ _ _ _ ?_ (hJ.pre_op (i := 10) (by decide) n20 hI rfl)
            first | rfl | (simp [upd]; done)
          · intro L ff kk ww hkk hJ hcl hLi hwt QQ' hQ
            try dsimp only
            have n20 : L 20 = false := by
              cases hx : L 20 with
              | false => rfl
              | true =>
                have h20x := hx
                have h18x : L 18 = true := hcl 20 _ rfl h20x 18 (by decide)
                have h14x : L 14 = true := hcl 18 _ rfl h18x 14 (by decide)
                have h13x : L 13 = true := hcl 14 _ rfl h14x 13 (by decide)
                have h12x : L 12 = true := hcl 13 _ rfl h13x 12 (by decide)
                have h11x : L 11 = true := hcl 12 _ rfl h12x 11 (by decide)
                have h2 : L 11 = false := hLi
                rw [h11x] at h2; cases h2
            have c10' : ff 10 = _ := hJ.pre 10 (by decide) (hwt 10 (by decide)) n20
            have hI := hJ.inv n20
            obtain ⟨y0, y1, y2, y3⟩ := op_cells ((hI.block _ (lt_heap HX.out)).trans HX.out)
            simp only [Nat.zero_add] at y1 y2 y3
            go_big_wp2_with fail
            refine hQ _ _ _ ?_ (hJ.pre_op (i := 11) (by decide) n20 hI rfl)
            first | rfl | (simp [upd, c10']; done)
          · intro L ff kk ww hkk hJ hcl hLi hwt QQ' hQ
            try dsimp only
            have n20 : L 20 = false := by
              cases hx : L 20 with
              | false => rfl
              | true =>
                have h20x := hx
                have h18x : L 18 = true := hcl 20 _ rfl h20x 18 (by decide)
                have h14x : L 14 = true := hcl 18 _ rfl h18x 14 (by decide)
                have h13x : L 13 = true := hcl 14 _ rfl h14x 13 (by decide)
                have h12x : L 12 = true := hcl 13 _ rfl h13x 12 (by decide)
                have h2 : L 12 = false := hLi
                rw [h12x] at h2; cases h2
            have c11' : ff 11 = _ := hJ.pre 11 (by decide) (hwt 11 (by decide)) n20
            have hI := hJ.inv n20
            go_big_wp2_with fail
            refine (itoaZ (ds k).st ww (laid_stays HLw3.out hI) HNB.out.2.1.1 HNB.out.2.1.2).mono ?_
            rintro e wa ⟨rfl, da⟩
            go_big_wp2_with fail
            refine hQ _ _ _ ?_ (hJ.pre_op (i := 12) (by decide) n20 (bt hI da) rfl)
            first | rfl | (simp [upd, c11']; done)
          · intro L ff kk ww hkk hJ hcl hLi hwt QQ' hQ
            try dsimp only
            have n20 : L 20 = false := by
              cases hx : L 20 with
              | false => rfl
              | true =>
                have h20x := hx
                have h18x : L 18 = true := hcl 20 _ rfl h20x 18 (by decide)
                have h14x : L 14 = true := hcl 18 _ rfl h18x 14 (by decide)
                have h13x : L 13 = true := hcl 14 _ rfl h14x 13 (by decide)
                have h2 : L 13 = false := hLi
                rw [h13x] at h2; cases h2
            have c9' : ff 9 = _ := hJ.pre 9 (by decide) (hwt 9 (by decide)) n20
            have c12' : ff 12 = _ := hJ.pre 12 (by decide) (hwt 12 (by decide)) n20
            have hI := hJ.inv n20
            have q1 := HSZ.out.1
            have q2 := HSZ.out.2.1
            have q3 := HSZ.out.2.2.1
            have q4 := HSZ.out.2.2.2
            have mm : ¬ 9223372036854775807 < (ds k).leg.size + 1 + (intB (ds k).cls).size + 1 + (intB (ds k).st).size := by omega
            clear q1 q2 q3 q4
            go_big_wp2_with fail
            refine hQ _ _ _ ?_ (hJ.pre_op (i := 13) (by decide) n20 hI rfl)
            first | rfl | (simp [upd, c9', c12']; done)
          · intro L ff kk ww hkk hJ hcl hLi hwt QQ' hQ
            try dsimp only
            have n20 : L 20 = false := by
              cases hx : L 20 with
              | false => rfl
              | true =>
                have h20x := hx
                have h18x : L 18 = true := hcl 20 _ rfl h20x 18 (by decide)
                have h14x : L 14 = true := hcl 18 _ rfl h18x 14 (by decide)
                have h2 : L 14 = false := hLi
                rw [h14x] at h2; cases h2
            have c13' : ff 13 = _ := hJ.pre 13 (by decide) (hwt 13 (by decide)) n20
            have hI := hJ.inv n20
            have q1 := HSZ.out.1
            have q2 := HSZ.out.2.1
            have q3 := HSZ.out.2.2.1
            have q4 := HSZ.out.2.2.2
            have mm : ¬ 9223372036854775807 < (ds k).leg.size + 1 + (intB (ds k).cls).size + 1 + (intB (ds k).st).size + 1 := by omega
            clear q1 q2 q3 q4
            go_big_wp2_with fail
            refine hQ _ _ _ ?_ (hJ.pre_op (i := 14) (by decide) n20 hI rfl)
            first | rfl | (simp [upd, c13']; done)
          · intro L ff kk ww hkk hJ hcl hLi hwt QQ' hQ
            try dsimp only
            have n20 : L 20 = false := by
              cases hx : L 20 with
              | false => rfl
              | true =>
                have h20x := hx
                have h18x : L 18 = true := hcl 20 _ rfl h20x 18 (by decide)
                have h17x : L 17 = true := hcl 18 _ rfl h18x 17 (by decide)
                have h16x : L 16 = true := hcl 17 _ rfl h17x 16 (by decide)
                have h15x : L 15 = true := hcl 16 _ rfl h16x 15 (by decide)
                have h2 : L 15 = false := hLi
                rw [h15x] at h2; cases h2
            have hI := hJ.inv n20
            go_big_wp2_with fail
            refine hQ _ _ _ ?_ (hJ.pre_op (i := 15) (by decide) n20 hI rfl)
            first | rfl | (simp [upd]; done)
          · intro L ff kk ww hkk hJ hcl hLi hwt QQ' hQ
            try dsimp only
            have n20 : L 20 = false := by
              cases hx : L 20 with
              | false => rfl
              | true =>
                have h20x := hx
                have h18x : L 18 = true := hcl 20 _ rfl h20x 18 (by decide)
                have h17x : L 17 = true := hcl 18 _ rfl h18x 17 (by decide)
                have h16x : L 16 = true := hcl 17 _ rfl h17x 16 (by decide)
                have h2 : L 16 = false := hLi
                rw [h16x] at h2; cases h2
            have c15' : ff 15 = _ := hJ.pre 15 (by decide) (hwt 15 (by decide)) n20
            have hI := hJ.inv n20
            obtain ⟨y0, y1, y2, y3⟩ := op_cells ((hI.block _ (lt_heap HX.out)).trans HX.out)
            simp only [Nat.zero_add] at y1 y2 y3
            go_big_wp2_with fail
            refine hQ _ _ _ ?_ (hJ.pre_op (i := 16) (by decide) n20 hI rfl)
            first | rfl | (simp [upd, c15']; done)
          · intro L ff kk ww hkk hJ hcl hLi hwt QQ' hQ
            try dsimp only
            have n20 : L 20 = false := by
              cases hx : L 20 with
              | false => rfl
              | true =>
                have h20x := hx
                have h18x : L 18 = true := hcl 20 _ rfl h20x 18 (by decide)
                have h17x : L 17 = true := hcl 18 _ rfl h18x 17 (by decide)
                have h2 : L 17 = false := hLi
                rw [h17x] at h2; cases h2
            have c16' : ff 16 = _ := hJ.pre 16 (by decide) (hwt 16 (by decide)) n20
            have hI := hJ.inv n20
            go_big_wp2_with fail
            refine (itoaZ (ds k).sh ww (laid_stays HLw3.out hI) HNB.out.2.2.1 HNB.out.2.2.2).mono ?_
            rintro e wa ⟨rfl, da⟩
            go_big_wp2_with fail
            refine hQ _ _ _ ?_ (hJ.pre_op (i := 17) (by decide) n20 (bt hI da) rfl)
            first | rfl | (simp [upd, c16']; done)
          · intro L ff kk ww hkk hJ hcl hLi hwt QQ' hQ
            try dsimp only
            have n20 : L 20 = false := by
              cases hx : L 20 with
              | false => rfl
              | true =>
                have h20x := hx
                have h18x : L 18 = true := hcl 20 _ rfl h20x 18 (by decide)
                have h2 : L 18 = false := hLi
                rw [h18x] at h2; cases h2
            have c14' : ff 14 = _ := hJ.pre 14 (by decide) (hwt 14 (by decide)) n20
            have c17' : ff 17 = _ := hJ.pre 17 (by decide) (hwt 17 (by decide)) n20
            have hI := hJ.inv n20
            have q1 := HSZ.out.1
            have q2 := HSZ.out.2.1
            have q3 := HSZ.out.2.2.1
            have q4 := HSZ.out.2.2.2
            have mm : ¬ 9223372036854775807 < (ds k).leg.size + 1 + (intB (ds k).cls).size + 1 + (intB (ds k).st).size + 1 + (intB (ds k).sh).size := by omega
            clear q1 q2 q3 q4
            go_big_wp2_with fail
            refine hQ _ _ _ ?_ (hJ.pre_op (i := 18) (by decide) n20 hI rfl)
            first | rfl | (simp [upd, c14', c17']; done)
          · intro L ff kk ww hkk hJ hcl hLi hwt QQ' hQ
            try dsimp only
            have n20 : L 20 = false := by
              cases hx : L 20 with
              | false => rfl
              | true =>
                have h20x := hx
                have h19x : L 19 = true := hcl 20 _ rfl h20x 19 (by decide)
                have h2 : L 19 = false := hLi
                rw [h19x] at h2; cases h2
            have c0' : ff 0 = _ := hJ.pre 0 (by decide) (hwt 0 (by decide)) n20
            have c1' : ff 1 = _ := hJ.pre 1 (by decide) (hwt 1 (by decide)) n20
            have hI := hJ.inv n20
            have i1 : (k : Int) < (n : Int) := by omega
            have i0 : (0 : Int) ≤ (k : Int) := by omega
            go_big_wp2_with fail
            refine hQ _ _ _ ?_ (hJ.pre_op (i := 19) (by decide) n20 hI rfl)
            first | rfl | (simp [upd, c0', c1']; done)
          · intro L ff kk ww hkk hJ hcl hLi hwt QQ' hQ
            try dsimp only
            have n20 : L 20 = false := hLi
            have c19' : ff 19 = _ := hJ.pre 19 (by decide) (hwt 19 (by decide)) n20
            have c18' : ff 18 = _ := hJ.pre 18 (by decide) (hwt 18 (by decide)) n20
            have hI := hJ.inv n20
            have ho := HOWN3.out.kept (row := none) ⟨hI.os, hI.tape, hI.output, hI.size, fun i hi _ => hI.block i hi⟩ (Or.inr (by simp [Value.ownBlock]))
            have hkl : k < xs.length := by have := ho.1; omega
            have cc : ww.cell? ⟨g, k, none⟩ = some (xs[k]'hkl) := by rw [ho.cellAt k (by omega)]; simp [hkl]
            have fz := ho.frozenAt k
            have HO := Lib.hid ho
            have HBg : Hid (Below g w3 ww) := hI.mono HG3.out
            clear hI ho
            go_big_wp2_with fail
            refine hQ _ undef _ ?_ (TS.end_op _ ⟨(HO.out.stored k _).1, HBg.out.setCell (Nat.le_refl _) _⟩)
            first | rfl | (simp [upd, c19', c18']; done)
        case hend =>
        intro L ff kk w4 hkb hL hJ
        try dsimp only
        obtain ⟨ho4, hb4⟩ := hJ.done (hL 20 (by decide))
        have HO4 := Lib.hid ho4
        have HB4 := Lib.hid hb4
        clear hJ hL ho4 hb4
        go_wp2
        go_roundw
        case rel =>
          refine ⟨k + 1, by omega, by go_num, _, HO4.out, fun j hj => ?_, HB3.out.trans HB4.out⟩
          have hkl : k < xs.length := by have := HOWN3.out.1; omega
          by_cases e : j = k
          · subst e; simp [hkl]
          · rw [List.getElem?_set_ne (by omega)]; exact hxs.out j (by omega)
        case measure => simp [intOf]; omega
      · obtain rfl : k = n := by omega
        have hcells : ∀ (j : Nat) x, (opWords ds k)[j]? = some x → wr.cell? ⟨g, 0 + j, none⟩ = some (.string x) := by
          intro j x hj
          have hjk : j < k := by
            have := (List.getElem?_eq_some_iff.1 hj).1
            rwa [opWords_len] at this
          rw [opWords_get ds k j hjk] at hj
          cases hj
          rw [Nat.zero_add, hown.cellAt j (by omega)]
          exact hxs.out j hjk
        have hlt := (hown.lt g rfl).2
        have hsz := opsB_size (ds := ds) k (fun i hi => (HOK.out.2 i hi).1)
        have hjoin := opsB_join ds k
        have hjl : (Lib.join ((opWords ds k).map (·.data.toList)) [44]).length ≤ 225 := by
          rw [← hjoin]
          have e : (opsB ds k).data.toList.length = (opsB ds k).size := Array.length_toList
          omega
        have J := Tryd.strings_Join g 0 k (opWords ds k) ⟨#[44]⟩ wr hcells hlt (by rw [opWords_len]; omega) (by rw [opWords_len]; omega) (by show (Lib.join ((opWords ds k).map (·.data.toList)) [44]).length ≤ _; omega)
        rw [opWords_len] at J
        have e1 : (⟨(Lib.join ((opWords ds k).map (·.data.toList)) [44]).toArray⟩ : ByteArray) = opsB ds k := by
          apply ByteArray.ext
          apply Array.ext'
          rw [hjoin]
        have HJ : Hid (Calls Tryd.prog 27 #[.slice (some ⟨g, 0, none⟩) k k, .string ⟨#[44]⟩] wr fun e w' => e = .returned (.string (opsB ds k)) ∧ Below wr.heap.size wr w') := by
          rw [← e1]
          exact J
        have HB := Lib.hid hb
        clear J hcells hown hxs hb hjoin hjl e1 hown1 hb2
        go_wp2_with fail
        refine HJ.out.mono ?_
        rintro e wj ⟨rfl, hbj⟩
        have HBj : Hid (Below w.heap.size w wj) := HB1.out.trans ((HB.out.trans (hbj.mono (by omega))).mono (by have := HB1.out.size; have := Hg.out; omega))
        clear hbj
        go_wp2
        go_ret
        exact ⟨_, rfl, ⟨fun _ => rfl, fun q => absurd HOK.out q⟩, HBj.out⟩
end Go.Proofs.YtlfmhhdlandcjaaDoor
