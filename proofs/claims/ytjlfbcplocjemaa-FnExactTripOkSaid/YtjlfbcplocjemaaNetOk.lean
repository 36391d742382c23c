/-
  Whether legs are a net: the model's answer and the program's.
-/
import Derived.Test.YtjlfbcplocjemaaNetPlace
import Derived.Test.YtjlfbcplocjemaaLegRowT
import Derived.Test.YtjlfbcplocjemaaFree
import Derived.Deep.Cut
namespace Go.Proofs.Ytjlfbcplocjemaa
open Go.RowKit
set_option linter.unusedVariables false
set_option linter.unusedSimpArgs false

/-- The first k legs: each is ok, none has a name that another one has. -/
def NetTo (k : Nat) (ds : Nat → LegD) : Prop := ∀ i, i < k → OkLeg (ds i) ∧ ∀ j, j < i → (ds j).name ≠ (ds i).name
def NetD (n : Nat) (ds : Nat → LegD) : Prop := n ≤ 6 ∧ NetTo n ds
theorem NetTo.next {k : Nat} {ds : Nat → LegD} (h : NetTo k ds) (h1 : OkLeg (ds k)) (h2 : ∀ j, j < k → (ds j).name ≠ (ds k).name) : NetTo (k + 1) ds := by
  intro i hi
  rcases Nat.lt_or_ge i k with q | q
  · exact h i q
  · obtain rfl : i = k := by omega
    exact ⟨h1, h2⟩
theorem place_at {n k : Nat} {ds : Nat → LegD} {r : Int} (hk : k < n) (h : PlaceIs ds n (ds k).name r) : (r = k ↔ ∀ j, j < k → (ds j).name ≠ (ds k).name) := by
  rcases h with ⟨rfl, h⟩ | ⟨j, hj, rfl, he, hf⟩
  · exact absurd rfl (h k hk)
  · constructor
    · intro e
      obtain rfl : j = k := by omega
      exact hf
    · intro e
      rcases Nat.lt_trichotomy j k with q | q | q
      · exact absurd he (e j q)
      · omega
      · exact absurd rfl (hf k q)
theorem place_ge {k : Nat} {ds : Nat → LegD} {s : ByteArray} {r : Int} (h : PlaceIs ds k s r) : (0 ≤ r ↔ ¬ ∀ j, j < k → (ds j).name ≠ s) := by
  rcases h with ⟨rfl, h⟩ | ⟨j, hj, rfl, he, hf⟩
  · exact ⟨fun q => by omega, fun q => absurd h q⟩
  · exact ⟨fun _ q => q j hj he, fun _ => by omega⟩
theorem Legs.upto {W : World} {a : Option Addr} {n k : Nat} {ds : Nat → LegD} {ps : Nat → LegP} (h : Legs W a n ds ps) (hk : k ≤ n) : Legs W a k ds ps := by
  rcases h with h | ⟨b, off, e, hb, hr⟩
  · exact .inl (by omega)
  · exact .inr ⟨b, off, e, hb, fun i hi => hr i (by omega)⟩
set_option maxHeartbeats 8000000 in
theorem netS (a : Option Addr) (n cap : Nat) (ds : Nat → LegD) (ps : Nat → LegP) (w : World) (h : Legs w a n ds ps) (hf : ∀ i, i < n → Fits (ds i)) (hl : n ≤ 1048576) :
    Calls Try.prog 9 #[.slice a n cap] w (OkPost (NetD n ds) (Below w.heap.size w)) := by
  have H := Lib.hid h
  have HF := Lib.hid hf
  clear h hf
  go_enter Try.func9, Try.ntmps9
  go_wp2_with fail
  go_loopw [3] (fun i wr => ∃ k : Nat, k ≤ n ∧ i = .int .i64 k ∧ Hid (NetTo k ds) ∧ Below w.heap.size w wr) (fun i _ => n - (intOf i).toNat)
  case atStart => exact ⟨0, Nat.zero_le _, rfl, fun j hj => absurd hj (Nat.not_lt_zero _), Below.refl _ _⟩
  case round =>
    obtain ⟨k, hk, rfl, hs, hb⟩ := hrel
    rcases Nat.lt_or_ge k n with hlt | hge
    · have HL := Lib.hid (H.out.kept hb)
      rcases HL.out with hc | ⟨b, off, ha, hbl, hrow⟩
      · omega
      subst ha
      have HR := Lib.hid (hrow k hlt).1
      have HI := Lib.hid (hrow k hlt).2
      have HB := Lib.hid hb
      have hk1 : (k : Int) < n := by omega
      have hk0 : (0 : Int) ≤ k := by omega
      clear hrow hbl hb
      have y0 := HR.out.c0
      have y1 := HR.out.c1
      have y2 := HR.out.c2
      have y3 := HR.out.c3
      have y4 := HR.out.c4
      have y5 := HR.out.c5
      have y6 := HR.out.c6
      have y7 := HR.out.c7
      have y8 := HR.out.c8
      have y9 := HR.out.c9
      go_wp2_with fail
      refine (okM (ds k) (ps k) wr HI.out (HF.out k hlt)).mono ?_
      rintro e w1 ⟨b1, rfl, hb1, d1⟩
      clear y0 y1 y2 y3 y4 y5 y6 y7 y8 y9
      have HB1 := Lib.hid (bt HB.out d1)
      have HL1 := Lib.hid (HL.out.kept d1)
      have y0 := (d1.cell (p := ⟨b, off + k * 10, none⟩) (World.block_lt_of_cell? wr _ HR.out.c0)).trans HR.out.c0
      clear d1
      cases b1 with
      | false =>
        have hno : Hid (¬ NetD n ds) := fun q => by have := hb1.out.2 (q.2 k hlt).1; cases this
        go_wp2
        go_ret
        exact ⟨false, rfl, ⟨fun q => (by cases q), fun q => absurd q hno.out⟩, HB1.out⟩
      | true =>
        have HOK := Lib.hid (hb1.out.1 rfl)
        clear hb1
        generalize hnm : (ds k).name = nm at *
        have Hnm := Lib.hid hnm
        clear hnm
        go_wp2_with fail
        refine (placeS _ n cap ds ps nm w1 HL1.out hl).mono ?_
        rintro e w2 ⟨r, rfl, hr, d2⟩
        have HB2 := Lib.hid (bt HB1.out d2)
        have hp := place_at hlt (by rw [Hnm.out]; exact hr.out)
        clear d2 y0 hr
        by_cases hrk : r = (k : Int)
        · subst hrk
          have HP := Lib.hid (hp.1 rfl)
          clear hp
          go_wp2
          go_roundw
          case rel => exact ⟨k + 1, by omega, by go_num, hs.out.next HOK.out HP.out, HB2.out⟩
          case measure => simp [intOf]; omega
        · have z : (r != (k : Int)) = true := by simpa using hrk
          have hno : Hid (¬ NetD n ds) := fun q => hrk (hp.2 (q.2 k hlt).2)
          clear hp hrk
          go_wp2
          go_ret
          exact ⟨false, rfl, ⟨fun q => (by cases q), fun q => absurd q hno.out⟩, HB2.out⟩
    · obtain rfl : k = n := by omega
      by_cases h6 : k ≤ 6
      · have z : decide ((k : Int) ≤ 6) = true := decide_eq_true (by omega)
        have zn : decide (k ≤ 6) = true := decide_eq_true h6
        go_wp2
        go_ret
        exact ⟨true, rfl, ⟨fun _ => ⟨h6, hs.out⟩, fun _ => rfl⟩, hb⟩
      · have z : decide ((k : Int) ≤ 6) = false := decide_eq_false (by omega)
        have zn : decide (k ≤ 6) = false := decide_eq_false h6
        go_wp2
        go_ret
        exact ⟨false, rfl, ⟨fun q => (by cases q), fun q => absurd q.1 h6⟩, hb⟩
def SNf (ds : Nat → LegD) (ps : Nat → LegP) (k n cap bx : Nat) (a : Option Addr) (nb : Bool) (i : Nat) (W : World) (v : Value) : Prop := match i with
  | 0 => v = LegV (ds k) (ps k)
  | 1 => v = .bool false
  | 2 => v = .bool true
  | 3 => v = .bool true
  | 4 => True
  | 5 => True
  | 6 => True
  | 7 => True
  | 8 => True
  | 9 => True
  | 10 => True
  | 11 => v = .bool true
  | _ => True
def SNt (ds : Nat → LegD) (ps : Nat → LegP) (k n cap bx : Nat) (a : Option Addr) (nb : Bool) (i : Nat) (W : World) (v : Value) : Prop := match i with
  | 0 => v = LegV (ds k) (ps k)
  | 1 => v = .bool true
  | 2 => v = .bool false
  | 3 => v = .bool false
  | 4 => v = .slice a n cap
  | 5 => v = .int .i64 (k : Int)
  | 6 => v = .slice a k cap
  | 7 => v = .pointer (some ⟨bx, 0, none⟩)
  | 8 => v = .string (ds k).name
  | 9 => ∃ r : Int, v = .int .i64 r ∧ decide (0 ≤ r) = nb
  | 10 => v = .bool nb
  | 11 => v = .bool nb
  | _ => True
theorem LegV_eqN (d : LegD) (p : LegP) : LegV d p = .agg (LegC d p) := rfl
theorem DepsN.get {S : Nat → World → Value → Prop} {f : Nat → Value} {w : World} : ∀ {l : List Nat}, Deps S f w l → ∀ {n : Nat}, n ∈ l → S n w (f n)
  | [], _, _, h => by cases h
  | m :: l, hd, n, h => by
    rcases List.mem_cons.1 h with e | e
    · subst e; exact hd.1
    · exact DepsN.get hd.2 e
set_option maxRecDepth 100000 in
set_option maxHeartbeats 16000000 in
theorem netI (a : Option Addr) (n cap : Nat) (ds : Nat → LegD) (ps : Nat → LegP) (w : World) (h : Legs w a n ds ps) (hf : ∀ i, i < n → Fits (ds i)) (hc : ∀ i, i < n → (ds i).nS ≤ (ps i).cS) (hl : n ≤ 1048576) (hlc : n ≤ cap) (hcm : cap ≤ 1048576) :
    Calls Try.prog 8 #[.slice a n cap] w (OkPost (NetD n ds) (Below w.heap.size w)) := by
  have H := Lib.hid h
  have HF := Lib.hid hf
  have HC := Lib.hid hc
  clear h hf hc
  rcases Nat.lt_or_ge 6 n with h6 | h6
  · have z : decide ((6 : Int) < (n : Int)) = true := decide_eq_true (by omega)
    have zn : decide (6 < n) = true := decide_eq_true h6
    go_enter Try.func8, Try.ntmps8
    go_wp2
    go_ret
    exact ⟨false, rfl, ⟨fun q => (by cases q), fun q => by have := q.1; omega⟩, Below.refl _ _⟩
  have z : decide ((6 : Int) < (n : Int)) = false := decide_eq_false (by omega)
  have zn : decide (6 < n) = false := decide_eq_false (by omega)
  go_enter Try.func8, Try.ntmps8
  go_wp2_with fail
  go_loopw [10] (fun i wr => ∃ k : Nat, k ≤ n ∧ i = .int .i64 k ∧ Hid (NetTo k ds) ∧ Below w.heap.size w wr) (fun i _ => n - (intOf i).toNat)
  case atStart => exact ⟨0, Nat.zero_le _, rfl, fun j hj => absurd hj (Nat.not_lt_zero _), Below.refl _ _⟩
  case round =>
    obtain ⟨k, hk, rfl, hs, hb⟩ := hrel
    rcases Nat.lt_or_ge k n with hlt | hge
    · have hbX := legRowBelow wr (LegC (ds k) (ps k))
      have hX : LegBx ((wr.alloc (.cells #[.string ⟨#[]⟩, .string ⟨#[]⟩, .string ⟨#[]⟩, .int .i64 0, .int .i64 0, .int .i64 0, .slice none 0 0, .slice none 0 0, .slice none 0 0, .slice none 0 0] 34)).setRow wr.heap.size (LegC (ds k) (ps k))) wr.heap.size 34 (ds k) (ps k) := legRowBox wr (ds k) (ps k)
      have HL0 := Lib.hid (H.out.kept hb)
      have HLr := Lib.hid (HL0.out.kept hbX)
      have HB1 := Lib.hid (bt hb hbX)
      have HX1 := Lib.hid hX
      rcases HL0.out with hc | ⟨b, off, ha, hbl, hrow⟩
      · omega
      subst ha
      have HR := Lib.hid (hrow k hlt).1
      have HI := Lib.hid ((hrow k hlt).2.kept hbX)
      have hk1 : (k : Int) < n := by omega
      have hk0 : (0 : Int) ≤ k := by omega
      clear hrow hbl hb hbX hX
      have y0 := HR.out.c0
      have y1 := HR.out.c1
      have y2 := HR.out.c2
      have y3 := HR.out.c3
      have y4 := HR.out.c4
      have y5 := HR.out.c5
      have y6 := HR.out.c6
      have y7 := HR.out.c7
      have y8 := HR.out.c8
      have y9 := HR.out.c9
      obtain ⟨nb, hnb⟩ : ∃ nb : Bool, nb = true ↔ ¬ ∀ j, j < k → (ds j).name ≠ (ds k).name := by
        by_cases q : ∀ j, j < k → (ds j).name ≠ (ds k).name
        · exact ⟨false, fun x => (by cases x), fun x => absurd q x⟩
        · exact ⟨true, fun _ => q, fun _ => rfl⟩
      have HNB := Lib.hid hnb
      obtain ⟨o, ho⟩ : ∃ o : Bool, o = true ↔ OkLeg (ds k) := by
        by_cases q : OkLeg (ds k)
        · exact ⟨true, fun _ => q, fun _ => rfl⟩
        · exact ⟨false, fun h => (by cases h), fun h => absurd h q⟩
      have HO := Lib.hid ho
      clear hnb ho
      cases o with
      | false =>
        go_upto_region 6 with (first
          | (refine wpList_store_row rfl 34 _ _ rfl wr.heap.size (LegC (ds k) (ps k)) rfl rfl 34 #[.string ⟨#[]⟩, .string ⟨#[]⟩, .string ⟨#[]⟩, .int .i64 0, .int .i64 0, .int .i64 0, .slice none 0 0, .slice none 0 0, .slice none 0 0, .slice none 0 0] (heap_alloc_new wr _) legSize rfl (leg_one (ds k) (ps k)) ?_)
          | fail)
        generalize (wr.alloc (.cells #[.string ⟨#[]⟩, .string ⟨#[]⟩, .string ⟨#[]⟩, .int .i64 0, .int .i64 0, .int .i64 0, .slice none 0 0, .slice none 0 0, .slice none 0 0, .slice none 0 0] 34)).setRow wr.heap.size (LegC (ds k) (ps k)) = w1 at *
        generalize wr.heap.size = bx at *
        clear y0 y1 y2 y3 y4 y5 y6 y7 y8 y9 HR HL0
        refine wp_region_free' (by kernel_rfl) (fun _ W => Below w1.heap.size w1 W) (fun _ _ => True) (SNf ds ps k n cap bx none nb) (by kernel_rfl) (fun i k v W W' h _ _ => h) ((Below.refl _ _).drew) ?_
        apply Exists.intro
        apply And.intro
        · intro f
          simp only [over, List.set]
          exact rfl
        refine ⟨?hopsF, ?hendF⟩
        case hopsF =>
          refine EachOp.cons ?_ (EachOp.cons ?_ (EachOp.cons ?_ (EachOp.cons ?_ (EachOp.cons ?_ (EachOp.cons ?_ (EachOp.cons ?_ (EachOp.cons ?_ (EachOp.cons ?_ (EachOp.cons ?_ (EachOp.cons ?_ (EachOp.cons ?_ (EachOp.nil))))))))))))
          · intro ff kk ww hkk hI hd QQ' hQ
            try dsimp only
            have qb := Lib.hid (HX1.out.kept hI)
            have y0 := qb.out.c0
            have y1 := qb.out.c1
            have y2 := qb.out.c2
            have y3 := qb.out.c3
            have y4 := qb.out.c4
            have y5 := qb.out.c5
            have y6 := qb.out.c6
            have y7 := qb.out.c7
            have y8 := qb.out.c8
            have y9 := qb.out.c9
            go_big_wp2_with fail
            refine hQ _ _ _ ?_ hI trivial rfl
            first | rfl | (simp [upd, LegV_eqN, LegC]; done)
          · intro ff kk ww hkk hI hd QQ' hQ
            try dsimp only
            have c0' : ff 0 = _ := DepsN.get hd (n := 0) (by decide)
            go_big_wp2_with fail
            refine (det (okI (ds k) (ps k) ww (HI.out.kept hI) (HF.out k hlt) (HC.out k hlt)) false (by simpa using HO.out)).mono ?_
            rintro e wa ⟨rfl, da⟩
            go_big_wp2_with fail
            refine hQ _ _ _ ?_ (bt hI da) trivial rfl
            first | rfl | (simp [upd, c0']; done)
          · intro ff kk ww hkk hI hd QQ' hQ
            try dsimp only
            have c1' : ff 1 = _ := DepsN.get hd (n := 1) (by decide)
            go_big_wp2_with fail
            refine hQ _ _ _ ?_ hI trivial rfl
            first | rfl | (simp [upd, c1']; done)
          · intro ff kk ww hkk hI hd QQ' hQ
            try dsimp only
            have c2' : ff 2 = _ := DepsN.get hd (n := 2) (by decide)
            go_big_wp2_with fail
            refine hQ _ _ _ ?_ hI trivial rfl
            first | rfl | (simp [upd, c2']; done)
          · intro ff kk ww hkk hI hd QQ' hQ
            try dsimp only
            have c3' : ff 3 = _ := DepsN.get hd (n := 3) (by decide)
            go_big_wp2_with fail
            refine hQ _ undef _ ?_ hI trivial trivial
            first | rfl | (simp [upd, c3']; done)
          · intro ff kk ww hkk hI hd QQ' hQ
            try dsimp only
            have c3' : ff 3 = _ := DepsN.get hd (n := 3) (by decide)
            go_big_wp2_with fail
            refine hQ _ undef _ ?_ hI trivial trivial
            first | rfl | (simp [upd, c3']; done)
          · intro ff kk ww hkk hI hd QQ' hQ
            try dsimp only
            have c3' : ff 3 = _ := DepsN.get hd (n := 3) (by decide)
            go_big_wp2_with fail
            refine hQ _ undef _ ?_ hI trivial trivial
            first | rfl | (simp [upd, c3']; done)
          · intro ff kk ww hkk hI hd QQ' hQ
            try dsimp only
            have c3' : ff 3 = _ := DepsN.get hd (n := 3) (by decide)
            go_big_wp2_with fail
            refine hQ _ undef _ ?_ hI trivial trivial
            first | rfl | (simp [upd, c3']; done)
          · intro ff kk ww hkk hI hd QQ' hQ
            try dsimp only
            have c3' : ff 3 = _ := DepsN.get hd (n := 3) (by decide)
            go_big_wp2_with fail
            refine hQ _ undef _ ?_ hI trivial trivial
            first | rfl | (simp [upd, c3']; done)
          · intro ff kk ww hkk hI hd QQ' hQ
            try dsimp only
            have c3' : ff 3 = _ := DepsN.get hd (n := 3) (by decide)
            go_big_wp2_with fail
            refine hQ _ undef _ ?_ hI trivial trivial
            first | rfl | (simp [upd, c3']; done)
          · intro ff kk ww hkk hI hd QQ' hQ
            try dsimp only
            have c3' : ff 3 = _ := DepsN.get hd (n := 3) (by decide)
            go_big_wp2_with fail
            refine hQ _ undef _ ?_ hI trivial trivial
            first | rfl | (simp [upd, c3']; done)
          · intro ff kk ww hkk hI hd QQ' hQ
            try dsimp only
            have c3' : ff 3 = _ := DepsN.get hd (n := 3) (by decide)
            go_big_wp2_with fail
            refine hQ _ _ _ ?_ hI trivial rfl
            first | rfl | (simp [upd, c3']; done)
        case hendF =>
        intro ff kk w2 d2 hS
        try dsimp only
        have cz : ff 11 = _ := hS 11 (by decide)
        rw [cz]
        have HB2 := Lib.hid (bt HB1.out d2)
        clear cz hS d2
        have hno : Hid (¬ NetD n ds) := fun q => by have := HO.out.2 (q.2 k hlt).1; cases this
        go_wp2
        go_ret
        exact ⟨false, rfl, ⟨fun q => (by cases q), fun q => absurd q hno.out⟩, HB2.out⟩
      | true =>
        go_upto_region 6 with (first
          | (refine wpList_store_row rfl 34 _ _ rfl wr.heap.size (LegC (ds k) (ps k)) rfl rfl 34 #[.string ⟨#[]⟩, .string ⟨#[]⟩, .string ⟨#[]⟩, .int .i64 0, .int .i64 0, .int .i64 0, .slice none 0 0, .slice none 0 0, .slice none 0 0, .slice none 0 0] (heap_alloc_new wr _) legSize rfl (leg_one (ds k) (ps k)) ?_)
          | fail)
        generalize (wr.alloc (.cells #[.string ⟨#[]⟩, .string ⟨#[]⟩, .string ⟨#[]⟩, .int .i64 0, .int .i64 0, .int .i64 0, .slice none 0 0, .slice none 0 0, .slice none 0 0, .slice none 0 0] 34)).setRow wr.heap.size (LegC (ds k) (ps k)) = w1 at *
        generalize wr.heap.size = bx at *
        clear y0 y1 y2 y3 y4 y5 y6 y7 y8 y9 HR HL0
        refine wp_region_free' (by kernel_rfl) (fun _ W => Below w1.heap.size w1 W) (fun _ _ => True) (SNt ds ps k n cap bx (some ⟨b, off, none⟩) nb) (by kernel_rfl) (fun i k v W W' h _ _ => h) ((Below.refl _ _).drew) ?_
        apply Exists.intro
        apply And.intro
        · intro f
          simp only [over, List.set]
          exact rfl
        refine ⟨?hopsT, ?hendT⟩
        case hopsT =>
          refine EachOp.cons ?_ (EachOp.cons ?_ (EachOp.cons ?_ (EachOp.cons ?_ (EachOp.cons ?_ (EachOp.cons ?_ (EachOp.cons ?_ (EachOp.cons ?_ (EachOp.cons ?_ (EachOp.cons ?_ (EachOp.cons ?_ (EachOp.cons ?_ (EachOp.nil))))))))))))
          · intro ff kk ww hkk hI hd QQ' hQ
            try dsimp only
            have qb := Lib.hid (HX1.out.kept hI)
            have y0 := qb.out.c0
            have y1 := qb.out.c1
            have y2 := qb.out.c2
            have y3 := qb.out.c3
            have y4 := qb.out.c4
            have y5 := qb.out.c5
            have y6 := qb.out.c6
            have y7 := qb.out.c7
            have y8 := qb.out.c8
            have y9 := qb.out.c9
            go_big_wp2_with fail
            refine hQ _ _ _ ?_ hI trivial rfl
            first | rfl | (simp [upd, LegV_eqN, LegC]; done)
          · intro ff kk ww hkk hI hd QQ' hQ
            try dsimp only
            have c0' : ff 0 = _ := DepsN.get hd (n := 0) (by decide)
            go_big_wp2_with fail
            refine (det (okI (ds k) (ps k) ww (HI.out.kept hI) (HF.out k hlt) (HC.out k hlt)) true (by simpa using HO.out)).mono ?_
            rintro e wa ⟨rfl, da⟩
            go_big_wp2_with fail
            refine hQ _ _ _ ?_ (bt hI da) trivial rfl
            first | rfl | (simp [upd, c0']; done)
          · intro ff kk ww hkk hI hd QQ' hQ
            try dsimp only
            have c1' : ff 1 = _ := DepsN.get hd (n := 1) (by decide)
            go_big_wp2_with fail
            refine hQ _ _ _ ?_ hI trivial rfl
            first | rfl | (simp [upd, c1']; done)
          · intro ff kk ww hkk hI hd QQ' hQ
            try dsimp only
            have c2' : ff 2 = _ := DepsN.get hd (n := 2) (by decide)
            go_big_wp2_with fail
            refine hQ _ _ _ ?_ hI trivial rfl
            first | rfl | (simp [upd, c2']; done)
          · intro ff kk ww hkk hI hd QQ' hQ
            try dsimp only
            have c3' : ff 3 = _ := DepsN.get hd (n := 3) (by decide)
            go_big_wp2_with fail
            refine hQ _ _ _ ?_ hI trivial rfl
            first | rfl | (simp [upd, c3']; done)
          · intro ff kk ww hkk hI hd QQ' hQ
            try dsimp only
            have c3' : ff 3 = _ := DepsN.get hd (n := 3) (by decide)
            go_big_wp2_with fail
            refine hQ _ _ _ ?_ hI trivial rfl
            first | rfl | (simp [upd, c3']; done)
          · intro ff kk ww hkk hI hd QQ' hQ
            try dsimp only
            have hkc : (k : Int) ≤ cap := by omega
            have c3' : ff 3 = _ := DepsN.get hd (n := 3) (by decide)
            have c4' : ff 4 = _ := DepsN.get hd (n := 4) (by decide)
            have c5' : ff 5 = _ := DepsN.get hd (n := 5) (by decide)
            go_big_wp2_with fail
            refine hQ _ _ _ ?_ hI trivial rfl
            first | rfl | (simp [upd, c3', c4', c5']; done)
          · intro ff kk ww hkk hI hd QQ' hQ
            try dsimp only
            have c3' : ff 3 = _ := DepsN.get hd (n := 3) (by decide)
            go_big_wp2_with fail
            refine hQ _ _ _ ?_ hI trivial rfl
            first | rfl | (simp [upd, c3']; done)
          · intro ff kk ww hkk hI hd QQ' hQ
            try dsimp only
            have y0 := (HX1.out.kept hI).c0
            have c3' : ff 3 = _ := DepsN.get hd (n := 3) (by decide)
            have c7' : ff 7 = _ := DepsN.get hd (n := 7) (by decide)
            go_big_wp2_with fail
            refine hQ _ _ _ ?_ hI trivial rfl
            first | rfl | (simp [upd, c3', c7']; done)
          · intro ff kk ww hkk hI hd QQ' hQ
            try dsimp only
            have c3' : ff 3 = _ := DepsN.get hd (n := 3) (by decide)
            have c6' : ff 6 = _ := DepsN.get hd (n := 6) (by decide)
            have c8' : ff 8 = _ := DepsN.get hd (n := 8) (by decide)
            go_big_wp2_with fail
            refine (placeI _ k cap ds ps (ds k).name ww ((HLr.out.upto hk).kept hI) (by omega)).mono ?_
            rintro e wa ⟨r, rfl, hr, da⟩
            have hrn : decide (0 ≤ r) = nb := by
              have h1 := place_ge hr.out
              have h2 := HNB.out
              cases nb with
              | true => exact decide_eq_true (h1.2 (h2.1 rfl))
              | false => exact decide_eq_false (fun q => by have := h2.2 (h1.1 q); cases this)
            go_big_wp2_with fail
            refine hQ _ _ wa ?_ (bt hI da) trivial ⟨r, rfl, hrn⟩
            first | rfl | (simp [upd, c3', c6', c8']; done)
          · intro ff kk ww hkk hI hd QQ' hQ
            try dsimp only
            have c3' : ff 3 = _ := DepsN.get hd (n := 3) (by decide)
            obtain ⟨r, c9, hrn⟩ := DepsN.get hd (n := 9) (by decide)
            have c9' : ff 9 = _ := c9
            go_big_wp2_with fail
            refine hQ _ _ _ ?_ hI trivial rfl
            first | rfl | (simp [upd, c3', c9', hrn]; done)
          · intro ff kk ww hkk hI hd QQ' hQ
            try dsimp only
            have c3' : ff 3 = _ := DepsN.get hd (n := 3) (by decide)
            have c10' : ff 10 = _ := DepsN.get hd (n := 10) (by decide)
            go_big_wp2_with fail
            refine hQ _ _ _ ?_ hI trivial rfl
            first | rfl | (simp [upd, c3', c10']; done)
        case hendT =>
        intro ff kk w2 d2 hS
        try dsimp only
        have cz : ff 11 = _ := hS 11 (by decide)
        rw [cz]
        have HB2 := Lib.hid (bt HB1.out d2)
        clear cz hS d2
        cases nb with
        | true =>
          have hno : Hid (¬ NetD n ds) := fun q => HNB.out.1 rfl (q.2 k hlt).2
          go_wp2
          go_ret
          exact ⟨false, rfl, ⟨fun q => (by cases q), fun q => absurd q hno.out⟩, HB2.out⟩
        | false =>
          have hall : Hid (∀ j, j < k → (ds j).name ≠ (ds k).name) := Classical.byContradiction fun q => by have := HNB.out.2 q; cases this
          have HOK := Lib.hid (HO.out.1 rfl)
          go_wp2
          go_roundw
          case rel => exact ⟨k + 1, by omega, by go_num, hs.out.next HOK.out hall.out, HB2.out⟩
          case measure => simp [intOf]; omega
    · obtain rfl : k = n := by omega
      go_wp2
      go_ret
      exact ⟨true, rfl, ⟨fun _ => ⟨h6, hs.out⟩, fun _ => rfl⟩, hb⟩

end Go.Proofs.Ytjlfbcplocjemaa
