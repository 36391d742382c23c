/-
  The law that holds the program's TripOk against the model's.
-/
import Derived.Test.YtjlfbcplocjemaaTripOkT
import Derived.Test.YtjlfbcplocjemaaOpenNet
import Derived.Test.YtjlfbcplocjemaaNetCopy
import Derived.Test.YtjlfbcplocjemaaOpenTrip
namespace Go.Proofs.Ytjlfbcplocjemaa
open Go.RowKit
set_option linter.unusedVariables false
set_option linter.unusedSimpArgs false

def TakeS (n cap : Nat) (a : Option Addr) (ds : Nat → LegD) (ta : Option Addr) (tcap : Nat) (ss : List ByteArray) (f : ByteArray) (m : Int) (B : Bool) (i : Nat) (W : World) (v : Value) : Prop := match i with
  | 0 => v = .slice a n cap
  | 1 => ∃ (g : Nat) (qs : Nat → LegP), v = .slice (some ⟨g, 0, none⟩) n n ∧ Legs W (some ⟨g, 0, none⟩) n ds qs
  | 2 => v = .agg #[.slice ta ss.length tcap, .string f, .int .i64 m]
  | 3 => ∃ g : Nat, v = .agg #[.slice (some ⟨g, 0, none⟩) ss.length ss.length, .string f, .int .i64 m] ∧ Strs W (some ⟨g, 0, none⟩) ss.length ss
  | 4 => v = .bool B
  | 5 => v = .bool B
  | _ => True
theorem TakeS.kept {n cap : Nat} {a : Option Addr} {ds : Nat → LegD} {ta : Option Addr} {tcap : Nat} {ss : List ByteArray} {f : ByteArray} {m : Int} {B : Bool} {i : Nat} {W W' : World} {v : Value} (h : TakeS n cap a ds ta tcap ss f m B i W v) (hb : Below W.heap.size W W') : TakeS n cap a ds ta tcap ss f m B i W' v := by
  match i, h with
  | 0, h => exact h
  | 1, ⟨g, qs, h1, h2⟩ => exact ⟨g, qs, h1, h2.kept hb⟩
  | 2, h => exact h
  | 3, ⟨g, h1, h2⟩ => exact ⟨g, h1, h2.kept hb⟩
  | 4, h => exact h
  | 5, h => exact h
  | i + 6, h => exact h
theorem tripRowBelow (w : World) (cs : Array Value) : Below w.heap.size w ((w.alloc (.cells #[.slice none 0 0, .string ⟨#[]⟩, .int .i64 0] 26)).setRow w.heap.size cs) := ((Below.refl _ _).alloc (Nat.le_refl _) _).grown (grown_setRow _ _ _) (by simp only [World.size_alloc]; omega) (fun k e => by cases e; exact Nat.le_refl _)
set_option maxRecDepth 100000 in
set_option maxHeartbeats 8000000 in
theorem exactTripOk (a : Option Addr) (n cap : Nat) (ds : Nat → LegD) (ps : Nat → LegP) (ta : Option Addr) (tl tcap : Nat) (z : List ByteArray) (f : ByteArray) (m : Int) (w : World) (w0 : IsNet w a n cap ds ps) (w1 : TripRow w ta tl tcap z f m) :
    Calls Try.prog 4 #[.slice a n cap, .agg #[.slice ta tl tcap, .string f, .int .i64 m]] w fun e w' => e = .returned (.bool true) ∧ Below w.heap.size w w' := by
  obtain ⟨hlc, hcm, hleg, hw⟩ := w0
  obtain ⟨hrow, hfz⟩ := w1
  obtain ⟨hStr, hlc2, hcm2⟩ := strs_of_row hrow
  have hss := size_of_row hrow
  unfold maxLen at hfz hcm2 hcm
  generalize z.take tl = ss at *
  obtain rfl : ss.length = tl := hStr.1
  have hn : (n : Int) ≤ 9223372036854775807 := by omega
  have HL := Lib.hid hleg
  have HW := Lib.hid hw
  have HS := Lib.hid hStr
  have Hss := Lib.hid hss
  have hbA : Below w.heap.size w (w.alloc (.cells #[.slice ta ss.length tcap, .string f, .int .i64 m] 37)) := (Below.refl _ _).alloc (Nat.le_refl _) _
  have HbA := Lib.hid hbA
  have HA := Lib.hid (heap_alloc_new w (.cells #[.slice ta ss.length tcap, .string f, .int .i64 m] 37))
  clear hleg hw hcm hStr hss hrow hbA
  go_enter Try.func4, Try.ntmps4
  go_wp2_with fail
  refine (szNet a n cap ds ps _ (HL.out.kept HbA.out) hn HW.out).mono ?_
  rintro e w1 ⟨r, r0, r1, rfl, hr, d1⟩
  have HB1 := Lib.hid (bt HbA.out d1)
  have HA1 := Lib.hid ((d1.block _ (by simp)).trans HA.out)
  clear d1
  rcases Int.lt_or_le r 0 with c | c
  · have z0 : decide (r < 0) = true := decide_eq_true c
    go_wp2
    go_ret
    exact ⟨rfl, HB1.out⟩
  have z0 : decide (r < 0) = false := decide_eq_false (by omega)
  obtain ⟨hn2, hf⟩ := hr.out c
  have HF := Lib.hid hf
  obtain ⟨x0, x1, x2⟩ := row3 HA1.out
  clear hr hf
  go_wp2_with fail
  refine (szTripL r ta ss.length tcap ss f m _ c r1 (HS.out.kept HB1.out) (by omega) Hss.out (by omega)).mono ?_
  rintro e w2 ⟨r2, r20, r21, rfl, hr2, d2⟩
  have HB2 := Lib.hid (bt HB1.out d2)
  have HA2 := Lib.hid ((d2.block _ (lt_heap HA1.out)).trans HA1.out)
  clear d2 x0 x1 x2 z0
  rcases Int.lt_or_le r2 0 with c2 | c2
  · have z0 : decide (r2 < 0) = true := decide_eq_true c2
    go_wp2
    go_ret
    exact ⟨rfl, HB2.out⟩
  have z0 : decide (r2 < 0) = false := decide_eq_false (by omega)
  obtain ⟨ht, hf2⟩ := hr2.out c2
  have hl2 : ss.length ≤ 1048576 := by omega
  have hat : Hid (∀ i, i < ss.length → (legAt ss i).size ≤ 1048576) := fun i _ => by have := total_at ss i; omega
  have HL2 := Lib.hid (HL.out.kept HB2.out)
  have HS2 := Lib.hid (HS.out.kept HB2.out)
  obtain ⟨B, hB⟩ : ∃ B : Bool, B = true ↔ TripD n ds ss f m := by
    by_cases q : TripD n ds ss f m
    · exact ⟨true, fun _ => q, fun _ => rfl⟩
    · exact ⟨false, fun x => (by cases x), fun x => absurd x q⟩
  have HBB := Lib.hid hB
  clear hr2 ht hB
  go_upto_region 8 with fail
  refine wp_region_free' (by kernel_rfl) (fun _ W => Below w2.heap.size w2 W) (fun W W' => Below W.heap.size W W') (TakeS n cap a ds ta tcap ss f m B) (by kernel_rfl) (fun i k v W W' h _ hb => h.kept hb) ((Below.refl _ _).drew) ?_
  apply Exists.intro
  apply And.intro
  · intro f
    simp only [over, List.set]
    exact rfl
  refine ⟨?hopsA, ?hendA⟩
  case hopsA =>
    refine EachOp.cons ?_ (EachOp.cons ?_ (EachOp.cons ?_ (EachOp.cons ?_ (EachOp.cons ?_ (EachOp.cons ?_ (EachOp.nil))))))
    · intro ff kk ww hkk hI hd QQ' hQ
      try dsimp only
      go_big_wp2_with fail
      refine hQ _ _ _ ?_ hI (Below.refl _ _) rfl
      first | rfl | (simp [upd]; done)
    · intro ff kk ww hkk hI hd QQ' hQ
      try dsimp only
      have c0' : ff 0 = _ := DepsT.get hd (n := 0) (by decide)
      go_big_wp2_with fail
      refine (toNet a n cap ds ps ww (HL2.out.kept hI) HF.out hn2).mono ?_
      rintro e wa ⟨g1, q1, -, rfl, hq1, -, da⟩
      go_big_wp2_with fail
      refine hQ _ _ wa ?_ (bt hI da) da ⟨g1, q1, rfl, hq1⟩
      first | rfl | (simp [upd, c0']; done)
    · intro ff kk ww hkk hI hd QQ' hQ
      try dsimp only
      obtain ⟨x0, x1, x2⟩ := row3 ((hI.block _ (lt_heap HA2.out)).trans HA2.out)
      go_big_wp2_with fail
      refine hQ _ _ _ ?_ hI (Below.refl _ _) rfl
      first | rfl | (simp [upd]; done)
    · intro ff kk ww hkk hI hd QQ' hQ
      try dsimp only
      have c2' : ff 2 = _ := DepsT.get hd (n := 2) (by decide)
      go_big_wp2_with fail
      refine (toTripS ta ss.length tcap ss f m ww (HS2.out.kept hI) hl2).mono ?_
      rintro e wa ⟨g1, hg, rfl, hs1, da⟩
      go_big_wp2_with fail
      refine hQ _ _ wa ?_ (bt hI da) da ⟨g1, rfl, hs1⟩
      first | rfl | (simp [upd, c2']; done)
    · intro ff kk ww hkk hI hd QQ' hQ
      try dsimp only
      obtain ⟨g1, q1, c1, hL1⟩ := DepsT.get hd (n := 1) (by decide)
      obtain ⟨g3, c3, hS3⟩ := DepsT.get hd (n := 3) (by decide)
      have c1' : ff 1 = _ := c1
      have c3' : ff 3 = _ := c3
      go_big_wp2_with fail
      refine (tripS (some ⟨g1, 0, none⟩) n n ds q1 (some ⟨g3, 0, none⟩) ss.length ss f m ww hL1 HF.out hn2 hS3 hl2 hat.out hf2).mono ?_
      rintro e wa ⟨b2, rfl, hb2, da⟩
      obtain rfl : b2 = B := detT hb2.out HBB.out
      go_big_wp2_with fail
      refine hQ _ _ wa ?_ (bt hI da) da rfl
      first | rfl | (simp [upd, c1', c3']; done)
    · intro ff kk ww hkk hI hd QQ' hQ
      try dsimp only
      have c4' : ff 4 = _ := DepsT.get hd (n := 4) (by decide)
      go_big_wp2_with fail
      refine hQ _ _ _ ?_ hI (Below.refl _ _) rfl
      first | rfl | (simp [upd, c4']; done)
  case hendA =>
  intro ff kk w3 d3 hS
  try dsimp only
  have cz : ff 5 = _ := hS 5 (by decide)
  rw [cz]
  have HB3 := Lib.hid (bt HB2.out d3)
  have HA3 := Lib.hid ((d3.block _ (lt_heap HA2.out)).trans HA2.out)
  clear cz hS d3
  go_wp2_with fail
  refine (toNet a n cap ds ps w3 (HL.out.kept HB3.out) HF.out hn2).mono ?_
  rintro e w4 ⟨g4, q4, -, rfl, hq4, hc4, d4⟩
  have HB4 := Lib.hid (bt HB3.out d4)
  have HA4 := Lib.hid ((d4.block _ (lt_heap HA3.out)).trans HA3.out)
  have HQ4 := Lib.hid hq4
  have HC4 := Lib.hid hc4
  obtain ⟨x0, x1, x2⟩ := row3 HA4.out
  clear hq4 hc4 d4
  go_wp2_with fail
  refine (toTripS ta ss.length tcap ss f m w4 (HS.out.kept HB4.out) hl2).mono ?_
  rintro e w5 ⟨g5, hg5, rfl, hs5, d5⟩
  have HX6 : Hid (((w5.alloc (.cells #[.slice none 0 0, .string ⟨#[]⟩, .int .i64 0] 26)).setRow w5.heap.size #[.slice (some ⟨g5, 0, none⟩) ss.length ss.length, .string f, .int .i64 m]).heap[w5.heap.size]? = some (.cells #[.slice (some ⟨g5, 0, none⟩) ss.length ss.length, .string f, .int .i64 m] 26 (0, 0))) := setRow_heap _ w5.heap.size _ _ _ _ (heap_alloc_new w5 _)
  have hbX := tripRowBelow w5 #[.slice (some ⟨g5, 0, none⟩) ss.length ss.length, .string f, .int .i64 m]
  have HB6 := Lib.hid (bt (bt HB4.out d5) hbX)
  have HA6 := Lib.hid (((bt d5 hbX).block _ (lt_heap HA4.out)).trans HA4.out)
  have HQ6 := Lib.hid (HQ4.out.kept (bt d5 hbX))
  have HS6 := Lib.hid (hs5.kept hbX)
  have one : (#[.slice (some ⟨g5, 0, none⟩) ss.length ss.length, .string f, .int .i64 m] : Array Value).all (·.oneCell') = true := by simp [Value.oneCell']
  clear hs5 hbX d5 x0 x1 x2
  obtain ⟨x0, x1, x2⟩ := row3 HX6.out
  go_wp2_with (first
    | (refine wpList_store_row rfl 26 _ _ rfl w5.heap.size #[.slice (some ⟨g5, 0, none⟩) ss.length ss.length, .string f, .int .i64 m] rfl rfl 26 #[.slice none 0 0, .string ⟨#[]⟩, .int .i64 0] (heap_alloc_new w5 _) tripSize rfl one ?_)
    | fail)
  generalize (w5.alloc (.cells #[.slice none 0 0, .string ⟨#[]⟩, .int .i64 0] 26)).setRow w5.heap.size #[.slice (some ⟨g5, 0, none⟩) ss.length ss.length, .string f, .int .i64 m] = w6 at *
  generalize w5.heap.size = bx at *
  clear one
  refine (tripI _ n n ds q4 _ ss.length ss f m w6 HQ6.out HF.out (fun i hi => (HC4.out i hi).2.1) (Nat.le_refl _) hn2 hn2 HS6.out (Nat.le_refl _) hl2 hat.out hf2).mono ?_
  rintro e w7 ⟨b7, rfl, hb7, d7⟩
  obtain rfl : b7 = B := detT hb7.out HBB.out
  have zb : (b7 != b7) = false := by simp
  have HB7 := Lib.hid (bt HB6.out d7)
  have HA7 := Lib.hid ((d7.block _ (lt_heap HA6.out)).trans HA6.out)
  have HX7 := Lib.hid ((d7.block _ (lt_heap HX6.out)).trans HX6.out)
  have HQ7 := Lib.hid (HQ6.out.kept d7)
  have HS7 := Lib.hid (HS6.out.kept d7)
  clear hb7 d7 x0 x1 x2
  go_wp2_with fail
  refine (toNet a n cap ds ps w7 (HL.out.kept HB7.out) HF.out hn2).mono ?_
  rintro e w8 ⟨g8, q8, -, rfl, hq8, -, d8⟩
  have HB8 := Lib.hid (bt HB7.out d8)
  have HA8 := Lib.hid ((d8.block _ (lt_heap HA7.out)).trans HA7.out)
  have HX8 := Lib.hid ((d8.block _ (lt_heap HX7.out)).trans HX7.out)
  have HQ8 := Lib.hid (HQ7.out.kept d8)
  have HR8 := Lib.hid hq8
  have HS8 := Lib.hid (HS7.out.kept d8)
  clear hq8 d8
  go_wp2_with fail
  refine (eqNet _ _ n n n ds q4 q8 w8 HQ8.out HR8.out HF.out hn2).mono ?_
  rintro e w9 ⟨rfl, d9⟩
  have HB9 := Lib.hid (bt HB8.out d9)
  have HA9 := Lib.hid ((d9.block _ (lt_heap HA8.out)).trans HA8.out)
  have HX9 := Lib.hid ((d9.block _ (lt_heap HX8.out)).trans HX8.out)
  have HS9 := Lib.hid (HS8.out.kept d9)
  obtain ⟨x0, x1, x2⟩ := row3 HA9.out
  obtain ⟨y0, y1, y2⟩ := row3 HX9.out
  clear d9
  go_wp2_with fail
  go_region_with (first
    | (go_at_call 13; refine (toTripS ta ss.length tcap ss f m _ (HS.out.kept (belowN HB9.out 1)) hl2).mono ?_; rintro e wa ⟨g3, hg3, rfl, hS6, hbb6⟩; have hb6 : Below w9.heap.size w9 wa := (Below.refl _ w9).drew.trans hbb6; obtain ⟨u0, u1, u2⟩ := row3 ((hb6.block _ (lt_heap HX9.out)).trans HX9.out))
    | (go_at_call 15; refine (eqTripS (some ⟨g5, 0, none⟩) (some ⟨g3, 0, none⟩) ss.length ss.length ss.length ss f m _ (HS9.out.kept hb6) hS6 hl2).mono ?_; rintro e wb ⟨rfl, hb7⟩))
  all_goals
    go_wp2
    go_ret
    exact ⟨rfl, bt (bt HB9.out hb6) hb7⟩
end Go.Proofs.Ytjlfbcplocjemaa
