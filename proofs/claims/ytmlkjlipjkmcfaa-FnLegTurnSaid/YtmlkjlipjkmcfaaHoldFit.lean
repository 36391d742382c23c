/-
  What is held more: that there is an answer, and what it does to room and worth.
  Seats are held: the program's answer.
  Seats are held: the model's answer.
-/
import Derived.Test.YtmlkjlipjkmcfaaLegHoldMath
import Derived.Test.YtmlkjlipjkmcfaaLegBid
import Derived.Test.YtmlkjlipjkmcfaaOkMath
import Derived.Test.YtmlkjlipjkmcfaaLegDropI
import Derived.Test.YtmlkjlipjkmcfaaLegDropS
import Derived.Test.YtmlkjlipjkmcfaaLegHoldM
import Derived.Test.YtmlkjlipjkmcfaaLegRowT
namespace Go.Proofs.Ytmlkjlipjkmcfaa
open Go.RowKit
set_option linter.unusedVariables false
set_option linter.unusedSimpArgs false

theorem heldAt_ex {d : LegD} (ho : HoldsOk d) (t : Int) : ∃ k, HeldAt d t k := by
  have key : ∀ n, n ≤ d.nH → ∃ k, k ≤ n ∧ (∀ i, i < k → d.t i < t) ∧ (k < n → t ≤ d.t k) := by
    intro n
    induction n with
    | zero => exact fun _ => ⟨0, Nat.le_refl _, fun i hi => absurd hi (Nat.not_lt_zero _), fun h => absurd h (Nat.lt_irrefl _)⟩
    | succ n ih =>
      intro hn
      obtain ⟨k, h1, h2, h3⟩ := ih (by omega)
      rcases Nat.lt_or_ge k n with h | h
      · exact ⟨k, by omega, h2, fun _ => h3 h⟩
      · obtain rfl : k = n := by omega
        rcases Int.lt_or_le (d.t k) t with q | q
        · exact ⟨k + 1, Nat.le_refl _, fun i hi => by
            rcases Nat.lt_or_ge i k with r | r
            · exact h2 i r
            · obtain rfl : i = k := by omega
              exact q, fun h => absurd h (Nat.lt_irrefl _)⟩
        · exact ⟨k, by omega, h2, fun _ => q⟩
  exact key d.nH (Nat.le_refl _)
theorem holdIs_ex (d : LegD) (t c s share : Int) : ∃ g b, HoldIs d t c s share g b := by
  by_cases h : OkLeg d
  · by_cases k : CanPut d t c s share
    · obtain ⟨q, hq⟩ := heldAt_ex h.2.2.1 t
      exact ⟨putD d q t c s, true, fun x => absurd h x, fun _ => ⟨⟨fun _ => k, fun _ => rfl⟩, fun _ => ⟨q, hq, rfl⟩, fun x => (by cases x)⟩⟩
    · exact ⟨d, false, fun x => absurd h x, fun _ => ⟨⟨fun x => (by cases x), fun x => absurd x k⟩, fun x => (by cases x), fun _ => rfl⟩⟩
  · exact ⟨zeroD, false, fun _ => ⟨rfl, rfl⟩, fun x => absurd x h⟩
theorem fits_ofHold {d g : LegD} {t c s share : Int} {b : Bool} (hf : Fits d) (h : HoldIs d t c s share g b) : Fits g := by
  by_cases q : OkLeg d
  · obtain ⟨h1, h2, h3⟩ := h.2 q
    obtain ⟨f1, f2, f3, f4, f5, f6, f7⟩ := hf
    have h6 := q.2.2.1.1
    cases b with
    | false => rw [h3 rfl]; exact ⟨f1, f2, f3, f4, f5, f6, f7⟩
    | true =>
      obtain ⟨k, -, rfl⟩ := h2 rfl
      exact ⟨f1, f2, f3, f4, f5, f6, by show d.nH + 1 ≤ _; omega⟩
  · rw [(h.1 q).1]
    exact ⟨by decide, by decide, by decide, by decide, by decide, by decide, by decide⟩
theorem okLeg_ofHold {d g : LegD} {t c s share : Int} (ho : OkLeg d) (h : HoldIs d t c s share g true) : OkLeg g := by
  obtain ⟨h1, h2, -⟩ := h.2 ho
  obtain ⟨k, hk, rfl⟩ := h2 rfl
  exact okLeg_put ho hk (h1.1 rfl)
theorem falls_mono {z : Nat → Int} {n : Nat} {most : Int} (h : Falls z n most) : ∀ (i j : Nat), i ≤ j → j < n → z j ≤ z i
  | i, 0, hij, hj => by
    obtain rfl : i = 0 := by omega
    exact Int.le_refl _
  | i, j + 1, hij, hj => by
    rcases Nat.lt_or_ge i (j + 1) with r | r
    · have ih := falls_mono h i j (by omega) (by omega)
      have := (h (j + 1) hj).2
      rw [if_neg (by omega)] at this
      have e : j + 1 - 1 = j := by omega
      rw [e] at this
      omega
    · obtain rfl : i = j + 1 := by omega
      exact Int.le_refl _
theorem left_put (d : LegD) {k : Nat} (t c s : Int) (hk : k ≤ d.nH) (q : Nat) : leftB (putD d k t c s) q = leftB d q - (if (q : Int) ≤ c then max s 0 else 0) := by
  have := used_put d t c s hk q
  unfold leftB
  show d.L q - usedB (putD d k t c s) q = _
  omega
theorem room_put_le (d : LegD) {k : Nat} (t c s : Int) (hk : k ≤ d.nH) : ∀ m, roomN (putD d k t c s) m ≤ roomN d m ∧ roomN d m - max s 0 ≤ roomN (putD d k t c s) m
  | 0 => by show d.cap ≤ d.cap ∧ d.cap - max s 0 ≤ d.cap; omega
  | m + 1 => by
    have ih := room_put_le d t c s hk m
    have hl := left_put d t c s hk m
    simp only [roomN]
    split at hl <;> omega
theorem bid_put {d : LegD} (ho : OkLeg d) {k : Nat} {t c s share : Int} (hk : HeldAt d t k) (hc : CanPut d t c s share) : bidB d ≤ bidB (putD d k t c s) := by
  have hg := okLeg_put ho hk hc
  have h1 := room_put_le d t c s hk.1 1
  have h2 := ho.room0 1 (by omega)
  have h3 := hg.room0 1 (by omega)
  have hn := ho.2.1.2.2.2.2.1.1
  unfold bidB
  exact falls_mono ho.2.1.2.2.2.2.2.1 _ _ (show (min (roomN (putD d k t c s) 1) ((d.nB : Int) - 1)).toNat ≤ _ by omega) (by omega)
theorem bid_ge {d : LegD} (ho : OkLeg d) : 0 ≤ bidB d := by
  have h2 := ho.room0 1 (by omega)
  have hn := ho.2.1.2.2.2.2.1.1
  unfold bidB
  exact (falls_top ho.2.1.2.2.2.2.2.1 _ (by omega)).1
/-- What FnLegBid asks of a leg of which one more seat is held. -/
theorem bid_more {d g : LegD} {t c s share : Int} {b b2 : Int} {x : Bool} (h : HoldIs d t c s share g x) (hb : IsBid d b) (hb2 : IsBid g b2) : 0 ≤ b ∧ (x = true → b ≤ b2) := by
  by_cases ho : OkLeg d
  · rw [hb.1 ho]
    refine ⟨bid_ge ho, fun hx => ?_⟩
    subst hx
    have hg := okLeg_ofHold ho h
    rw [hb2.1 hg]
    obtain ⟨h1, h2, -⟩ := h.2 ho
    obtain ⟨k, hk, rfl⟩ := h2 rfl
    exact bid_put ho hk (h1.1 rfl)
  · rw [hb.2 ho]
    exact ⟨Int.le_refl _, fun hx => by have := (h.1 ho).2; rw [hx] at this; cases this⟩
theorem bid_nn {d : LegD} {b : Int} (hb : IsBid d b) : 0 ≤ b := by
  by_cases ho : OkLeg d
  · rw [hb.1 ho]; exact bid_ge ho
  · rw [hb.2 ho]; exact Int.le_refl _
theorem room_le_lim {d : LegD} (ho : OkLeg d) {c : Nat} (hc : c ≤ 2) : roomN d (c + 1) ≤ d.L c := by
  have h1 := room_le d c c (Nat.le_refl _)
  have hu := (usedB_box ho.sized.2.1 ho.sized.2.2.1 c (by omega)).1
  unfold leftB at h1
  omega
theorem room_next (d : LegD) (c : Nat) : roomN d (c + 2) ≤ roomN d (c + 1) := by
  show min (roomN d (c + 1)) (leftB d (c + 1)) ≤ _
  omega
end Go.Proofs.Ytmlkjlipjkmcfaa

namespace Go.Proofs.Ytmlkjlipjkmcfaa
open Go.RowKit
set_option linter.unusedVariables false
set_option linter.unusedSimpArgs false

set_option maxRecDepth 100000 in
set_option maxHeartbeats 8000000 in
theorem LegHoldI (d : LegD) (p : LegP) (t c s share : Int) (w : World) (hin : LegIn w d p) (hf : Fits d) (hc : d.nS ≤ p.cS) :
    Calls Try.prog 15 #[LegV d p, .agg #[.int .i64 t, .int .i64 c, .int .i64 s], .int .i64 share] w (HoldPost d t c s share w) := by
  have hbC : Below w.heap.size w (((w.alloc (.cells (LegC d p) 31)).alloc (.cells #[.int .i64 t, .int .i64 c, .int .i64 s] 35)).alloc (.cells #[.string ⟨#[]⟩, .string ⟨#[]⟩, .string ⟨#[]⟩, .int .i64 0, .int .i64 0, .int .i64 0, .slice none 0 0, .slice none 0 0, .slice none 0 0, .slice none 0 0] 31)) := (((Below.refl _ _).alloc (Nat.le_refl _) _).alloc (by simp) _).alloc (by simp only [World.size_alloc]; omega) _
  have hX : LegBox (((w.alloc (.cells (LegC d p) 31)).alloc (.cells #[.int .i64 t, .int .i64 c, .int .i64 s] 35)).alloc (.cells #[.string ⟨#[]⟩, .string ⟨#[]⟩, .string ⟨#[]⟩, .int .i64 0, .int .i64 0, .int .i64 0, .slice none 0 0, .slice none 0 0, .slice none 0 0, .slice none 0 0] 31)) w.heap.size d p := ((LegBox.new w d p).kept ((Below.refl _ _).alloc (Nat.le_refl _) _)).kept ((Below.refl _ _).alloc (Nat.le_refl _) _)
  have hQ : (((w.alloc (.cells (LegC d p) 31)).alloc (.cells #[.int .i64 t, .int .i64 c, .int .i64 s] 35)).alloc (.cells #[.string ⟨#[]⟩, .string ⟨#[]⟩, .string ⟨#[]⟩, .int .i64 0, .int .i64 0, .int .i64 0, .slice none 0 0, .slice none 0 0, .slice none 0 0, .slice none 0 0] 31)).heap[w.heap.size + 1]? = some (.cells #[.int .i64 t, .int .i64 c, .int .i64 s] 35 (0, 0)) := by
    have := heap_alloc_new (w.alloc (.cells (LegC d p) 31)) (.cells #[.int .i64 t, .int .i64 c, .int .i64 s] 35)
    rw [World.size_alloc] at this
    exact (((Below.refl _ _).alloc (Nat.le_refl _) _).block _ (by simp)).trans this
  have hR : (((w.alloc (.cells (LegC d p) 31)).alloc (.cells #[.int .i64 t, .int .i64 c, .int .i64 s] 35)).alloc (.cells #[.string ⟨#[]⟩, .string ⟨#[]⟩, .string ⟨#[]⟩, .int .i64 0, .int .i64 0, .int .i64 0, .slice none 0 0, .slice none 0 0, .slice none 0 0, .slice none 0 0] 31)).heap[w.heap.size + 1 + 1]? = some (.cells #[.string ⟨#[]⟩, .string ⟨#[]⟩, .string ⟨#[]⟩, .int .i64 0, .int .i64 0, .int .i64 0, .slice none 0 0, .slice none 0 0, .slice none 0 0, .slice none 0 0] 31 (0, 0)) := by
    have := heap_alloc_new ((w.alloc (.cells (LegC d p) 31)).alloc (.cells #[.int .i64 t, .int .i64 c, .int .i64 s] 35)) (.cells #[.string ⟨#[]⟩, .string ⟨#[]⟩, .string ⟨#[]⟩, .int .i64 0, .int .i64 0, .int .i64 0, .slice none 0 0, .slice none 0 0, .slice none 0 0, .slice none 0 0] 31)
    simpa only [World.size_alloc] using this
  have Hin := Lib.hid hin
  have HF := Lib.hid hf
  have D0 := Lib.hid hbC
  have X0 := Lib.hid hX
  have Q0 := Lib.hid hQ
  have R0 := Lib.hid hR
  have b0 := hX.c0
  have b1 := hX.c1
  have b2 := hX.c2
  have b3 := hX.c3
  have b4 := hX.c4
  have b5 := hX.c5
  have b6 := hX.c6
  have b7 := hX.c7
  have b8 := hX.c8
  have b9 := hX.c9
  rw [LegV_eq]
  generalize hLC : LegC d p = LC at *
  clear hbC hX hQ hR hin hf hLC
  go_enter Try.func15, Try.ntmps15
  go_wp2_with fail
  generalize (((w.alloc (.cells LC 31)).alloc (.cells #[.int .i64 t, .int .i64 c, .int .i64 s] 35)).alloc (.cells #[.string ⟨#[]⟩, .string ⟨#[]⟩, .string ⟨#[]⟩, .int .i64 0, .int .i64 0, .int .i64 0, .slice none 0 0, .slice none 0 0, .slice none 0 0, .slice none 0 0] 31)) = W0 at *
  refine (okI d p W0 (Hin.out.kept D0.out) HF.out hc).mono ?_
  rintro e w1 ⟨v, rfl, hv, d1⟩
  have X1 := Lib.hid (X0.out.kept d1)
  have Q1 := Lib.hid ((d1.block _ (lt_heap Q0.out)).trans Q0.out)
  have R1 := Lib.hid ((d1.block _ (lt_heap R0.out)).trans R0.out)
  have D1 := Lib.hid (bt D0.out d1)
  have hl1 : w.heap.size + 1 + 1 < w1.heap.size := lt_heap R1.out
  have X1' := X1.out
  clear b0 b1 b2 b3 b4 b5 b6 b7 b8 b9 d1
  have b0 := X1'.c0
  have b1 := X1'.c1
  have b2 := X1'.c2
  have b3 := X1'.c3
  have b4 := X1'.c4
  have b5 := X1'.c5
  have b6 := X1'.c6
  have b7 := X1'.c7
  have b8 := X1'.c8
  have b9 := X1'.c9
  clear X1'
  cases v with
  | false =>
    have hno : Hid (¬ OkLeg d) := fun h => by have := hv.out.2 h; cases this
    clear hv
    go_wp2_with (first
      | (refine wpList_store_row rfl 31 _ _ rfl (w.heap.size + 1 + 1) #[.string ⟨#[]⟩, .string ⟨#[]⟩, .string ⟨#[]⟩, .int .i64 0, .int .i64 0, .int .i64 0, .slice none 0 0, .slice none 0 0, .slice none 0 0, .slice none 0 0] rfl rfl 31 #[.string ⟨#[]⟩, .string ⟨#[]⟩, .string ⟨#[]⟩, .int .i64 0, .int .i64 0, .int .i64 0, .slice none 0 0, .slice none 0 0, .slice none 0 0, .slice none 0 0] R1.out legSize rfl (leg_one1 zeroD zeroP) ?_)
      | fail)
    have hfin : LegBox (w1.setRow (w.heap.size + 1 + 1) #[.string ⟨#[]⟩, .string ⟨#[]⟩, .string ⟨#[]⟩, .int .i64 0, .int .i64 0, .int .i64 0, .slice none 0 0, .slice none 0 0, .slice none 0 0, .slice none 0 0]) (w.heap.size + 1 + 1) zeroD zeroP := setRow_heap w1 (w.heap.size + 1 + 1) _ _ _ _ R1.out
    have gr := grown_setRow w1 (w.heap.size + 1 + 1) #[.string ⟨#[]⟩, .string ⟨#[]⟩, .string ⟨#[]⟩, .int .i64 0, .int .i64 0, .int .i64 0, .slice none 0 0, .slice none 0 0, .slice none 0 0, .slice none 0 0]
    have hb2 := Lib.hid (D1.out.grown gr D1.out.size (fun q e => by cases e; omega))
    clear b0 b1 b2 b3 b4 b5 b6 b7 b8 b9
    generalize w1.setRow (w.heap.size + 1 + 1) #[.string ⟨#[]⟩, .string ⟨#[]⟩, .string ⟨#[]⟩, .int .i64 0, .int .i64 0, .int .i64 0, .slice none 0 0, .slice none 0 0, .slice none 0 0, .slice none 0 0] = W2 at *
    have y0 := hfin.c0
    have y1 := hfin.c1
    have y2 := hfin.c2
    have y3 := hfin.c3
    have y4 := hfin.c4
    have y5 := hfin.c5
    have y6 := hfin.c6
    have y7 := hfin.c7
    have y8 := hfin.c8
    have y9 := hfin.c9
    clear hfin gr
    refine bodyPost_ret (v := .tuple #[LegV zeroD zeroP, .bool false]) ?_ rfl ⟨zeroD, zeroP, false, rfl, ⟨fun _ => ⟨rfl, rfl⟩, fun h => absurd h hno.out⟩, (zero_new W2).mono hb2.out.size, hb2.out⟩
    rw [LegV_eq]
    unfold LegC
    simp [results, Try.f15, go_sem, y0, y1, y2, y3, y4, y5, y6, y7, y8, y9]
  | true =>
  have hyes : Hid (OkLeg d) := hv.out.1 rfl
  clear hv
  go_wp2_with fail
  refine (heldOfI d p w1 (Hin.out.kept D1.out) hyes.out.2.2.1).mono ?_
  rintro e w2 ⟨⟨hb, L, rfl, H2', hrd⟩, d2⟩
  have H2 := Lib.hid H2'
  have HRd := Lib.hid hrd
  have X2 := Lib.hid (X1.out.kept d2)
  have Q2 := Lib.hid ((d2.block _ (lt_heap Q1.out)).trans Q1.out)
  have RJ := Lib.hid ((d2.block _ (lt_heap R1.out)).trans R1.out)
  have D2 := Lib.hid (bt D1.out d2)
  have hl2 := d2.size
  have hn6 := hyes.out.2.2.1.1
  have hlen : Hid (L.length ≤ 1048576) := Lib.hid (by rw [hrd.1]; omega)
  have X2' := X2.out
  obtain ⟨u0, u1, u2⟩ := row3 Q2.out
  clear b0 b1 b2 b3 b4 b5 b6 b7 b8 b9 d2 H2' hrd
  have b0 := X2'.c0
  have b1 := X2'.c1
  have b2 := X2'.c2
  have b3 := X2'.c3
  have b4 := X2'.c4
  have b5 := X2'.c5
  have b6 := X2'.c6
  have b7 := X2'.c7
  have b8 := X2'.c8
  have b9 := X2'.c9
  clear X2'
  rcases Nat.lt_or_ge d.nH 6 with h6 | h6
  · have z6 : decide ((d.nH : Int) < 6) = true := decide_eq_true (by omega)
    have k6 : (d.nH : Int) < 6 := by omega
    go_wp2_with fail
    refine (hasI w1.heap.size hb L t w2 H2.out).mono ?_
    rintro e w' ⟨k, bb, hk, rfl, hbt, rfl⟩
    have hbt2 := Lib.hid (hbt.out.trans (has_iff hyes.out.2.2.1 HRd.out hk))
    clear hbt
    cases bb with
    | true =>
      have hcan : Hid (¬ CanPut d t c s share) := fun h => hbt2.out.1 rfl h.2.1
      clear hbt2 hk
      go_wp2_with fail
      refine (legHoldingI w1.heap.size hb L d p w2 (Hin.out.kept D2.out) HF.out H2.out hlen.out).mono ?_
      rintro e w9 ⟨p9, rfl, hn9, d9⟩
      have R9 := Lib.hid ((d9.block (w.heap.size + 1 + 1) (by omega)).trans RJ.out)
      have D9 := Lib.hid (bt D2.out d9)
      have hs9 : w.heap.size + 1 + 1 < w2.heap.size := lt_heap RJ.out
      have HN9 := Lib.hid hn9
      clear hn9 d9
      go_wp2_with (first
        | (refine wpList_store_row rfl 31 _ _ rfl (w.heap.size + 1 + 1) (LegC (withH d L) p9) rfl rfl 31 #[.string ⟨#[]⟩, .string ⟨#[]⟩, .string ⟨#[]⟩, .int .i64 0, .int .i64 0, .int .i64 0, .slice none 0 0, .slice none 0 0, .slice none 0 0, .slice none 0 0] R9.out legSize rfl (leg_one1 _ _) ?_)
        | fail)
      have hfin : LegBox (w9.setRow (w.heap.size + 1 + 1) (LegC (withH d L) p9)) (w.heap.size + 1 + 1) (withH d L) p9 := setRow_heap w9 (w.heap.size + 1 + 1) _ _ _ _ R9.out
      have gr := grown_setRow w9 (w.heap.size + 1 + 1) (LegC (withH d L) p9)
      have hb9 := Lib.hid (D9.out.grown gr D9.out.size (fun q e => by cases e; omega))
      have hsame : LegSame (withH d L) d := with_same HRd.out
      have N9 := Lib.hid (((HN9.out.far gr (fun q e => by cases e; omega)).mono (B' := w.heap.size) (by omega)).same hsame)
      have hV : LegV (withH d L) p9 = LegV d p9 := LegV.same hsame p9
      generalize w9.setRow (w.heap.size + 1 + 1) (LegC (withH d L) p9) = W9 at *
      have y0 := hfin.c0
      have y1 := hfin.c1
      have y2 := hfin.c2
      have y3 := hfin.c3
      have y4 := hfin.c4
      have y5 := hfin.c5
      have y6 := hfin.c6
      have y7 := hfin.c7
      have y8 := hfin.c8
      have y9 := hfin.c9
      clear hfin gr
      refine bodyPost_ret (v := .tuple #[LegV (withH d L) p9, .bool false]) ?_ rfl ⟨d, p9, false, by rw [hV], ⟨fun h => absurd hyes.out h, fun _ => ⟨⟨fun h => (by cases h), fun h => absurd h hcan.out⟩, fun h => (by cases h), fun _ => rfl⟩⟩, N9.out, hb9.out⟩
      rw [LegV_eq]
      unfold LegC
      simp [results, Try.f15, go_sem, y0, y1, y2, y3, y4, y5, y6, y7, y8, y9]
    | false =>
      have hall : Hid (∀ i, i < d.nH → d.t i ≠ t) := Classical.byContradiction fun q => by have := hbt2.out.2 q; cases this
      clear hbt2 hk
      go_wp2_with fail
      refine (canHoldI d p t c s share w2 (Hin.out.kept D2.out) hyes.out hc).mono ?_
      rintro e w3 ⟨v, rfl, hv, d3⟩
      have H3 := Lib.hid (H2.out.kept d3)
      have X3 := Lib.hid (X2.out.kept d3)
      have Q3 := Lib.hid ((d3.block _ (lt_heap Q2.out)).trans Q2.out)
      have RJ := Lib.hid ((d3.block _ (lt_heap RJ.out)).trans RJ.out)
      have D3 := Lib.hid (bt D2.out d3)
      have hl3 := d3.size
      have X3' := X3.out
      clear b0 b1 b2 b3 b4 b5 b6 b7 b8 b9 u0 u1 u2 d3
      obtain ⟨u0, u1, u2⟩ := row3 Q3.out
      have b0 := X3'.c0
      have b1 := X3'.c1
      have b2 := X3'.c2
      have b3 := X3'.c3
      have b4 := X3'.c4
      have b5 := X3'.c5
      have b6 := X3'.c6
      have b7 := X3'.c7
      have b8 := X3'.c8
      have b9 := X3'.c9
      clear X3'
      cases v with
      | false =>
        have hcan : Hid (¬ CanPut d t c s share) := fun h => by have := hv.out.2 h.2.2; cases this
        clear hv
        go_wp2_with fail
        refine (legHoldingI w1.heap.size hb L d p w3 (Hin.out.kept D3.out) HF.out H3.out hlen.out).mono ?_
        rintro e w9 ⟨p9, rfl, hn9, d9⟩
        have R9 := Lib.hid ((d9.block (w.heap.size + 1 + 1) (by omega)).trans RJ.out)
        have D9 := Lib.hid (bt D3.out d9)
        have hs9 : w.heap.size + 1 + 1 < w3.heap.size := lt_heap RJ.out
        have HN9 := Lib.hid hn9
        clear hn9 d9
        go_wp2_with (first
          | (refine wpList_store_row rfl 31 _ _ rfl (w.heap.size + 1 + 1) (LegC (withH d L) p9) rfl rfl 31 #[.string ⟨#[]⟩, .string ⟨#[]⟩, .string ⟨#[]⟩, .int .i64 0, .int .i64 0, .int .i64 0, .slice none 0 0, .slice none 0 0, .slice none 0 0, .slice none 0 0] R9.out legSize rfl (leg_one1 _ _) ?_)
          | fail)
        have hfin : LegBox (w9.setRow (w.heap.size + 1 + 1) (LegC (withH d L) p9)) (w.heap.size + 1 + 1) (withH d L) p9 := setRow_heap w9 (w.heap.size + 1 + 1) _ _ _ _ R9.out
        have gr := grown_setRow w9 (w.heap.size + 1 + 1) (LegC (withH d L) p9)
        have hb9 := Lib.hid (D9.out.grown gr D9.out.size (fun q e => by cases e; omega))
        have hsame : LegSame (withH d L) d := with_same HRd.out
        have N9 := Lib.hid (((HN9.out.far gr (fun q e => by cases e; omega)).mono (B' := w.heap.size) (by omega)).same hsame)
        have hV : LegV (withH d L) p9 = LegV d p9 := LegV.same hsame p9
        generalize w9.setRow (w.heap.size + 1 + 1) (LegC (withH d L) p9) = W9 at *
        have y0 := hfin.c0
        have y1 := hfin.c1
        have y2 := hfin.c2
        have y3 := hfin.c3
        have y4 := hfin.c4
        have y5 := hfin.c5
        have y6 := hfin.c6
        have y7 := hfin.c7
        have y8 := hfin.c8
        have y9 := hfin.c9
        clear hfin gr
        refine bodyPost_ret (v := .tuple #[LegV (withH d L) p9, .bool false]) ?_ rfl ⟨d, p9, false, by rw [hV], ⟨fun h => absurd hyes.out h, fun _ => ⟨⟨fun h => (by cases h), fun h => absurd h hcan.out⟩, fun h => (by cases h), fun _ => rfl⟩⟩, N9.out, hb9.out⟩
        rw [LegV_eq]
        unfold LegC
        simp [results, Try.f15, go_sem, y0, y1, y2, y3, y4, y5, y6, y7, y8, y9]
      | true =>
        have hcan : Hid (CanPut d t c s share) := ⟨h6, hall.out, hv.out.1 rfl⟩
        clear hv
        go_wp2_with fail
        refine (putI w1.heap.size hb L t c s w3 H3.out (by omega)).mono ?_
        rintro e w4 ⟨⟨v4, rfl⟩, ⟨kP, bP, hk4, H4'⟩, d4⟩
        have H4 := Lib.hid H4'
        have HK4 := Lib.hid hk4
        have X4' : LegBox w4 w.heap.size d p := (d4.block _ (by omega)).trans X3.out
        have RJ := Lib.hid ((d4.block (w.heap.size + 1 + 1) (by omega)).trans RJ.out)
        have D4 := Lib.hid (D3.out.trans (d4.mono (by omega)))
        have hl4 := d4.size
        have hlen4 : Hid ((L.insertIdx kP ⟨bP, t, c, s⟩).length ≤ 1048576) := Lib.hid (by rw [List.length_insertIdx_of_le_length HK4.out.1, HRd.out.1]; omega)
        clear b0 b1 b2 b3 b4 b5 b6 b7 b8 b9 u0 u1 u2 d4 H4' hk4
        have b0 := X4'.c0
        have b1 := X4'.c1
        have b2 := X4'.c2
        have b3 := X4'.c3
        have b4 := X4'.c4
        have b5 := X4'.c5
        have b6 := X4'.c6
        have b7 := X4'.c7
        have b8 := X4'.c8
        have b9 := X4'.c9
        clear X4'
        go_wp2_with fail
        refine (legHoldingI w1.heap.size hb (L.insertIdx kP ⟨bP, t, c, s⟩) d p w4 (Hin.out.kept D4.out) HF.out H4.out hlen4.out).mono ?_
        rintro e w9 ⟨p9, rfl, hn9, d9⟩
        have R9 := Lib.hid ((d9.block (w.heap.size + 1 + 1) (by omega)).trans RJ.out)
        have D9 := Lib.hid (bt D4.out d9)
        have hs9 : w.heap.size + 1 + 1 < w4.heap.size := lt_heap RJ.out
        have HN9 := Lib.hid hn9
        clear hn9 d9
        go_wp2_with (first
          | (refine wpList_store_row rfl 31 _ _ rfl (w.heap.size + 1 + 1) (LegC (withH d (L.insertIdx kP ⟨bP, t, c, s⟩)) p9) rfl rfl 31 #[.string ⟨#[]⟩, .string ⟨#[]⟩, .string ⟨#[]⟩, .int .i64 0, .int .i64 0, .int .i64 0, .slice none 0 0, .slice none 0 0, .slice none 0 0, .slice none 0 0] R9.out legSize rfl (leg_one1 _ _) ?_)
          | fail)
        have hfin : LegBox (w9.setRow (w.heap.size + 1 + 1) (LegC (withH d (L.insertIdx kP ⟨bP, t, c, s⟩)) p9)) (w.heap.size + 1 + 1) (withH d (L.insertIdx kP ⟨bP, t, c, s⟩)) p9 := setRow_heap w9 (w.heap.size + 1 + 1) _ _ _ _ R9.out
        have gr := grown_setRow w9 (w.heap.size + 1 + 1) (LegC (withH d (L.insertIdx kP ⟨bP, t, c, s⟩)) p9)
        have hb9 := Lib.hid (D9.out.grown gr D9.out.size (fun q e => by cases e; omega))
        have hsame : LegSame (withH d (L.insertIdx kP ⟨bP, t, c, s⟩)) (putD d kP t c s) := put_same HRd.out HK4.out
        have N9 := Lib.hid (((HN9.out.far gr (fun q e => by cases e; omega)).mono (B' := w.heap.size) (by omega)).same hsame)
        have hV : LegV (withH d (L.insertIdx kP ⟨bP, t, c, s⟩)) p9 = LegV (putD d kP t c s) p9 := LegV.same hsame p9
        generalize w9.setRow (w.heap.size + 1 + 1) (LegC (withH d (L.insertIdx kP ⟨bP, t, c, s⟩)) p9) = W9 at *
        have y0 := hfin.c0
        have y1 := hfin.c1
        have y2 := hfin.c2
        have y3 := hfin.c3
        have y4 := hfin.c4
        have y5 := hfin.c5
        have y6 := hfin.c6
        have y7 := hfin.c7
        have y8 := hfin.c8
        have y9 := hfin.c9
        clear hfin gr
        refine bodyPost_ret (v := .tuple #[LegV (withH d (L.insertIdx kP ⟨bP, t, c, s⟩)) p9, .bool true]) ?_ rfl ⟨(putD d kP t c s), p9, true, by rw [hV], ⟨fun h => absurd hyes.out h, fun _ => ⟨⟨fun _ => hcan.out, fun _ => rfl⟩, fun _ => ⟨kP, rd_at HRd.out HK4.out, rfl⟩, fun h => (by cases h)⟩⟩, N9.out, hb9.out⟩
        rw [LegV_eq]
        unfold LegC
        simp [results, Try.f15, go_sem, y0, y1, y2, y3, y4, y5, y6, y7, y8, y9]
  · have z6 : decide ((d.nH : Int) < 6) = false := decide_eq_false (by omega)
    have hcan : Hid (¬ CanPut d t c s share) := fun h => by have := h.1; omega
    go_wp2_with fail
    refine (legHoldingI w1.heap.size hb L d p w2 (Hin.out.kept D2.out) HF.out H2.out hlen.out).mono ?_
    rintro e w9 ⟨p9, rfl, hn9, d9⟩
    have R9 := Lib.hid ((d9.block (w.heap.size + 1 + 1) (by omega)).trans RJ.out)
    have D9 := Lib.hid (bt D2.out d9)
    have hs9 : w.heap.size + 1 + 1 < w2.heap.size := lt_heap RJ.out
    have HN9 := Lib.hid hn9
    clear hn9 d9
    go_wp2_with (first
      | (refine wpList_store_row rfl 31 _ _ rfl (w.heap.size + 1 + 1) (LegC (withH d L) p9) rfl rfl 31 #[.string ⟨#[]⟩, .string ⟨#[]⟩, .string ⟨#[]⟩, .int .i64 0, .int .i64 0, .int .i64 0, .slice none 0 0, .slice none 0 0, .slice none 0 0, .slice none 0 0] R9.out legSize rfl (leg_one1 _ _) ?_)
      | fail)
    have hfin : LegBox (w9.setRow (w.heap.size + 1 + 1) (LegC (withH d L) p9)) (w.heap.size + 1 + 1) (withH d L) p9 := setRow_heap w9 (w.heap.size + 1 + 1) _ _ _ _ R9.out
    have gr := grown_setRow w9 (w.heap.size + 1 + 1) (LegC (withH d L) p9)
    have hb9 := Lib.hid (D9.out.grown gr D9.out.size (fun q e => by cases e; omega))
    have hsame : LegSame (withH d L) d := with_same HRd.out
    have N9 := Lib.hid (((HN9.out.far gr (fun q e => by cases e; omega)).mono (B' := w.heap.size) (by omega)).same hsame)
    have hV : LegV (withH d L) p9 = LegV d p9 := LegV.same hsame p9
    generalize w9.setRow (w.heap.size + 1 + 1) (LegC (withH d L) p9) = W9 at *
    have y0 := hfin.c0
    have y1 := hfin.c1
    have y2 := hfin.c2
    have y3 := hfin.c3
    have y4 := hfin.c4
    have y5 := hfin.c5
    have y6 := hfin.c6
    have y7 := hfin.c7
    have y8 := hfin.c8
    have y9 := hfin.c9
    clear hfin gr
    refine bodyPost_ret (v := .tuple #[LegV (withH d L) p9, .bool false]) ?_ rfl ⟨d, p9, false, by rw [hV], ⟨fun h => absurd hyes.out h, fun _ => ⟨⟨fun h => (by cases h), fun h => absurd h hcan.out⟩, fun h => (by cases h), fun _ => rfl⟩⟩, N9.out, hb9.out⟩
    rw [LegV_eq]
    unfold LegC
    simp [results, Try.f15, go_sem, y0, y1, y2, y3, y4, y5, y6, y7, y8, y9]
end Go.Proofs.Ytmlkjlipjkmcfaa

namespace Go.Proofs.Ytmlkjlipjkmcfaa
open Go.RowKit
set_option linter.unusedVariables false
set_option linter.unusedSimpArgs false

theorem hold_lens {d d' : LegD} {t c s share : Int} {b : Bool} (h : OkLeg d) (k : HoldIs d t c s share d' b) : d'.nL = 3 ∧ d'.nS = 3 ∧ 1 ≤ d'.nB ∧ d'.nB ≤ 8 ∧ d'.nH ≤ 10 := by
  have h1 := h.2.1.2.1
  have h2 := h.2.1.2.2.1
  have h3 := h.2.1.2.2.2.2.1
  have h4 := h.2.2.1.1
  obtain ⟨k1, k2, k3⟩ := k.2 h
  cases b with
  | false => rw [k3 rfl]; exact ⟨h1, h2, by omega, by omega, by omega⟩
  | true =>
    obtain ⟨q, -, rfl⟩ := k2 rfl
    exact ⟨h1, h2, by show 1 ≤ d.nB; omega, by show d.nB ≤ 8; omega, by show d.nH + 1 ≤ 10; omega⟩
set_option maxRecDepth 100000 in
set_option maxHeartbeats 8000000 in
theorem LegHoldS (d : LegD) (p : LegP) (t c s share : Int) (w : World) (hin : LegIn w d p) (hf : Fits d) (hcH : d.nH ≤ p.cH) :
    Calls Try.prog 12 #[LegV d p, .agg #[.int .i64 t, .int .i64 c, .int .i64 s], .int .i64 share] w (HoldPost d t c s share w) := by
  have hbC : Below w.heap.size w (((w.alloc (.cells (LegC d p) 31)).alloc (.cells #[.int .i64 t, .int .i64 c, .int .i64 s] 35)).alloc (.cells #[.string ⟨#[]⟩, .string ⟨#[]⟩, .string ⟨#[]⟩, .int .i64 0, .int .i64 0, .int .i64 0, .slice none 0 0, .slice none 0 0, .slice none 0 0, .slice none 0 0] 31)) := (((Below.refl _ _).alloc (Nat.le_refl _) _).alloc (by simp) _).alloc (by simp only [World.size_alloc]; omega) _
  have hX : LegBox (((w.alloc (.cells (LegC d p) 31)).alloc (.cells #[.int .i64 t, .int .i64 c, .int .i64 s] 35)).alloc (.cells #[.string ⟨#[]⟩, .string ⟨#[]⟩, .string ⟨#[]⟩, .int .i64 0, .int .i64 0, .int .i64 0, .slice none 0 0, .slice none 0 0, .slice none 0 0, .slice none 0 0] 31)) w.heap.size d p := ((LegBox.new w d p).kept ((Below.refl _ _).alloc (Nat.le_refl _) _)).kept ((Below.refl _ _).alloc (Nat.le_refl _) _)
  have hQ : (((w.alloc (.cells (LegC d p) 31)).alloc (.cells #[.int .i64 t, .int .i64 c, .int .i64 s] 35)).alloc (.cells #[.string ⟨#[]⟩, .string ⟨#[]⟩, .string ⟨#[]⟩, .int .i64 0, .int .i64 0, .int .i64 0, .slice none 0 0, .slice none 0 0, .slice none 0 0, .slice none 0 0] 31)).heap[w.heap.size + 1]? = some (.cells #[.int .i64 t, .int .i64 c, .int .i64 s] 35 (0, 0)) := by
    have := heap_alloc_new (w.alloc (.cells (LegC d p) 31)) (.cells #[.int .i64 t, .int .i64 c, .int .i64 s] 35)
    rw [World.size_alloc] at this
    exact (((Below.refl _ _).alloc (Nat.le_refl _) _).block _ (by simp)).trans this
  have hR : (((w.alloc (.cells (LegC d p) 31)).alloc (.cells #[.int .i64 t, .int .i64 c, .int .i64 s] 35)).alloc (.cells #[.string ⟨#[]⟩, .string ⟨#[]⟩, .string ⟨#[]⟩, .int .i64 0, .int .i64 0, .int .i64 0, .slice none 0 0, .slice none 0 0, .slice none 0 0, .slice none 0 0] 31)).heap[w.heap.size + 1 + 1]? = some (.cells #[.string ⟨#[]⟩, .string ⟨#[]⟩, .string ⟨#[]⟩, .int .i64 0, .int .i64 0, .int .i64 0, .slice none 0 0, .slice none 0 0, .slice none 0 0, .slice none 0 0] 31 (0, 0)) := by
    have := heap_alloc_new ((w.alloc (.cells (LegC d p) 31)).alloc (.cells #[.int .i64 t, .int .i64 c, .int .i64 s] 35)) (.cells #[.string ⟨#[]⟩, .string ⟨#[]⟩, .string ⟨#[]⟩, .int .i64 0, .int .i64 0, .int .i64 0, .slice none 0 0, .slice none 0 0, .slice none 0 0, .slice none 0 0] 31)
    simpa only [World.size_alloc] using this
  have Hin := Lib.hid hin
  have HF := Lib.hid hf
  have D0 := Lib.hid hbC
  have X0 := Lib.hid hX
  have Q0 := Lib.hid hQ
  have R0 := Lib.hid hR
  have b0 := hX.c0
  have b1 := hX.c1
  have b2 := hX.c2
  have b3 := hX.c3
  have b4 := hX.c4
  have b5 := hX.c5
  have b6 := hX.c6
  have b7 := hX.c7
  have b8 := hX.c8
  have b9 := hX.c9
  rw [LegV_eq]
  generalize hLC : LegC d p = LC at *
  clear hbC hX hQ hR hin hf hLC
  go_enter Try.func12, Try.ntmps12
  go_wp2_with fail
  generalize (((w.alloc (.cells LC 31)).alloc (.cells #[.int .i64 t, .int .i64 c, .int .i64 s] 35)).alloc (.cells #[.string ⟨#[]⟩, .string ⟨#[]⟩, .string ⟨#[]⟩, .int .i64 0, .int .i64 0, .int .i64 0, .slice none 0 0, .slice none 0 0, .slice none 0 0, .slice none 0 0] 31)) = W0 at *
  refine (okM d p W0 (Hin.out.kept D0.out) HF.out).mono ?_
  rintro e w1 ⟨v, rfl, hv, d1⟩
  have X1 := Lib.hid (X0.out.kept d1)
  have Q1 := Lib.hid ((d1.block _ (lt_heap Q0.out)).trans Q0.out)
  have R1 := Lib.hid ((d1.block _ (lt_heap R0.out)).trans R0.out)
  have D1 := Lib.hid (bt D0.out d1)
  have hl1 : w.heap.size + 1 + 1 < w1.heap.size := lt_heap R1.out
  have X1' := X1.out
  clear b0 b1 b2 b3 b4 b5 b6 b7 b8 b9 d1
  have b0 := X1'.c0
  have b1 := X1'.c1
  have b2 := X1'.c2
  have b3 := X1'.c3
  have b4 := X1'.c4
  have b5 := X1'.c5
  have b6 := X1'.c6
  have b7 := X1'.c7
  have b8 := X1'.c8
  have b9 := X1'.c9
  clear X1'
  cases v with
  | false =>
    have hno : Hid (¬ OkLeg d) := fun h => by have := hv.out.2 h; cases this
    clear hv
    go_wp2_with (first
      | (refine wpList_store_row rfl 31 _ _ rfl (w.heap.size + 1 + 1) #[.string ⟨#[]⟩, .string ⟨#[]⟩, .string ⟨#[]⟩, .int .i64 0, .int .i64 0, .int .i64 0, .slice none 0 0, .slice none 0 0, .slice none 0 0, .slice none 0 0] rfl rfl 31 #[.string ⟨#[]⟩, .string ⟨#[]⟩, .string ⟨#[]⟩, .int .i64 0, .int .i64 0, .int .i64 0, .slice none 0 0, .slice none 0 0, .slice none 0 0, .slice none 0 0] R1.out legSize rfl (leg_one1 zeroD zeroP) ?_)
      | fail)
    have hfin : LegBox (w1.setRow (w.heap.size + 1 + 1) #[.string ⟨#[]⟩, .string ⟨#[]⟩, .string ⟨#[]⟩, .int .i64 0, .int .i64 0, .int .i64 0, .slice none 0 0, .slice none 0 0, .slice none 0 0, .slice none 0 0]) (w.heap.size + 1 + 1) zeroD zeroP := setRow_heap w1 (w.heap.size + 1 + 1) _ _ _ _ R1.out
    have gr := grown_setRow w1 (w.heap.size + 1 + 1) #[.string ⟨#[]⟩, .string ⟨#[]⟩, .string ⟨#[]⟩, .int .i64 0, .int .i64 0, .int .i64 0, .slice none 0 0, .slice none 0 0, .slice none 0 0, .slice none 0 0]
    have hb2 := Lib.hid (D1.out.grown gr D1.out.size (fun q e => by cases e; omega))
    clear b0 b1 b2 b3 b4 b5 b6 b7 b8 b9
    generalize w1.setRow (w.heap.size + 1 + 1) #[.string ⟨#[]⟩, .string ⟨#[]⟩, .string ⟨#[]⟩, .int .i64 0, .int .i64 0, .int .i64 0, .slice none 0 0, .slice none 0 0, .slice none 0 0, .slice none 0 0] = W2 at *
    have y0 := hfin.c0
    have y1 := hfin.c1
    have y2 := hfin.c2
    have y3 := hfin.c3
    have y4 := hfin.c4
    have y5 := hfin.c5
    have y6 := hfin.c6
    have y7 := hfin.c7
    have y8 := hfin.c8
    have y9 := hfin.c9
    clear hfin gr
    refine bodyPost_ret (v := .tuple #[LegV zeroD zeroP, .bool false]) ?_ rfl ⟨zeroD, zeroP, false, rfl, ⟨fun _ => ⟨rfl, rfl⟩, fun h => absurd h hno.out⟩, (zero_new W2).mono hb2.out.size, hb2.out⟩
    rw [LegV_eq]
    unfold LegC
    simp [results, Try.f12, go_sem, y0, y1, y2, y3, y4, y5, y6, y7, y8, y9]
  | true =>
  have hyes : Hid (OkLeg d) := hv.out.1 rfl
  clear hv
  obtain ⟨u0, u1, u2⟩ := row3 Q1.out
  go_wp2_with fail
  refine (holdM d p t c s share w1 (Hin.out.kept D1.out) hyes.out hcH).mono ?_
  rintro e w2 ⟨⟨d', p', b, rfl, hI, hcap, -, -, hin2⟩, d2⟩
  have hw2 := legRowBelow w2 (LegC d' p')
  have hx2 := Lib.hid (legRowBox w2 d' p')
  have D2 := Lib.hid (bt D1.out (bt d2 hw2))
  have I2 := Lib.hid (hin2.kept hw2)
  have R2 := Lib.hid (((bt d2 hw2).block _ (lt_heap R1.out)).trans R1.out)
  have HL := Lib.hid (hold_lens hyes.out hI.out)
  have HIS := Lib.hid hI.out
  have hs2 := d2.size
  have hs3 := hw2.size
  clear b0 b1 b2 b3 b4 b5 b6 b7 b8 b9 u0 u1 u2 d2 hw2 hin2 hI
  have b0 := hx2.out.c0
  have b1 := hx2.out.c1
  have b2 := hx2.out.c2
  have b3 := hx2.out.c3
  have b4 := hx2.out.c4
  have b5 := hx2.out.c5
  have b6 := hx2.out.c6
  have b7 := hx2.out.c7
  have b8 := hx2.out.c8
  have b9 := hx2.out.c9
  unfold LegV
  go_wp2_with (first
    | (refine wpList_store_row rfl 31 _ _ rfl w2.heap.size (LegC d' p') rfl rfl 31 #[.string ⟨#[]⟩, .string ⟨#[]⟩, .string ⟨#[]⟩, .int .i64 0, .int .i64 0, .int .i64 0, .slice none 0 0, .slice none 0 0, .slice none 0 0, .slice none 0 0] (heap_alloc_new w2 _) legSize rfl (leg_one d' p') ?_)
    | fail)
  generalize ((w2.alloc (.cells #[.string ⟨#[]⟩, .string ⟨#[]⟩, .string ⟨#[]⟩, .int .i64 0, .int .i64 0, .int .i64 0, .slice none 0 0, .slice none 0 0, .slice none 0 0, .slice none 0 0] 31)).setRow w2.heap.size (LegC d' p')) = W3 at *
  refine (copyM d' p' W3 I2.out HL.out.1 HL.out.2.1 HL.out.2.2.1 HL.out.2.2.2.1 HL.out.2.2.2.2).mono ?_
  rintro e w4 ⟨p4, rfl, hnew, d4⟩
  have D4 := bt D2.out d4
  have R4h := Lib.hid ((d4.block _ (lt_heap R2.out)).trans R2.out)
  clear b0 b1 b2 b3 b4 b5 b6 b7 b8 b9
  go_wp2_with (first
    | (refine wpList_store_row rfl 31 _ _ rfl (w.heap.size + 1 + 1) (LegC d' p4) rfl rfl 31 #[.string ⟨#[]⟩, .string ⟨#[]⟩, .string ⟨#[]⟩, .int .i64 0, .int .i64 0, .int .i64 0, .slice none 0 0, .slice none 0 0, .slice none 0 0, .slice none 0 0] R4h.out legSize rfl (leg_one1 _ _) ?_)
    | fail)
  have hfin : LegBox (w4.setRow (w.heap.size + 1 + 1) (LegC d' p4)) (w.heap.size + 1 + 1) d' p4 := setRow_heap w4 (w.heap.size + 1 + 1) _ _ _ _ R4h.out
  have gr := grown_setRow w4 (w.heap.size + 1 + 1) (LegC d' p4)
  have hb6 := Lib.hid (D4.grown gr D4.size (fun q e => by cases e; omega))
  have N6 := Lib.hid ((hnew.far gr (fun q e => by cases e; omega)).mono (B' := w.heap.size) (by omega))
  generalize w4.setRow (w.heap.size + 1 + 1) (LegC d' p4) = W6 at *
  have y0 := hfin.c0
  have y1 := hfin.c1
  have y2 := hfin.c2
  have y3 := hfin.c3
  have y4 := hfin.c4
  have y5 := hfin.c5
  have y6 := hfin.c6
  have y7 := hfin.c7
  have y8 := hfin.c8
  have y9 := hfin.c9
  clear hfin gr hnew D4
  refine bodyPost_ret (v := .tuple #[LegV d' p4, .bool b]) ?_ rfl ⟨d', p4, b, rfl, HIS, N6.out, hb6.out⟩
  rw [LegV_eq]
  unfold LegC
  simp [results, Try.f12, go_sem, y0, y1, y2, y3, y4, y5, y6, y7, y8, y9]
end Go.Proofs.Ytmlkjlipjkmcfaa
