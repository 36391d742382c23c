/-
  The law FnLegTurn's own walk; two that hold, one way and the other way round.
-/
import Derived.Test.YtmlkjlipjkmcfaaHoldLaw
namespace Go.Proofs.Ytmlkjlipjkmcfaa
open Go.RowKit
set_option linter.unusedVariables false
set_option linter.unusedSimpArgs false

theorem putF_turn (f : Nat → Int) {i j : Nat} (h : i ≤ j) (x y : Int) : putF (putF f i x) (j + 1) y = putF (putF f j y) i x := by
  funext n
  unfold putF
  rcases Nat.lt_trichotomy n i with q | q | q
  · rw [if_pos (by omega), if_pos q, if_pos q, if_pos (by omega)]
  · subst q
    rw [if_pos (by omega), if_neg (by omega), if_pos rfl, if_neg (by omega), if_pos rfl]
  · rcases Nat.lt_trichotomy n (j + 1) with r | r | r
    · rw [if_pos r, if_neg (by omega), if_neg (by omega), if_neg (by omega), if_neg (by omega), if_pos (by omega)]
    · subst r
      rw [if_neg (by omega), if_pos rfl, if_neg (by omega), if_neg (by omega), if_neg (by omega), if_pos (by omega)]
    · rw [if_neg (by omega), if_neg (by omega), if_neg (by omega), if_neg (by omega), if_neg (by omega), if_neg (by omega), if_neg (by omega), if_neg (by omega)]
theorem putD_turn (d : LegD) {i j : Nat} (h : i ≤ j) (t c s t2 c2 s2 : Int) : putD (putD d i t c s) (j + 1) t2 c2 s2 = putD (putD d j t2 c2 s2) i t c s := by
  unfold putD
  simp only [putF_turn _ h]
theorem put_at (f : Nat → Int) (k : Nat) (x : Int) : putF f k x k = x := by simp [putF]
/-- Where another one stands behind one that was put in. -/
theorem heldAt_after {d : LegD} {t t2 c s : Int} {k m : Nat} (ho : HoldsOk d) (hk : HeldAt d t k) (h2 : HeldAt (putD d k t c s) t2 m) (hlt : t < t2) : ∃ j, m = j + 1 ∧ k ≤ j ∧ HeldAt d t2 j := by
  obtain ⟨a1, a2, a3⟩ := hk
  obtain ⟨b1, b2, b3⟩ := h2
  have hb1 : m ≤ d.nH + 1 := b1
  have hkm : k < m := by
    refine Classical.byContradiction fun h => ?_
    have hm : m ≤ k := by omega
    have h3 := b3 (show m < d.nH + 1 by omega)
    rcases Nat.lt_or_ge m k with q | q
    · have h4 := a2 m q
      have h5 : (putD d k t c s).t m = d.t m := by show putF d.t k t m = d.t m; simp [putF, q]
      omega
    · have e : m = k := by omega
      subst e
      have h5 : (putD d m t c s).t m = t := put_at _ _ _
      omega
  refine ⟨m - 1, by omega, by omega, by omega, fun i hi => ?_, fun hm => ?_⟩
  · rcases Nat.lt_or_ge i k with q | q
    · have := a2 i q; omega
    · have h3 := b2 (i + 1) (by omega)
      have h5 : (putD d k t c s).t (i + 1) = d.t i := by show putF d.t k t (i + 1) = d.t i; simp [putF, show ¬ i + 1 < k by omega, show ¬ i + 1 = k by omega]
      omega
  · have h3 := b3 (show m < d.nH + 1 by omega)
    have h5 : (putD d k t c s).t m = d.t (m - 1) := by show putF d.t k t m = d.t (m - 1); simp [putF, show ¬ m < k by omega, show ¬ m = k by omega]
    omega
theorem heldAt_before {d : LegD} {t t2 c s : Int} {k m : Nat} (hk : HeldAt d t k) (h2 : HeldAt (putD d k t c s) t2 m) (hlt : t2 < t) : m ≤ k ∧ HeldAt d t2 m := by
  obtain ⟨a1, a2, a3⟩ := hk
  obtain ⟨b1, b2, b3⟩ := h2
  have hmk : m ≤ k := by
    refine Classical.byContradiction fun h => ?_
    have h3 := b2 k (by omega)
    have h5 : (putD d k t c s).t k = t := put_at _ _ _
    omega
  refine ⟨hmk, by omega, fun i hi => ?_, fun hm => ?_⟩
  · have h3 := b2 i hi
    have h5 : (putD d k t c s).t i = d.t i := by show putF d.t k t i = d.t i; simp [putF, show i < k by omega]
    omega
  · rcases Nat.lt_or_ge m k with q | q
    · have h3 := b3 (show m < d.nH + 1 by omega)
      have h5 : (putD d k t c s).t m = d.t m := by show putF d.t k t m = d.t m; simp [putF, q]
      omega
    · have e : m = k := by omega
      subst e
      have := a3 hm
      omega
theorem room_ge (d : LegD) {x : Int} (hc : x ≤ d.cap) : ∀ m, (∀ q, q < m → x ≤ leftB d q) → x ≤ roomN d m
  | 0, _ => hc
  | m + 1, h => by
    have h1 := room_ge d hc m (fun q hq => h q (by omega))
    have h2 := h m (by omega)
    show x ≤ min (roomN d m) (leftB d m)
    omega
theorem unused_put {d : LegD} {k : Nat} {t c s t2 : Int} (hk : k ≤ d.nH) : (∀ i, i < d.nH + 1 → putF d.t k t i ≠ t2) ↔ (t ≠ t2 ∧ ∀ i, i < d.nH → d.t i ≠ t2) := by
  constructor
  · intro h
    refine ⟨by have := h k (by omega); rwa [put_at] at this, fun i hi => ?_⟩
    rcases Nat.lt_or_ge i k with q | q
    · have := h i (by omega)
      simpa [putF, q] using this
    · have := h (i + 1) (by omega)
      simpa [putF, show ¬ i + 1 < k by omega, show ¬ i + 1 = k by omega] using this
  · rintro ⟨h0, h⟩ i hi
    unfold putF
    split
    · exact h i (by omega)
    · split
      · exact h0
      · exact h (i - 1) (by omega)
/-- If both can be held one way, they can the other way round. -/
theorem can_turn {d : LegD} (ho : OkLeg d) {t c s t2 c2 s2 : Int} {k k2 : Nat} (hk : k ≤ d.nH) (hat : HeldAt d t2 k2) (h1 : CanPut d t c s 1000000000) (h2 : CanPut (putD d k t c s) t2 c2 s2 1000000000) :
    CanPut d t2 c2 s2 1000000000 ∧ CanPut (putD d k2 t2 c2 s2) t c s 1000000000 := by
  have hk2 := hat.1
  obtain ⟨p1, p2, p3, p4, p5⟩ := h1
  obtain ⟨q1, q2, q3, q4, q5⟩ := h2
  have q1' : d.nH + 1 < 6 := q1
  obtain ⟨r1, r2⟩ := (unused_put (c := c) (s := s) hk).1 q2
  have hS : ∀ (n k : Nat) (t c s : Int), (putD d k t c s).S n = d.S n := fun _ _ _ _ _ => rfl
  have hcap : ∀ (k : Nat) (t c s : Int), (putD d k t c s).cap = d.cap := fun _ _ _ _ => rfl
  have hbk : ∀ (x : LegD) (b : Int), IsBid x b → b ≤ 1000000000 := fun x b h => bid_top h
  have b1 : ∀ n : Nat, backB (putD d k t c s) n = backB d n + (if c = (n : Int) then max (-s) 0 else 0) := fun n => back_put d t c s hk n
  have b2 : ∀ n : Nat, backB (putD d k2 t2 c2 s2) n = backB d n + (if c2 = (n : Int) then max (-s2) 0 else 0) := fun n => back_put d t2 c2 s2 hk2 n
  have l1 : ∀ n : Nat, leftB (putD d k t c s) n = leftB d n - (if (n : Int) ≤ c then max s 0 else 0) := fun n => left_put d t c s hk n
  have l2 : ∀ n : Nat, leftB (putD d k2 t2 c2 s2) n = leftB d n - (if (n : Int) ≤ c2 then max s2 0 else 0) := fun n => left_put d t2 c2 s2 hk2 n
  have hc := p3.2.1
  have hc2 := q3.2.1
  have ec : ((c.toNat : Nat) : Int) = c := Int.toNat_of_nonneg hc.1
  have ec2 : ((c2.toNat : Nat) : Int) = c2 := Int.toNat_of_nonneg hc2.1
  have rp := room_put_le d t c s hk (c2.toNat + 1)
  have bd : bidB d ≤ 1000000000 := bid_top ⟨fun _ => rfl, fun h => absurd ho h⟩
  have hcan2 : CanPut d t2 c2 s2 1000000000 := by
    refine ⟨by omega, r2, q3, fun hs => ?_, fun hs => ⟨?_, bd⟩⟩
    · have h := q4 hs
      rw [hS, b1] at h
      split at h <;> omega
    · have := (q5 hs).1
      omega
  refine ⟨hcan2, by show d.nH + 1 < 6; omega, (unused_put (c := c2) (s := s2) hk2).2 ⟨Ne.symm r1, p2⟩, p3, fun hs => ?_, fun hs => ⟨?_, ?_⟩⟩
  · have h := p4 hs
    rw [hS, b2]
    split
    · rename_i e
      rcases Int.lt_or_le s2 0 with g | g
      · have h3 := q4 g
        rw [hS, b1, e, Int.toNat_natCast] at h3
        rw [ec] at e
        rw [if_pos (by omega)] at h3
        omega
      · omega
    · omega
  · refine room_ge _ (by rw [hcap]; exact p3.2.2.1.2) _ (fun q hq => ?_)
    rw [l2]
    have h3 := room_le d c.toNat q (by omega)
    have h4 := (p5 hs).1
    split
    · rcases Int.lt_or_le 0 s2 with g | g
      · have h5 := (q5 (by omega)).1
        have h6 := room_le (putD d k t c s) c2.toNat q (by omega)
        rw [l1, if_pos (by omega)] at h6
        omega
      · omega
    · omega
  · exact bid_top (d := putD d k2 t2 c2 s2) ⟨fun _ => rfl, fun h => absurd (okLeg_put ho hat hcan2) h⟩
theorem turn {d g ga y gb : LegD} {t c s t2 c2 s2 : Int} {two three : Bool} (hne : t ≠ t2) (h1 : HoldIs d t c s 1000000000 g true) (h2 : HoldIs g t2 c2 s2 1000000000 ga true) (h3 : HoldIs d t2 c2 s2 1000000000 y two) (h4 : HoldIs y t c s 1000000000 gb three) :
    two = true ∧ three = true ∧ gb = ga := by
  have ho : OkLeg d := Classical.byContradiction fun h => by have := (h1.1 h).2; cases this
  obtain ⟨i1, i2, -⟩ := h1.2 ho
  obtain ⟨k, hk, rfl⟩ := i2 rfl
  have hcp := i1.1 rfl
  have hog := okLeg_put ho hk hcp
  obtain ⟨j1, j2, -⟩ := h2.2 hog
  obtain ⟨m, hm, rfl⟩ := j2 rfl
  have hcp2 := j1.1 rfl
  obtain ⟨a1, a2, -⟩ := h3.2 ho
  obtain ⟨k2, hk2⟩ := heldAt_ex ho.2.2.1 t2
  obtain ⟨c3, c4⟩ := can_turn ho hk.1 hk2 hcp hcp2
  have e2 : two = true := a1.2 c3
  subst e2
  obtain ⟨k2', hk2', rfl⟩ := a2 rfl
  obtain rfl : k2' = k2 := heldAt_one hk2' hk2
  have hoy := okLeg_put ho hk2 c3
  obtain ⟨b1, b2, -⟩ := h4.2 hoy
  have e3 : three = true := b1.2 c4
  subst e3
  obtain ⟨n, hn, rfl⟩ := b2 rfl
  refine ⟨rfl, rfl, ?_⟩
  rcases Int.lt_or_le t t2 with q | q
  · obtain ⟨j, rfl, hkj, hj⟩ := heldAt_after ho.2.2.1 hk hm q
    obtain rfl : j = k2' := heldAt_one hj hk2
    obtain ⟨hnk, hnd⟩ := heldAt_before hk2 hn q
    obtain rfl : n = k := heldAt_one hnd hk
    exact (putD_turn d hkj t c s t2 c2 s2).symm
  · have q' : t2 < t := by omega
    obtain ⟨hmk, hmd⟩ := heldAt_before hk hm q'
    obtain rfl : m = k2' := heldAt_one hmd hk2
    obtain ⟨j, rfl, hkj, hj⟩ := heldAt_after ho.2.2.1 hk2 hn q'
    obtain rfl : j = k := heldAt_one hj hk
    exact putD_turn d hkj t2 c2 s2 t c s
def STa (d : LegD) (p : LegP) (g : LegD) (pg q : LegP) (o : Bool) (i : Nat) (W : World) (v : Value) : Prop := match i with
  | 0 => v = .bool false
  | 1 => v = .bool false
  | 2 => v = .bool false
  | 3 => v = .bool false
  | 4 => v = LegV g pg
  | 5 => v = LegV g q
  | 6 => v = .bool true
  | 7 => v = .bool false
  | 8 => v = .bool false
  | 9 => v = .bool false
  | 10 => v = LegV d p
  | 11 => v = .bool o
  | 12 => v = LegV d p
  | 13 => v = .bool o
  | 14 => v = .bool false
  | 15 => v = .bool false
  | 16 => v = .bool false
  | 17 => v = .bool false
  | 18 => v = .bool true
  | 19 => v = .bool true
  | 20 => v = .bool true
  | 21 => True
  | 22 => True
  | 23 => True
  | 24 => True
  | 25 => True
  | 26 => v = .bool true
  | _ => True
theorem STa.kept {d : LegD} {p : LegP} {g : LegD} {pg q : LegP} {o : Bool} {i : Nat} {W W' : World} {v : Value} (h : STa d p g pg q o i W v) (hb : Below W.heap.size W W') : STa d p g pg q o i W' v := by
  match i, h with
  | 0, h => exact h
  | 1, h => exact h
  | 2, h => exact h
  | 3, h => exact h
  | 4, h => exact h
  | 5, h => exact h
  | 6, h => exact h
  | 7, h => exact h
  | 8, h => exact h
  | 9, h => exact h
  | 10, h => exact h
  | 11, h => exact h
  | 12, h => exact h
  | 13, h => exact h
  | 14, h => exact h
  | 15, h => exact h
  | 16, h => exact h
  | 17, h => exact h
  | 18, h => exact h
  | 19, h => exact h
  | 20, h => exact h
  | 21, h => exact h
  | 22, h => exact h
  | 23, h => exact h
  | 24, h => exact h
  | 25, h => exact h
  | 26, h => exact h
  | i + 27, h => exact h
def STb (d : LegD) (p : LegP) (g : LegD) (pg q : LegP) (o : Bool) (bh bk : Nat) (t t2 : Int) (tb : Bool) (i : Nat) (W : World) (v : Value) : Prop := match i with
  | 0 => v = .bool true
  | 1 => v = .bool true
  | 2 => v = .bool false
  | 3 => v = .bool false
  | 4 => v = LegV g pg
  | 5 => v = LegV g q
  | 6 => v = .bool true
  | 7 => v = .bool false
  | 8 => v = .bool false
  | 9 => v = .bool false
  | 10 => v = LegV d p
  | 11 => v = .bool o
  | 12 => v = LegV d p
  | 13 => v = .bool o
  | 14 => v = .bool false
  | 15 => v = .bool false
  | 16 => v = .bool false
  | 17 => v = .bool true
  | 18 => v = .bool false
  | 19 => v = .bool false
  | 20 => v = .bool false
  | 21 => v = .pointer (some ⟨bh, 0, none⟩)
  | 22 => v = .int .i64 t
  | 23 => v = .pointer (some ⟨bk, 0, none⟩)
  | 24 => v = .int .i64 t2
  | 25 => v = .bool tb
  | 26 => v = .bool tb
  | _ => True
theorem STb.kept {d : LegD} {p : LegP} {g : LegD} {pg q : LegP} {o : Bool} {bh bk : Nat} {t t2 : Int} {tb : Bool} {i : Nat} {W W' : World} {v : Value} (h : STb d p g pg q o bh bk t t2 tb i W v) (hb : Below W.heap.size W W') : STb d p g pg q o bh bk t t2 tb i W' v := by
  match i, h with
  | 0, h => exact h
  | 1, h => exact h
  | 2, h => exact h
  | 3, h => exact h
  | 4, h => exact h
  | 5, h => exact h
  | 6, h => exact h
  | 7, h => exact h
  | 8, h => exact h
  | 9, h => exact h
  | 10, h => exact h
  | 11, h => exact h
  | 12, h => exact h
  | 13, h => exact h
  | 14, h => exact h
  | 15, h => exact h
  | 16, h => exact h
  | 17, h => exact h
  | 18, h => exact h
  | 19, h => exact h
  | 20, h => exact h
  | 21, h => exact h
  | 22, h => exact h
  | 23, h => exact h
  | 24, h => exact h
  | 25, h => exact h
  | 26, h => exact h
  | i + 27, h => exact h
set_option maxRecDepth 100000 in
set_option maxHeartbeats 64000000 in
theorem lawLegTurn (a0 : Option Addr) (len cap : Nat) (z : List Int) (a1 : Option Addr) (len1 cap1 : Nat) (z1 : List Int) (w : World) (r0 : IsRow .u8 w a0 len cap z) (r1 : IsRow .u8 w a1 len1 cap1 z1) :
    Calls Try.prog 10 #[.slice a0 len cap, .slice a1 len1 cap1] w fun e w' => e = .returned (.bool true) ∧ Below w.heap.size w w' := by
  by_cases hbig : 1048576 < len
  · go_enter Try.func10, Try.ntmps10
    go_wp2
    go_ret
    exact ⟨rfl, Below.refl _ _⟩
  by_cases hbig2 : 1048576 < len1
  · go_enter Try.func10, Try.ntmps10
    go_wp2
    go_ret
    exact ⟨rfl, Below.refl _ _⟩
  go_enter Try.func10, Try.ntmps10
  go_wp2_with fail
  refine (drawHold a0 len cap z _ r0).mono ?_
  rintro e w1 ⟨d, p, t, c, s, sh, rfl, hfit, hin, hb1⟩
  have HF := hfit
  have hX : LegBx ((((w1.alloc (.cells #[.string ⟨#[]⟩, .string ⟨#[]⟩, .string ⟨#[]⟩, .int .i64 0, .int .i64 0, .int .i64 0, .slice none 0 0, .slice none 0 0, .slice none 0 0, .slice none 0 0] 31)).alloc (.cells #[.int .i64 0, .int .i64 0, .int .i64 0] 35)).setRow w1.heap.size (LegC d p)).setRow (w1.heap.size + 1) (HoldC t c s)) w1.heap.size 31 d p := two2_leg w1 d p t c s
  have hQ : ((((w1.alloc (.cells #[.string ⟨#[]⟩, .string ⟨#[]⟩, .string ⟨#[]⟩, .int .i64 0, .int .i64 0, .int .i64 0, .slice none 0 0, .slice none 0 0, .slice none 0 0, .slice none 0 0] 31)).alloc (.cells #[.int .i64 0, .int .i64 0, .int .i64 0] 35)).setRow w1.heap.size (LegC d p)).setRow (w1.heap.size + 1) (HoldC t c s)).heap[w1.heap.size + 1]? = some (.cells (HoldC t c s) 35 (0, 0)) := two2_hold w1 d p t c s
  have hB : Below w1.heap.size w1 ((((w1.alloc (.cells #[.string ⟨#[]⟩, .string ⟨#[]⟩, .string ⟨#[]⟩, .int .i64 0, .int .i64 0, .int .i64 0, .slice none 0 0, .slice none 0 0, .slice none 0 0, .slice none 0 0] 31)).alloc (.cells #[.int .i64 0, .int .i64 0, .int .i64 0] 35)).setRow w1.heap.size (LegC d p)).setRow (w1.heap.size + 1) (HoldC t c s)) := two2_below w1 d p t c s
  have HL0 := Lib.hid hX
  have HQ0 := Lib.hid hQ
  have HIN0 := Lib.hid (hin.kept hB)
  have D0 := Lib.hid (bt hb1 hB)
  have HR0 := Lib.hid (isRow_below r1 (bt hb1 hB))
  have hz0 := two0_leg w1
  have hz1 := two1_hold w1 d p
  clear hfit hin hb1 hX hB hQ r0 r1
  unfold LegV
  go_wp2_with (first
    | (refine wpList_store_row rfl 31 _ _ rfl w1.heap.size (LegC d p) rfl rfl 31 #[.string ⟨#[]⟩, .string ⟨#[]⟩, .string ⟨#[]⟩, .int .i64 0, .int .i64 0, .int .i64 0, .slice none 0 0, .slice none 0 0, .slice none 0 0, .slice none 0 0] hz0 legSize rfl (leg_one d p) ?_)
    | (refine wpList_store_row rfl 35 _ _ rfl (w1.heap.size + 1) (HoldC t c s) rfl rfl 35 #[.int .i64 0, .int .i64 0, .int .i64 0] hz1 holdcSize rfl (holdc_one t c s) ?_)
    | fail)
  generalize ((((w1.alloc (.cells #[.string ⟨#[]⟩, .string ⟨#[]⟩, .string ⟨#[]⟩, .int .i64 0, .int .i64 0, .int .i64 0, .slice none 0 0, .slice none 0 0, .slice none 0 0, .slice none 0 0] 31)).alloc (.cells #[.int .i64 0, .int .i64 0, .int .i64 0] 35)).setRow w1.heap.size (LegC d p)).setRow (w1.heap.size + 1) (HoldC t c s)) = w2 at *
  clear hz0 hz1
  generalize hbl : w1.heap.size = bl at *
  generalize hbh : bl + 1 = bh at *
  clear hbl hbh
  refine (drawHold a1 len1 cap1 z1 w2 HR0.out).mono ?_
  rintro e v1 ⟨d2, p2, t2, c2, s2, sh2, rfl, hfit2, hin2, hb2⟩
  clear hfit2 hin2
  have hQ : ((((v1.alloc (.cells #[.string ⟨#[]⟩, .string ⟨#[]⟩, .string ⟨#[]⟩, .int .i64 0, .int .i64 0, .int .i64 0, .slice none 0 0, .slice none 0 0, .slice none 0 0, .slice none 0 0] 31)).alloc (.cells #[.int .i64 0, .int .i64 0, .int .i64 0] 35)).setRow v1.heap.size (LegC d2 p2)).setRow (v1.heap.size + 1) (HoldC t2 c2 s2)).heap[v1.heap.size + 1]? = some (.cells (HoldC t2 c2 s2) 35 (0, 0)) := two2_hold v1 d2 p2 t2 c2 s2
  have hB : Below v1.heap.size v1 ((((v1.alloc (.cells #[.string ⟨#[]⟩, .string ⟨#[]⟩, .string ⟨#[]⟩, .int .i64 0, .int .i64 0, .int .i64 0, .slice none 0 0, .slice none 0 0, .slice none 0 0, .slice none 0 0] 31)).alloc (.cells #[.int .i64 0, .int .i64 0, .int .i64 0] 35)).setRow v1.heap.size (LegC d2 p2)).setRow (v1.heap.size + 1) (HoldC t2 c2 s2)) := two2_below v1 d2 p2 t2 c2 s2
  have hb3 := bt hb2 hB
  have HK3 := Lib.hid hQ
  have HL3 := Lib.hid (HL0.out.kept hb3)
  have HIN3 := Lib.hid (HIN0.out.kept hb3)
  have HQ3 := Lib.hid (((hb3).block _ (lt_heap HQ0.out)).trans HQ0.out)
  have D3 := Lib.hid (bt D0.out hb3)
  have hz0 := two0_leg v1
  have hz1 := two1_hold v1 d2 p2
  clear hb2 hB hb3 hQ HR0
  have x0 := HL3.out.c0
  have x1 := HL3.out.c1
  have x2 := HL3.out.c2
  have x3 := HL3.out.c3
  have x4 := HL3.out.c4
  have x5 := HL3.out.c5
  have x6 := HL3.out.c6
  have x7 := HL3.out.c7
  have x8 := HL3.out.c8
  have x9 := HL3.out.c9
  obtain ⟨u0, u1, u2⟩ := row3 HQ3.out
  unfold LegV
  go_wp2_with (first
    | (refine wpList_store_row rfl 31 _ _ rfl v1.heap.size (LegC d2 p2) rfl rfl 31 #[.string ⟨#[]⟩, .string ⟨#[]⟩, .string ⟨#[]⟩, .int .i64 0, .int .i64 0, .int .i64 0, .slice none 0 0, .slice none 0 0, .slice none 0 0, .slice none 0 0] hz0 legSize rfl (leg_one d2 p2) ?_)
    | (refine wpList_store_row rfl 35 _ _ rfl (v1.heap.size + 1) (HoldC t2 c2 s2) rfl rfl 35 #[.int .i64 0, .int .i64 0, .int .i64 0] hz1 holdcSize rfl (holdc_one t2 c2 s2) ?_)
    | fail)
  generalize ((((v1.alloc (.cells #[.string ⟨#[]⟩, .string ⟨#[]⟩, .string ⟨#[]⟩, .int .i64 0, .int .i64 0, .int .i64 0, .slice none 0 0, .slice none 0 0, .slice none 0 0, .slice none 0 0] 31)).alloc (.cells #[.int .i64 0, .int .i64 0, .int .i64 0] 35)).setRow v1.heap.size (LegC d2 p2)).setRow (v1.heap.size + 1) (HoldC t2 c2 s2)) = w3 at *
  clear hz0 hz1
  generalize hbl : v1.heap.size = bl2 at *
  generalize hbh : bl2 + 1 = bk at *
  clear hbl hbh
  refine (LegHoldI d p t c s 1000000000 w3 HIN3.out HF.out.1 HF.out.2.1).mono ?_
  rintro e w4 ⟨g, pg, k1, rfl, hg, hng, d4⟩
  have HG := hg
  have HFg := Lib.hid (hold_fits HF.out.1 hg.out)
  have HING4 := Lib.hid hng.leg
  have HCG := Lib.hid hng.1.2.1
  have HL4 := Lib.hid (HL3.out.kept d4)
  have HIN4 := Lib.hid (HIN3.out.kept d4)
  have HQ4 := Lib.hid (((d4).block _ (lt_heap HQ3.out)).trans HQ3.out)
  have HK4 := Lib.hid (((d4).block _ (lt_heap HK3.out)).trans HK3.out)
  have D4 := Lib.hid (bt D3.out d4)
  clear hg hng d4
  clear x0 x1 x2 x3 x4 x5 x6 x7 x8 x9
  clear u0 u1 u2
  have hbXWA := legRowBelow w4 (LegC g pg)
  have hXWA : LegBx ((w4.alloc (.cells #[.string ⟨#[]⟩, .string ⟨#[]⟩, .string ⟨#[]⟩, .int .i64 0, .int .i64 0, .int .i64 0, .slice none 0 0, .slice none 0 0, .slice none 0 0, .slice none 0 0] 31)).setRow w4.heap.size (LegC g pg)) w4.heap.size 31 g pg := legRowBox w4 g pg
  have HL5 := Lib.hid (HL4.out.kept hbXWA)
  have HIN5 := Lib.hid (HIN4.out.kept hbXWA)
  have HING5 := Lib.hid (HING4.out.kept hbXWA)
  have HQ5 := Lib.hid (((hbXWA).block _ (lt_heap HQ4.out)).trans HQ4.out)
  have HK5 := Lib.hid (((hbXWA).block _ (lt_heap HK4.out)).trans HK4.out)
  have D5 := Lib.hid (bt D4.out hbXWA)
  have HX5 := Lib.hid hXWA
  clear hXWA hbXWA
  unfold LegV
  have y0 := HX5.out.c0
  have y1 := HX5.out.c1
  have y2 := HX5.out.c2
  have y3 := HX5.out.c3
  have y4 := HX5.out.c4
  have y5 := HX5.out.c5
  have y6 := HX5.out.c6
  have y7 := HX5.out.c7
  have y8 := HX5.out.c8
  have y9 := HX5.out.c9
  have x0 := HL5.out.c0
  have x1 := HL5.out.c1
  have x2 := HL5.out.c2
  have x3 := HL5.out.c3
  have x4 := HL5.out.c4
  have x5 := HL5.out.c5
  have x6 := HL5.out.c6
  have x7 := HL5.out.c7
  have x8 := HL5.out.c8
  have x9 := HL5.out.c9
  obtain ⟨u0, u1, u2⟩ := row3 HQ5.out
  go_wp2_with (first
    | (refine wpList_store_row rfl 31 _ _ rfl w4.heap.size (LegC g pg) rfl rfl 31 #[.string ⟨#[]⟩, .string ⟨#[]⟩, .string ⟨#[]⟩, .int .i64 0, .int .i64 0, .int .i64 0, .slice none 0 0, .slice none 0 0, .slice none 0 0, .slice none 0 0] (heap_alloc_new w4 _) legSize rfl (leg_one g pg) ?_)
    | fail)
  generalize (w4.alloc (.cells #[.string ⟨#[]⟩, .string ⟨#[]⟩, .string ⟨#[]⟩, .int .i64 0, .int .i64 0, .int .i64 0, .slice none 0 0, .slice none 0 0, .slice none 0 0, .slice none 0 0] 31)).setRow w4.heap.size (LegC g pg) = WA at *
  generalize w4.heap.size = bx at *
  refine (LegHoldS d p t c s 1000000000 WA HIN5.out HF.out.1 HF.out.2.2).mono ?_
  rintro e w5 ⟨g', q, k1', rfl, hg', hnq, d5⟩
  obtain ⟨e1, e2⟩ := holdIs_one HG.out hg'.out
  subst e1
  subst e2
  have HINQ5 := Lib.hid hnq.leg
  have HL7 := Lib.hid (HL5.out.kept d5)
  have HIN7 := Lib.hid (HIN5.out.kept d5)
  have HX7 := Lib.hid (HX5.out.kept d5)
  have HING7 := Lib.hid (HING5.out.kept d5)
  have HQ7 := Lib.hid (((d5).block _ (lt_heap HQ5.out)).trans HQ5.out)
  have HK7 := Lib.hid (((d5).block _ (lt_heap HK5.out)).trans HK5.out)
  have D7 := Lib.hid (bt D5.out d5)
  clear hg' hnq d5
  clear x0 x1 x2 x3 x4 x5 x6 x7 x8 x9
  clear y0 y1 y2 y3 y4 y5 y6 y7 y8 y9
  clear u0 u1 u2
  obtain ⟨o, ho⟩ : ∃ o : Bool, o = true ↔ OkLeg d := by
    by_cases q : OkLeg d
    · exact ⟨true, fun _ => q, fun _ => rfl⟩
    · exact ⟨false, fun h => (by cases h), fun h => absurd h q⟩
  have HO := Lib.hid ho
  have zoo : (o != o) = false := by simp
  obtain ⟨tb, ztb⟩ : ∃ tb : Bool, (t == t2) = tb := ⟨_, rfl⟩
  clear ho
  have hbXw6 := legRowBelow w5 (LegC g q)
  have hXw6 : LegBx ((w5.alloc (.cells #[.string ⟨#[]⟩, .string ⟨#[]⟩, .string ⟨#[]⟩, .int .i64 0, .int .i64 0, .int .i64 0, .slice none 0 0, .slice none 0 0, .slice none 0 0, .slice none 0 0] 31)).setRow w5.heap.size (LegC g q)) w5.heap.size 31 g q := legRowBox w5 g q
  have HL6 := Lib.hid (HL7.out.kept hbXw6)
  have HIN6 := Lib.hid (HIN7.out.kept hbXw6)
  have HX6 := Lib.hid (HX7.out.kept hbXw6)
  have HING6 := Lib.hid (HING7.out.kept hbXw6)
  have HINQ6 := Lib.hid (HINQ5.out.kept hbXw6)
  have HQ6 := Lib.hid (((hbXw6).block _ (lt_heap HQ7.out)).trans HQ7.out)
  have HK6 := Lib.hid (((hbXw6).block _ (lt_heap HK7.out)).trans HK7.out)
  have D6 := Lib.hid (bt D7.out hbXw6)
  have HY6 := Lib.hid hXw6
  clear hXw6 hbXw6
  unfold LegV
  have y0 := HY6.out.c0
  have y1 := HY6.out.c1
  have y2 := HY6.out.c2
  have y3 := HY6.out.c3
  have y4 := HY6.out.c4
  have y5 := HY6.out.c5
  have y6 := HY6.out.c6
  have y7 := HY6.out.c7
  have y8 := HY6.out.c8
  have y9 := HY6.out.c9
  cases k1 with
  | false =>
    go_upto_region 7 with (first
      | (refine wpList_store_row rfl 31 _ _ rfl w5.heap.size (LegC g q) rfl rfl 31 #[.string ⟨#[]⟩, .string ⟨#[]⟩, .string ⟨#[]⟩, .int .i64 0, .int .i64 0, .int .i64 0, .slice none 0 0, .slice none 0 0, .slice none 0 0, .slice none 0 0] (heap_alloc_new w5 _) legSize rfl (leg_one g q) ?_)
      | fail)
    generalize (w5.alloc (.cells #[.string ⟨#[]⟩, .string ⟨#[]⟩, .string ⟨#[]⟩, .int .i64 0, .int .i64 0, .int .i64 0, .slice none 0 0, .slice none 0 0, .slice none 0 0, .slice none 0 0] 31)).setRow w5.heap.size (LegC g q) = w6 at *
    clear y0 y1 y2 y3 y4 y5 y6 y7 y8 y9
    generalize w5.heap.size = by6 at *
    clear HL0 HL3 HL4 HL5 HL7 HIN0 HIN3 HIN4 HIN5 HIN7 HQ0 HQ3 HQ4 HQ5 HQ7 HK3 HK4 HK5 HK7 HX5 HX7 HING4 HING5 HING7 HINQ5 D0 D3 D4 D5 D7
    refine wp_region_free' (by kernel_rfl) (fun _ W => Below w6.heap.size w6 W) (fun W W' => Below W.heap.size W W') (STa d p g pg q o) (by kernel_rfl) (fun i k v W W' h _ hb => h.kept hb) ((Below.refl _ _).drew) ?_
    apply Exists.intro
    apply And.intro
    · intro f
      simp only [over, List.set]
      exact rfl
    refine ⟨?hops7false, ?hend7false⟩
    case hops7false =>
      refine EachOp.cons ?_ (EachOp.cons ?_ (EachOp.cons ?_ (EachOp.cons ?_ (EachOp.cons ?_ (EachOp.cons ?_ (EachOp.cons ?_ (EachOp.cons ?_ (EachOp.cons ?_ (EachOp.cons ?_ (EachOp.cons ?_ (EachOp.cons ?_ (EachOp.cons ?_ (EachOp.cons ?_ (EachOp.cons ?_ (EachOp.cons ?_ (EachOp.cons ?_ (EachOp.cons ?_ (EachOp.cons ?_ (EachOp.cons ?_ (EachOp.cons ?_ (EachOp.cons ?_ (EachOp.cons ?_ (EachOp.cons ?_ (EachOp.cons ?_ (EachOp.cons ?_ (EachOp.cons ?_ (EachOp.nil)))))))))))))))))))))))))))
      · intro ff kk ww hkk hI hd QQ' hQ
        try dsimp only
        go_big_wp2_with fail
        refine hQ _ _ _ ?_ hI (Below.refl _ _) rfl
        first | rfl | (simp [upd]; done)
      · intro ff kk ww hkk hI hd QQ' hQ
        try dsimp only
        go_big_wp2_with fail
        refine hQ _ _ _ ?_ hI (Below.refl _ _) rfl
        first | rfl | (simp [upd]; done)
      · intro ff kk ww hkk hI hd QQ' hQ
        try dsimp only
        have c0' : ff 0 = _ := hd.get (n := 0) (by decide)
        have c1' : ff 1 = _ := hd.get (n := 1) (by decide)
        go_big_wp2_with fail
        refine hQ _ _ _ ?_ hI (Below.refl _ _) rfl
        first | rfl | (simp [upd, c0', c1']; done)
      · intro ff kk ww hkk hI hd QQ' hQ
        try dsimp only
        have c2' : ff 2 = _ := hd.get (n := 2) (by decide)
        go_big_wp2_with fail
        refine hQ _ _ _ ?_ hI (Below.refl _ _) rfl
        first | rfl | (simp [upd, c2']; done)
      · intro ff kk ww hkk hI hd QQ' hQ
        try dsimp only
        have qb := Lib.hid (HX6.out.kept hI)
        have y0 := qb.out.c0
        have y1 := qb.out.c1
        have y2 := qb.out.c2
        have y3 := qb.out.c3
        have y4 := qb.out.c4
        have y5 := qb.out.c5
        have y6 := qb.out.c6
        have y7 := qb.out.c7
        have y8 := qb.out.c8
        have y9 := qb.out.c9
        have c3' : ff 3 = _ := hd.get (n := 3) (by decide)
        go_big_wp2_with fail
        refine hQ _ _ _ ?_ hI (Below.refl _ _) rfl
        first | rfl | (simp [upd, c3', LegV_eq, LegC]; done)
      · intro ff kk ww hkk hI hd QQ' hQ
        try dsimp only
        have qb := Lib.hid (HY6.out.kept hI)
        have y0 := qb.out.c0
        have y1 := qb.out.c1
        have y2 := qb.out.c2
        have y3 := qb.out.c3
        have y4 := qb.out.c4
        have y5 := qb.out.c5
        have y6 := qb.out.c6
        have y7 := qb.out.c7
        have y8 := qb.out.c8
        have y9 := qb.out.c9
        have c3' : ff 3 = _ := hd.get (n := 3) (by decide)
        go_big_wp2_with fail
        refine hQ _ _ _ ?_ hI (Below.refl _ _) rfl
        first | rfl | (simp [upd, c3', LegV_eq, LegC]; done)
      · intro ff kk ww hkk hI hd QQ' hQ
        try dsimp only
        have c3' : ff 3 = _ := hd.get (n := 3) (by decide)
        have c4' : ff 4 = _ := hd.get (n := 4) (by decide)
        have c5' : ff 5 = _ := hd.get (n := 5) (by decide)
        go_big_wp2_with fail
        refine (wsLegS g pg q ww (HING6.out.kept hI) (HINQ6.out.kept hI) HFg.out).mono ?_
        rintro e wa ⟨rfl, da⟩
        go_big_wp2_with fail
        refine hQ _ _ _ ?_ (bt hI da) da rfl
        first | rfl | (simp [upd, c3', c4', c5']; done)
      · intro ff kk ww hkk hI hd QQ' hQ
        try dsimp only
        have c3' : ff 3 = _ := hd.get (n := 3) (by decide)
        have c6' : ff 6 = _ := hd.get (n := 6) (by decide)
        go_big_wp2_with fail
        refine hQ _ _ _ ?_ hI (Below.refl _ _) rfl
        first | rfl | (simp [upd, c3', c6']; done)
      · intro ff kk ww hkk hI hd QQ' hQ
        try dsimp only
        have c3' : ff 3 = _ := hd.get (n := 3) (by decide)
        have c7' : ff 7 = _ := hd.get (n := 7) (by decide)
        go_big_wp2_with fail
        refine hQ _ _ _ ?_ hI (Below.refl _ _) rfl
        first | rfl | (simp [upd, c3', c7']; done)
      · intro ff kk ww hkk hI hd QQ' hQ
        try dsimp only
        have c8' : ff 8 = _ := hd.get (n := 8) (by decide)
        go_big_wp2_with fail
        refine hQ _ _ _ ?_ hI (Below.refl _ _) rfl
        first | rfl | (simp [upd, c8']; done)
      · intro ff kk ww hkk hI hd QQ' hQ
        try dsimp only
        have qb := Lib.hid (HL6.out.kept hI)
        have y0 := qb.out.c0
        have y1 := qb.out.c1
        have y2 := qb.out.c2
        have y3 := qb.out.c3
        have y4 := qb.out.c4
        have y5 := qb.out.c5
        have y6 := qb.out.c6
        have y7 := qb.out.c7
        have y8 := qb.out.c8
        have y9 := qb.out.c9
        have c9' : ff 9 = _ := hd.get (n := 9) (by decide)
        go_big_wp2_with fail
        refine hQ _ _ _ ?_ hI (Below.refl _ _) rfl
        first | rfl | (simp [upd, c9', LegV_eq, LegC]; done)
      · intro ff kk ww hkk hI hd QQ' hQ
        try dsimp only
        have c9' : ff 9 = _ := hd.get (n := 9) (by decide)
        have c10' : ff 10 = _ := hd.get (n := 10) (by decide)
        go_big_wp2_with fail
        refine (det (okI d p ww (HIN6.out.kept hI) HF.out.1 HF.out.2.1) o HO.out).mono ?_
        rintro e wa ⟨rfl, da⟩
        go_big_wp2_with fail
        refine hQ _ _ _ ?_ (bt hI da) da rfl
        first | rfl | (simp [upd, c9', c10']; done)
      · intro ff kk ww hkk hI hd QQ' hQ
        try dsimp only
        have qb := Lib.hid (HL6.out.kept hI)
        have y0 := qb.out.c0
        have y1 := qb.out.c1
        have y2 := qb.out.c2
        have y3 := qb.out.c3
        have y4 := qb.out.c4
        have y5 := qb.out.c5
        have y6 := qb.out.c6
        have y7 := qb.out.c7
        have y8 := qb.out.c8
        have y9 := qb.out.c9
        have c9' : ff 9 = _ := hd.get (n := 9) (by decide)
        go_big_wp2_with fail
        refine hQ _ _ _ ?_ hI (Below.refl _ _) rfl
        first | rfl | (simp [upd, c9', LegV_eq, LegC]; done)
      · intro ff kk ww hkk hI hd QQ' hQ
        try dsimp only
        have c9' : ff 9 = _ := hd.get (n := 9) (by decide)
        have c12' : ff 12 = _ := hd.get (n := 12) (by decide)
        go_big_wp2_with fail
        refine (det (okM d p ww (HIN6.out.kept hI) HF.out.1) o HO.out).mono ?_
        rintro e wa ⟨rfl, da⟩
        go_big_wp2_with fail
        refine hQ _ _ _ ?_ (bt hI da) da rfl
        first | rfl | (simp [upd, c9', c12']; done)
      · intro ff kk ww hkk hI hd QQ' hQ
        try dsimp only
        have c9' : ff 9 = _ := hd.get (n := 9) (by decide)
        have c11' : ff 11 = _ := hd.get (n := 11) (by decide)
        have c13' : ff 13 = _ := hd.get (n := 13) (by decide)
        go_big_wp2_with fail
        refine hQ _ _ _ ?_ hI (Below.refl _ _) rfl
        first | rfl | (simp [upd, c9', c11', c13', zoo]; done)
      · intro ff kk ww hkk hI hd QQ' hQ
        try dsimp only
        have c9' : ff 9 = _ := hd.get (n := 9) (by decide)
        have c14' : ff 14 = _ := hd.get (n := 14) (by decide)
        go_big_wp2_with fail
        refine hQ _ _ _ ?_ hI (Below.refl _ _) rfl
        first | rfl | (simp [upd, c9', c14']; done)
      · intro ff kk ww hkk hI hd QQ' hQ
        try dsimp only
        have c15' : ff 15 = _ := hd.get (n := 15) (by decide)
        go_big_wp2_with fail
        refine hQ _ _ _ ?_ hI (Below.refl _ _) rfl
        first | rfl | (simp [upd, c15']; done)
      · intro ff kk ww hkk hI hd QQ' hQ
        try dsimp only
        have c16' : ff 16 = _ := hd.get (n := 16) (by decide)
        go_big_wp2_with fail
        refine hQ _ _ _ ?_ hI (Below.refl _ _) rfl
        first | rfl | (simp [upd, c16']; done)
      · intro ff kk ww hkk hI hd QQ' hQ
        try dsimp only
        have c16' : ff 16 = _ := hd.get (n := 16) (by decide)
        have c17' : ff 17 = _ := hd.get (n := 17) (by decide)
        go_big_wp2_with fail
        refine hQ _ _ _ ?_ hI (Below.refl _ _) rfl
        first | rfl | (simp [upd, c16', c17']; done)
      · intro ff kk ww hkk hI hd QQ' hQ
        try dsimp only
        have c16' : ff 16 = _ := hd.get (n := 16) (by decide)
        have c18' : ff 18 = _ := hd.get (n := 18) (by decide)
        go_big_wp2_with fail
        refine hQ _ _ _ ?_ hI (Below.refl _ _) rfl
        first | rfl | (simp [upd, c16', c18']; done)
      · intro ff kk ww hkk hI hd QQ' hQ
        try dsimp only
        have c19' : ff 19 = _ := hd.get (n := 19) (by decide)
        go_big_wp2_with fail
        refine hQ _ _ _ ?_ hI (Below.refl _ _) rfl
        first | rfl | (simp [upd, c19']; done)
      · intro ff kk ww hkk hI hd QQ' hQ
        try dsimp only
        have c20' : ff 20 = _ := hd.get (n := 20) (by decide)
        go_big_wp2_with fail
        refine hQ _ undef _ ?_ hI (Below.refl _ _) trivial
        first | rfl | (simp [upd, c20']; done)
      · intro ff kk ww hkk hI hd QQ' hQ
        try dsimp only
        have c20' : ff 20 = _ := hd.get (n := 20) (by decide)
        go_big_wp2_with fail
        refine hQ _ undef _ ?_ hI (Below.refl _ _) trivial
        first | rfl | (simp [upd, c20']; done)
      · intro ff kk ww hkk hI hd QQ' hQ
        try dsimp only
        have c20' : ff 20 = _ := hd.get (n := 20) (by decide)
        go_big_wp2_with fail
        refine hQ _ undef _ ?_ hI (Below.refl _ _) trivial
        first | rfl | (simp [upd, c20']; done)
      · intro ff kk ww hkk hI hd QQ' hQ
        try dsimp only
        have c20' : ff 20 = _ := hd.get (n := 20) (by decide)
        go_big_wp2_with fail
        refine hQ _ undef _ ?_ hI (Below.refl _ _) trivial
        first | rfl | (simp [upd, c20']; done)
      · intro ff kk ww hkk hI hd QQ' hQ
        try dsimp only
        have c20' : ff 20 = _ := hd.get (n := 20) (by decide)
        go_big_wp2_with fail
        refine hQ _ undef _ ?_ hI (Below.refl _ _) trivial
        first | rfl | (simp [upd, c20']; done)
      · intro ff kk ww hkk hI hd QQ' hQ
        try dsimp only
        have c20' : ff 20 = _ := hd.get (n := 20) (by decide)
        go_big_wp2_with fail
        refine hQ _ _ _ ?_ hI (Below.refl _ _) rfl
        first | rfl | (simp [upd, c20']; done)
    case hend7false =>
    intro ff kk w7 d7 hS
    try dsimp only
    have cz' : ff 26 = _ := hS 26 (by decide)
    rw [cz']
    clear cz' hS
    have HL8 := Lib.hid (HL6.out.kept d7)
    have HIN8 := Lib.hid (HIN6.out.kept d7)
    have HX8 := Lib.hid (HX6.out.kept d7)
    have HY8 := Lib.hid (HY6.out.kept d7)
    have HING8 := Lib.hid (HING6.out.kept d7)
    have HINQ8 := Lib.hid (HINQ6.out.kept d7)
    have HQ8 := Lib.hid (((d7).block _ (lt_heap HQ6.out)).trans HQ6.out)
    have HK8 := Lib.hid (((d7).block _ (lt_heap HK6.out)).trans HK6.out)
    have D8 := Lib.hid (bt D6.out d7)
    clear d7 zoo HL6 HIN6 HX6 HY6 HING6 HINQ6 HQ6 HK6 D6
    have x0 := HX8.out.c0
    have x1 := HX8.out.c1
    have x2 := HX8.out.c2
    have x3 := HX8.out.c3
    have x4 := HX8.out.c4
    have x5 := HX8.out.c5
    have x6 := HX8.out.c6
    have x7 := HX8.out.c7
    have x8 := HX8.out.c8
    have x9 := HX8.out.c9
    have y0 := HY8.out.c0
    have y1 := HY8.out.c1
    have y2 := HY8.out.c2
    have y3 := HY8.out.c3
    have y4 := HY8.out.c4
    have y5 := HY8.out.c5
    have y6 := HY8.out.c6
    have y7 := HY8.out.c7
    have y8 := HY8.out.c8
    have y9 := HY8.out.c9
    go_wp2_with fail
    refine (wsLegS g pg q w7 HING8.out HINQ8.out HFg.out).mono ?_
    rintro e w8 ⟨rfl, d8⟩
    have D9 := Lib.hid (bt D8.out d8)
    clear d8
    clear x0 x1 x2 x3 x4 x5 x6 x7 x8 x9
    clear y0 y1 y2 y3 y4 y5 y6 y7 y8 y9
    go_wp2
    go_ret
    exact ⟨rfl, D9.out⟩
  | true =>
  go_upto_region 7 with (first
    | (refine wpList_store_row rfl 31 _ _ rfl w5.heap.size (LegC g q) rfl rfl 31 #[.string ⟨#[]⟩, .string ⟨#[]⟩, .string ⟨#[]⟩, .int .i64 0, .int .i64 0, .int .i64 0, .slice none 0 0, .slice none 0 0, .slice none 0 0, .slice none 0 0] (heap_alloc_new w5 _) legSize rfl (leg_one g q) ?_)
    | fail)
  generalize (w5.alloc (.cells #[.string ⟨#[]⟩, .string ⟨#[]⟩, .string ⟨#[]⟩, .int .i64 0, .int .i64 0, .int .i64 0, .slice none 0 0, .slice none 0 0, .slice none 0 0, .slice none 0 0] 31)).setRow w5.heap.size (LegC g q) = w6 at *
  clear y0 y1 y2 y3 y4 y5 y6 y7 y8 y9
  generalize w5.heap.size = by6 at *
  clear HL0 HL3 HL4 HL5 HL7 HIN0 HIN3 HIN4 HIN5 HIN7 HQ0 HQ3 HQ4 HQ5 HQ7 HK3 HK4 HK5 HK7 HX5 HX7 HING4 HING5 HING7 HINQ5 D0 D3 D4 D5 D7
  refine wp_region_free' (by kernel_rfl) (fun _ W => Below w6.heap.size w6 W) (fun W W' => Below W.heap.size W W') (STb d p g pg q o bh bk t t2 tb) (by kernel_rfl) (fun i k v W W' h _ hb => h.kept hb) ((Below.refl _ _).drew) ?_
  apply Exists.intro
  apply And.intro
  · intro f
    simp only [over, List.set]
    exact rfl
  refine ⟨?hops7true, ?hend7true⟩
  case hops7true =>
    refine EachOp.cons ?_ (EachOp.cons ?_ (EachOp.cons ?_ (EachOp.cons ?_ (EachOp.cons ?_ (EachOp.cons ?_ (EachOp.cons ?_ (EachOp.cons ?_ (EachOp.cons ?_ (EachOp.cons ?_ (EachOp.cons ?_ (EachOp.cons ?_ (EachOp.cons ?_ (EachOp.cons ?_ (EachOp.cons ?_ (EachOp.cons ?_ (EachOp.cons ?_ (EachOp.cons ?_ (EachOp.cons ?_ (EachOp.cons ?_ (EachOp.cons ?_ (EachOp.cons ?_ (EachOp.cons ?_ (EachOp.cons ?_ (EachOp.cons ?_ (EachOp.cons ?_ (EachOp.cons ?_ (EachOp.nil)))))))))))))))))))))))))))
    · intro ff kk ww hkk hI hd QQ' hQ
      try dsimp only
      go_big_wp2_with fail
      refine hQ _ _ _ ?_ hI (Below.refl _ _) rfl
      first | rfl | (simp [upd]; done)
    · intro ff kk ww hkk hI hd QQ' hQ
      try dsimp only
      go_big_wp2_with fail
      refine hQ _ _ _ ?_ hI (Below.refl _ _) rfl
      first | rfl | (simp [upd]; done)
    · intro ff kk ww hkk hI hd QQ' hQ
      try dsimp only
      have c0' : ff 0 = _ := hd.get (n := 0) (by decide)
      have c1' : ff 1 = _ := hd.get (n := 1) (by decide)
      go_big_wp2_with fail
      refine hQ _ _ _ ?_ hI (Below.refl _ _) rfl
      first | rfl | (simp [upd, c0', c1']; done)
    · intro ff kk ww hkk hI hd QQ' hQ
      try dsimp only
      have c2' : ff 2 = _ := hd.get (n := 2) (by decide)
      go_big_wp2_with fail
      refine hQ _ _ _ ?_ hI (Below.refl _ _) rfl
      first | rfl | (simp [upd, c2']; done)
    · intro ff kk ww hkk hI hd QQ' hQ
      try dsimp only
      have qb := Lib.hid (HX6.out.kept hI)
      have y0 := qb.out.c0
      have y1 := qb.out.c1
      have y2 := qb.out.c2
      have y3 := qb.out.c3
      have y4 := qb.out.c4
      have y5 := qb.out.c5
      have y6 := qb.out.c6
      have y7 := qb.out.c7
      have y8 := qb.out.c8
      have y9 := qb.out.c9
      have c3' : ff 3 = _ := hd.get (n := 3) (by decide)
      go_big_wp2_with fail
      refine hQ _ _ _ ?_ hI (Below.refl _ _) rfl
      first | rfl | (simp [upd, c3', LegV_eq, LegC]; done)
    · intro ff kk ww hkk hI hd QQ' hQ
      try dsimp only
      have qb := Lib.hid (HY6.out.kept hI)
      have y0 := qb.out.c0
      have y1 := qb.out.c1
      have y2 := qb.out.c2
      have y3 := qb.out.c3
      have y4 := qb.out.c4
      have y5 := qb.out.c5
      have y6 := qb.out.c6
      have y7 := qb.out.c7
      have y8 := qb.out.c8
      have y9 := qb.out.c9
      have c3' : ff 3 = _ := hd.get (n := 3) (by decide)
      go_big_wp2_with fail
      refine hQ _ _ _ ?_ hI (Below.refl _ _) rfl
      first | rfl | (simp [upd, c3', LegV_eq, LegC]; done)
    · intro ff kk ww hkk hI hd QQ' hQ
      try dsimp only
      have c3' : ff 3 = _ := hd.get (n := 3) (by decide)
      have c4' : ff 4 = _ := hd.get (n := 4) (by decide)
      have c5' : ff 5 = _ := hd.get (n := 5) (by decide)
      go_big_wp2_with fail
      refine (wsLegS g pg q ww (HING6.out.kept hI) (HINQ6.out.kept hI) HFg.out).mono ?_
      rintro e wa ⟨rfl, da⟩
      go_big_wp2_with fail
      refine hQ _ _ _ ?_ (bt hI da) da rfl
      first | rfl | (simp [upd, c3', c4', c5']; done)
    · intro ff kk ww hkk hI hd QQ' hQ
      try dsimp only
      have c3' : ff 3 = _ := hd.get (n := 3) (by decide)
      have c6' : ff 6 = _ := hd.get (n := 6) (by decide)
      go_big_wp2_with fail
      refine hQ _ _ _ ?_ hI (Below.refl _ _) rfl
      first | rfl | (simp [upd, c3', c6']; done)
    · intro ff kk ww hkk hI hd QQ' hQ
      try dsimp only
      have c3' : ff 3 = _ := hd.get (n := 3) (by decide)
      have c7' : ff 7 = _ := hd.get (n := 7) (by decide)
      go_big_wp2_with fail
      refine hQ _ _ _ ?_ hI (Below.refl _ _) rfl
      first | rfl | (simp [upd, c3', c7']; done)
    · intro ff kk ww hkk hI hd QQ' hQ
      try dsimp only
      have c8' : ff 8 = _ := hd.get (n := 8) (by decide)
      go_big_wp2_with fail
      refine hQ _ _ _ ?_ hI (Below.refl _ _) rfl
      first | rfl | (simp [upd, c8']; done)
    · intro ff kk ww hkk hI hd QQ' hQ
      try dsimp only
      have qb := Lib.hid (HL6.out.kept hI)
      have y0 := qb.out.c0
      have y1 := qb.out.c1
      have y2 := qb.out.c2
      have y3 := qb.out.c3
      have y4 := qb.out.c4
      have y5 := qb.out.c5
      have y6 := qb.out.c6
      have y7 := qb.out.c7
      have y8 := qb.out.c8
      have y9 := qb.out.c9
      have c9' : ff 9 = _ := hd.get (n := 9) (by decide)
      go_big_wp2_with fail
      refine hQ _ _ _ ?_ hI (Below.refl _ _) rfl
      first | rfl | (simp [upd, c9', LegV_eq, LegC]; done)
    · intro ff kk ww hkk hI hd QQ' hQ
      try dsimp only
      have c9' : ff 9 = _ := hd.get (n := 9) (by decide)
      have c10' : ff 10 = _ := hd.get (n := 10) (by decide)
      go_big_wp2_with fail
      refine (det (okI d p ww (HIN6.out.kept hI) HF.out.1 HF.out.2.1) o HO.out).mono ?_
      rintro e wa ⟨rfl, da⟩
      go_big_wp2_with fail
      refine hQ _ _ _ ?_ (bt hI da) da rfl
      first | rfl | (simp [upd, c9', c10']; done)
    · intro ff kk ww hkk hI hd QQ' hQ
      try dsimp only
      have qb := Lib.hid (HL6.out.kept hI)
      have y0 := qb.out.c0
      have y1 := qb.out.c1
      have y2 := qb.out.c2
      have y3 := qb.out.c3
      have y4 := qb.out.c4
      have y5 := qb.out.c5
      have y6 := qb.out.c6
      have y7 := qb.out.c7
      have y8 := qb.out.c8
      have y9 := qb.out.c9
      have c9' : ff 9 = _ := hd.get (n := 9) (by decide)
      go_big_wp2_with fail
      refine hQ _ _ _ ?_ hI (Below.refl _ _) rfl
      first | rfl | (simp [upd, c9', LegV_eq, LegC]; done)
    · intro ff kk ww hkk hI hd QQ' hQ
      try dsimp only
      have c9' : ff 9 = _ := hd.get (n := 9) (by decide)
      have c12' : ff 12 = _ := hd.get (n := 12) (by decide)
      go_big_wp2_with fail
      refine (det (okM d p ww (HIN6.out.kept hI) HF.out.1) o HO.out).mono ?_
      rintro e wa ⟨rfl, da⟩
      go_big_wp2_with fail
      refine hQ _ _ _ ?_ (bt hI da) da rfl
      first | rfl | (simp [upd, c9', c12']; done)
    · intro ff kk ww hkk hI hd QQ' hQ
      try dsimp only
      have c9' : ff 9 = _ := hd.get (n := 9) (by decide)
      have c11' : ff 11 = _ := hd.get (n := 11) (by decide)
      have c13' : ff 13 = _ := hd.get (n := 13) (by decide)
      go_big_wp2_with fail
      refine hQ _ _ _ ?_ hI (Below.refl _ _) rfl
      first | rfl | (simp [upd, c9', c11', c13', zoo]; done)
    · intro ff kk ww hkk hI hd QQ' hQ
      try dsimp only
      have c9' : ff 9 = _ := hd.get (n := 9) (by decide)
      have c14' : ff 14 = _ := hd.get (n := 14) (by decide)
      go_big_wp2_with fail
      refine hQ _ _ _ ?_ hI (Below.refl _ _) rfl
      first | rfl | (simp [upd, c9', c14']; done)
    · intro ff kk ww hkk hI hd QQ' hQ
      try dsimp only
      have c15' : ff 15 = _ := hd.get (n := 15) (by decide)
      go_big_wp2_with fail
      refine hQ _ _ _ ?_ hI (Below.refl _ _) rfl
      first | rfl | (simp [upd, c15']; done)
    · intro ff kk ww hkk hI hd QQ' hQ
      try dsimp only
      have c16' : ff 16 = _ := hd.get (n := 16) (by decide)
      go_big_wp2_with fail
      refine hQ _ _ _ ?_ hI (Below.refl _ _) rfl
      first | rfl | (simp [upd, c16']; done)
    · intro ff kk ww hkk hI hd QQ' hQ
      try dsimp only
      have c16' : ff 16 = _ := hd.get (n := 16) (by decide)
      have c17' : ff 17 = _ := hd.get (n := 17) (by decide)
      go_big_wp2_with fail
      refine hQ _ _ _ ?_ hI (Below.refl _ _) rfl
      first | rfl | (simp [upd, c16', c17']; done)
    · intro ff kk ww hkk hI hd QQ' hQ
      try dsimp only
      have c16' : ff 16 = _ := hd.get (n := 16) (by decide)
      have c18' : ff 18 = _ := hd.get (n := 18) (by decide)
      go_big_wp2_with fail
      refine hQ _ _ _ ?_ hI (Below.refl _ _) rfl
      first | rfl | (simp [upd, c16', c18']; done)
    · intro ff kk ww hkk hI hd QQ' hQ
      try dsimp only
      have c19' : ff 19 = _ := hd.get (n := 19) (by decide)
      go_big_wp2_with fail
      refine hQ _ _ _ ?_ hI (Below.refl _ _) rfl
      first | rfl | (simp [upd, c19']; done)
    · intro ff kk ww hkk hI hd QQ' hQ
      try dsimp only
      have c20' : ff 20 = _ := hd.get (n := 20) (by decide)
      go_big_wp2_with fail
      refine hQ _ _ _ ?_ hI (Below.refl _ _) rfl
      first | rfl | (simp [upd, c20']; done)
    · intro ff kk ww hkk hI hd QQ' hQ
      try dsimp only
      obtain ⟨y0, -, -⟩ := row3 ((hI.block _ (lt_heap HQ6.out)).trans HQ6.out)
      have c20' : ff 20 = _ := hd.get (n := 20) (by decide)
      have c21' : ff 21 = _ := hd.get (n := 21) (by decide)
      go_big_wp2_with fail
      refine hQ _ _ _ ?_ hI (Below.refl _ _) rfl
      first | rfl | (simp [upd, c20', c21']; done)
    · intro ff kk ww hkk hI hd QQ' hQ
      try dsimp only
      have c20' : ff 20 = _ := hd.get (n := 20) (by decide)
      go_big_wp2_with fail
      refine hQ _ _ _ ?_ hI (Below.refl _ _) rfl
      first | rfl | (simp [upd, c20']; done)
    · intro ff kk ww hkk hI hd QQ' hQ
      try dsimp only
      obtain ⟨y0, -, -⟩ := row3 ((hI.block _ (lt_heap HK6.out)).trans HK6.out)
      have c20' : ff 20 = _ := hd.get (n := 20) (by decide)
      have c23' : ff 23 = _ := hd.get (n := 23) (by decide)
      go_big_wp2_with fail
      refine hQ _ _ _ ?_ hI (Below.refl _ _) rfl
      first | rfl | (simp [upd, c20', c23']; done)
    · intro ff kk ww hkk hI hd QQ' hQ
      try dsimp only
      have c20' : ff 20 = _ := hd.get (n := 20) (by decide)
      have c22' : ff 22 = _ := hd.get (n := 22) (by decide)
      have c24' : ff 24 = _ := hd.get (n := 24) (by decide)
      go_big_wp2_with fail
      refine hQ _ _ _ ?_ hI (Below.refl _ _) rfl
      first | rfl | (simp [upd, c20', c22', c24', ztb]; done)
    · intro ff kk ww hkk hI hd QQ' hQ
      try dsimp only
      have c20' : ff 20 = _ := hd.get (n := 20) (by decide)
      have c25' : ff 25 = _ := hd.get (n := 25) (by decide)
      go_big_wp2_with fail
      refine hQ _ _ _ ?_ hI (Below.refl _ _) rfl
      first | rfl | (simp [upd, c20', c25']; done)
  case hend7true =>
  intro ff kk w7 d7 hS
  try dsimp only
  have cz' : ff 26 = _ := hS 26 (by decide)
  rw [cz']
  clear cz' hS
  have HL8 := Lib.hid (HL6.out.kept d7)
  have HIN8 := Lib.hid (HIN6.out.kept d7)
  have HX8 := Lib.hid (HX6.out.kept d7)
  have HY8 := Lib.hid (HY6.out.kept d7)
  have HING8 := Lib.hid (HING6.out.kept d7)
  have HINQ8 := Lib.hid (HINQ6.out.kept d7)
  have HQ8 := Lib.hid (((d7).block _ (lt_heap HQ6.out)).trans HQ6.out)
  have HK8 := Lib.hid (((d7).block _ (lt_heap HK6.out)).trans HK6.out)
  have D8 := Lib.hid (bt D6.out d7)
  clear d7 zoo HL6 HIN6 HX6 HY6 HING6 HINQ6 HQ6 HK6 D6
  cases tb with
  | true =>
    have x0 := HX8.out.c0
    have x1 := HX8.out.c1
    have x2 := HX8.out.c2
    have x3 := HX8.out.c3
    have x4 := HX8.out.c4
    have x5 := HX8.out.c5
    have x6 := HX8.out.c6
    have x7 := HX8.out.c7
    have x8 := HX8.out.c8
    have x9 := HX8.out.c9
    have y0 := HY8.out.c0
    have y1 := HY8.out.c1
    have y2 := HY8.out.c2
    have y3 := HY8.out.c3
    have y4 := HY8.out.c4
    have y5 := HY8.out.c5
    have y6 := HY8.out.c6
    have y7 := HY8.out.c7
    have y8 := HY8.out.c8
    have y9 := HY8.out.c9
    go_wp2_with fail
    refine (wsLegS g pg q w7 HING8.out HINQ8.out HFg.out).mono ?_
    rintro e w8 ⟨rfl, d8⟩
    have D9 := Lib.hid (bt D8.out d8)
    clear d8
    clear x0 x1 x2 x3 x4 x5 x6 x7 x8 x9
    clear y0 y1 y2 y3 y4 y5 y6 y7 y8 y9
    go_wp2
    go_ret
    exact ⟨rfl, D9.out⟩
  | false =>
  have HNE : Hid (t ≠ t2) := Lib.hid (by simpa using ztb)
  clear ztb HY8 HINQ8
  have x0 := HX8.out.c0
  have x1 := HX8.out.c1
  have x2 := HX8.out.c2
  have x3 := HX8.out.c3
  have x4 := HX8.out.c4
  have x5 := HX8.out.c5
  have x6 := HX8.out.c6
  have x7 := HX8.out.c7
  have x8 := HX8.out.c8
  have x9 := HX8.out.c9
  obtain ⟨u0, u1, u2⟩ := row3 HK8.out
  go_wp2_with fail
  refine (LegHoldI g pg t2 c2 s2 1000000000 w7 HING8.out HFg.out HCG.out).mono ?_
  rintro e w8 ⟨ga, pa, one, rfl, hga, hna, d8⟩
  have HGA := hga
  have HFa := Lib.hid (hold_fits HFg.out hga.out)
  have HINa := Lib.hid hna.leg
  have HL9 := Lib.hid (HL8.out.kept d8)
  have HIN9 := Lib.hid (HIN8.out.kept d8)
  have HQ9 := Lib.hid (((d8).block _ (lt_heap HQ8.out)).trans HQ8.out)
  have HK9 := Lib.hid (((d8).block _ (lt_heap HK8.out)).trans HK8.out)
  have D9 := Lib.hid (bt D8.out d8)
  clear hga hna d8
  clear x0 x1 x2 x3 x4 x5 x6 x7 x8 x9
  clear u0 u1 u2
  have hbXWB := legRowBelow w8 (LegC ga pa)
  have hXWB : LegBx ((w8.alloc (.cells #[.string ⟨#[]⟩, .string ⟨#[]⟩, .string ⟨#[]⟩, .int .i64 0, .int .i64 0, .int .i64 0, .slice none 0 0, .slice none 0 0, .slice none 0 0, .slice none 0 0] 31)).setRow w8.heap.size (LegC ga pa)) w8.heap.size 31 ga pa := legRowBox w8 ga pa
  have HLA := Lib.hid (HL9.out.kept hbXWB)
  have HINA := Lib.hid (HIN9.out.kept hbXWB)
  have HINAA := Lib.hid (HINa.out.kept hbXWB)
  have HQA := Lib.hid (((hbXWB).block _ (lt_heap HQ9.out)).trans HQ9.out)
  have HKA := Lib.hid (((hbXWB).block _ (lt_heap HK9.out)).trans HK9.out)
  have DA := Lib.hid (bt D9.out hbXWB)
  have HAB := Lib.hid hXWB
  clear hXWB hbXWB
  unfold LegV
  have y0 := HAB.out.c0
  have y1 := HAB.out.c1
  have y2 := HAB.out.c2
  have y3 := HAB.out.c3
  have y4 := HAB.out.c4
  have y5 := HAB.out.c5
  have y6 := HAB.out.c6
  have y7 := HAB.out.c7
  have y8 := HAB.out.c8
  have y9 := HAB.out.c9
  have x0 := HLA.out.c0
  have x1 := HLA.out.c1
  have x2 := HLA.out.c2
  have x3 := HLA.out.c3
  have x4 := HLA.out.c4
  have x5 := HLA.out.c5
  have x6 := HLA.out.c6
  have x7 := HLA.out.c7
  have x8 := HLA.out.c8
  have x9 := HLA.out.c9
  obtain ⟨u0, u1, u2⟩ := row3 HKA.out
  go_wp2_with (first
    | (refine wpList_store_row rfl 31 _ _ rfl w8.heap.size (LegC ga pa) rfl rfl 31 #[.string ⟨#[]⟩, .string ⟨#[]⟩, .string ⟨#[]⟩, .int .i64 0, .int .i64 0, .int .i64 0, .slice none 0 0, .slice none 0 0, .slice none 0 0, .slice none 0 0] (heap_alloc_new w8 _) legSize rfl (leg_one ga pa) ?_)
    | fail)
  generalize (w8.alloc (.cells #[.string ⟨#[]⟩, .string ⟨#[]⟩, .string ⟨#[]⟩, .int .i64 0, .int .i64 0, .int .i64 0, .slice none 0 0, .slice none 0 0, .slice none 0 0, .slice none 0 0] 31)).setRow w8.heap.size (LegC ga pa) = WB at *
  generalize w8.heap.size = b15 at *
  refine (LegHoldI d p t2 c2 s2 1000000000 WB HINA.out HF.out.1 HF.out.2.1).mono ?_
  rintro e w9 ⟨yd, py, two, rfl, hy, hny, d9⟩
  have HYD := hy
  have HFy := Lib.hid (hold_fits HF.out.1 hy.out)
  have HINy := Lib.hid hny.leg
  have HCy := Lib.hid hny.1.2.1
  have HBB := Lib.hid (HAB.out.kept d9)
  have HINB := Lib.hid (HINAA.out.kept d9)
  have HQB := Lib.hid (((d9).block _ (lt_heap HQA.out)).trans HQA.out)
  have DB := Lib.hid (bt DA.out d9)
  clear hy hny d9
  clear x0 x1 x2 x3 x4 x5 x6 x7 x8 x9
  clear y0 y1 y2 y3 y4 y5 y6 y7 y8 y9
  clear u0 u1 u2
  have hbXWC := legRowBelow w9 (LegC yd py)
  have hXWC : LegBx ((w9.alloc (.cells #[.string ⟨#[]⟩, .string ⟨#[]⟩, .string ⟨#[]⟩, .int .i64 0, .int .i64 0, .int .i64 0, .slice none 0 0, .slice none 0 0, .slice none 0 0, .slice none 0 0] 31)).setRow w9.heap.size (LegC yd py)) w9.heap.size 31 yd py := legRowBox w9 yd py
  have HBC := Lib.hid (HBB.out.kept hbXWC)
  have HINC := Lib.hid (HINB.out.kept hbXWC)
  have HINYC := Lib.hid (HINy.out.kept hbXWC)
  have HQC := Lib.hid (((hbXWC).block _ (lt_heap HQB.out)).trans HQB.out)
  have DC := Lib.hid (bt DB.out hbXWC)
  have HYC := Lib.hid hXWC
  clear hXWC hbXWC
  unfold LegV
  have y0 := HYC.out.c0
  have y1 := HYC.out.c1
  have y2 := HYC.out.c2
  have y3 := HYC.out.c3
  have y4 := HYC.out.c4
  have y5 := HYC.out.c5
  have y6 := HYC.out.c6
  have y7 := HYC.out.c7
  have y8 := HYC.out.c8
  have y9 := HYC.out.c9
  obtain ⟨u0, u1, u2⟩ := row3 HQC.out
  go_wp2_with (first
    | (refine wpList_store_row rfl 31 _ _ rfl w9.heap.size (LegC yd py) rfl rfl 31 #[.string ⟨#[]⟩, .string ⟨#[]⟩, .string ⟨#[]⟩, .int .i64 0, .int .i64 0, .int .i64 0, .slice none 0 0, .slice none 0 0, .slice none 0 0, .slice none 0 0] (heap_alloc_new w9 _) legSize rfl (leg_one yd py) ?_)
    | fail)
  generalize (w9.alloc (.cells #[.string ⟨#[]⟩, .string ⟨#[]⟩, .string ⟨#[]⟩, .int .i64 0, .int .i64 0, .int .i64 0, .slice none 0 0, .slice none 0 0, .slice none 0 0, .slice none 0 0] 31)).setRow w9.heap.size (LegC yd py) = WC at *
  generalize w9.heap.size = b17 at *
  refine (LegHoldI yd py t c s 1000000000 WC HINYC.out HFy.out HCy.out).mono ?_
  rintro e wd ⟨gb, pb, three, rfl, hb, hnb, dd⟩
  have HGB := hb
  have HINb := Lib.hid hnb.leg
  have HBD := Lib.hid (HBC.out.kept dd)
  have HIND := Lib.hid (HINC.out.kept dd)
  have DD := Lib.hid (bt DC.out dd)
  clear hb hnb dd
  clear y0 y1 y2 y3 y4 y5 y6 y7 y8 y9
  clear u0 u1 u2
  cases one with
  | false =>
    have hbXWE := legRowBelow wd (LegC gb pb)
    have hXWE : LegBx ((wd.alloc (.cells #[.string ⟨#[]⟩, .string ⟨#[]⟩, .string ⟨#[]⟩, .int .i64 0, .int .i64 0, .int .i64 0, .slice none 0 0, .slice none 0 0, .slice none 0 0, .slice none 0 0] 31)).setRow wd.heap.size (LegC gb pb)) wd.heap.size 31 gb pb := legRowBox wd gb pb
    have HBE := Lib.hid (HBD.out.kept hbXWE)
    have HINE := Lib.hid (HIND.out.kept hbXWE)
    have HINbE := Lib.hid (HINb.out.kept hbXWE)
    have DE := Lib.hid (bt DD.out hbXWE)
    have HGE := Lib.hid hXWE
    clear hXWE hbXWE
    unfold LegV
    have y0 := HGE.out.c0
    have y1 := HGE.out.c1
    have y2 := HGE.out.c2
    have y3 := HGE.out.c3
    have y4 := HGE.out.c4
    have y5 := HGE.out.c5
    have y6 := HGE.out.c6
    have y7 := HGE.out.c7
    have y8 := HGE.out.c8
    have y9 := HGE.out.c9
    go_wp2_with (first
      | (refine wpList_store_row rfl 31 _ _ rfl wd.heap.size (LegC gb pb) rfl rfl 31 #[.string ⟨#[]⟩, .string ⟨#[]⟩, .string ⟨#[]⟩, .int .i64 0, .int .i64 0, .int .i64 0, .slice none 0 0, .slice none 0 0, .slice none 0 0, .slice none 0 0] (heap_alloc_new wd _) legSize rfl (leg_one gb pb) ?_)
      | fail)
    generalize (wd.alloc (.cells #[.string ⟨#[]⟩, .string ⟨#[]⟩, .string ⟨#[]⟩, .int .i64 0, .int .i64 0, .int .i64 0, .slice none 0 0, .slice none 0 0, .slice none 0 0, .slice none 0 0] 31)).setRow wd.heap.size (LegC gb pb) = WE at *
    go_ret
    exact ⟨rfl, DE.out⟩
  | true =>
  obtain ⟨e1, e2, e3⟩ := turn HNE.out HG.out HGA.out HYD.out HGB.out
  subst e1
  subst e2
  subst e3
  have hbXWE := legRowBelow wd (LegC gb pb)
  have hXWE : LegBx ((wd.alloc (.cells #[.string ⟨#[]⟩, .string ⟨#[]⟩, .string ⟨#[]⟩, .int .i64 0, .int .i64 0, .int .i64 0, .slice none 0 0, .slice none 0 0, .slice none 0 0, .slice none 0 0] 31)).setRow wd.heap.size (LegC gb pb)) wd.heap.size 31 gb pb := legRowBox wd gb pb
  have HBE := Lib.hid (HBD.out.kept hbXWE)
  have HINE := Lib.hid (HIND.out.kept hbXWE)
  have HINbE := Lib.hid (HINb.out.kept hbXWE)
  have DE := Lib.hid (bt DD.out hbXWE)
  have HGE := Lib.hid hXWE
  clear hXWE hbXWE
  unfold LegV
  have y0 := HGE.out.c0
  have y1 := HGE.out.c1
  have y2 := HGE.out.c2
  have y3 := HGE.out.c3
  have y4 := HGE.out.c4
  have y5 := HGE.out.c5
  have y6 := HGE.out.c6
  have y7 := HGE.out.c7
  have y8 := HGE.out.c8
  have y9 := HGE.out.c9
  have x0 := HBE.out.c0
  have x1 := HBE.out.c1
  have x2 := HBE.out.c2
  have x3 := HBE.out.c3
  have x4 := HBE.out.c4
  have x5 := HBE.out.c5
  have x6 := HBE.out.c6
  have x7 := HBE.out.c7
  have x8 := HBE.out.c8
  have x9 := HBE.out.c9
  go_wp2_with (first
    | (refine wpList_store_row rfl 31 _ _ rfl wd.heap.size (LegC gb pb) rfl rfl 31 #[.string ⟨#[]⟩, .string ⟨#[]⟩, .string ⟨#[]⟩, .int .i64 0, .int .i64 0, .int .i64 0, .slice none 0 0, .slice none 0 0, .slice none 0 0, .slice none 0 0] (heap_alloc_new wd _) legSize rfl (leg_one gb pb) ?_)
    | fail)
  generalize (wd.alloc (.cells #[.string ⟨#[]⟩, .string ⟨#[]⟩, .string ⟨#[]⟩, .int .i64 0, .int .i64 0, .int .i64 0, .slice none 0 0, .slice none 0 0, .slice none 0 0, .slice none 0 0] 31)).setRow wd.heap.size (LegC gb pb) = WE at *
  refine (wsLegS _ pa pb WE HINE.out HINbE.out HFa.out).mono ?_
  rintro e wf ⟨rfl, df⟩
  have DF := Lib.hid (bt DE.out df)
  clear df
  clear x0 x1 x2 x3 x4 x5 x6 x7 x8 x9
  clear y0 y1 y2 y3 y4 y5 y6 y7 y8 y9
  go_wp2
  go_ret
  exact ⟨rfl, DF.out⟩

end Go.Proofs.Ytmlkjlipjkmcfaa
