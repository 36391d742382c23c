/-
  The law that holds the program's LegHold against the model's.
-/
import Derived.Test.YtbnjmdeabhikkaaOpenLeg
import Derived.Test.YtbnjmdeabhikkaaLegMark
import Derived.Test.YtbnjmdeabhikkaaLegHoldS
import Derived.Test.YtbnjmdeabhikkaaLegHoldI
import Derived.Test.YtbnjmdeabhikkaaCall2
import Derived.Deep.Cut
namespace Go.Proofs.Ytbnjmdeabhikkaa
open Go.RowKit
set_option linter.unusedVariables false
set_option linter.unusedSimpArgs false

theorem heldAt_ex {d : LegD} (ho : HoldsOk d) (t : Int) : ∃ k, HeldAt d t k := by
  have key : ∀ n, n ≤ d.nH → ∃ k, k ≤ n ∧ (∀ i, i < k → d.t i < t) ∧ (k < n → t ≤ d.t k) := by
    intro n
    induction n with
    | zero => exact fun _ => ⟨0, Nat.le_refl _, fun i hi => absurd hi (Nat.not_lt_zero _), fun h => absurd h (Nat.lt_irrefl _)⟩
    | succ n ih =>
      intro hn
      obtain ⟨k, h1, h2, h3⟩ := ih (by omega)
      rcases Nat.lt_or_ge k n with h | h
      · exact ⟨k, by omega, h2, fun _ => h3 h⟩
      · obtain rfl : k = n := by omega
        rcases Int.lt_or_le (d.t k) t with q | q
        · exact ⟨k + 1, Nat.le_refl _, fun i hi => by
            rcases Nat.lt_or_ge i k with r | r
            · exact h2 i r
            · obtain rfl : i = k := by omega
              exact q, fun h => absurd h (Nat.lt_irrefl _)⟩
        · exact ⟨k, by omega, h2, fun _ => q⟩
  exact key d.nH (Nat.le_refl _)
theorem holdIs_ex (d : LegD) (t c s share : Int) : ∃ g b, HoldIs d t c s share g b := by
  by_cases h : OkLeg d
  · by_cases k : CanPut d t c s share
    · obtain ⟨q, hq⟩ := heldAt_ex h.2.2.1 t
      exact ⟨putD d q t c s, true, fun x => absurd h x, fun _ => ⟨⟨fun _ => k, fun _ => rfl⟩, fun _ => ⟨q, hq, rfl⟩, fun x => (by cases x)⟩⟩
    · exact ⟨d, false, fun x => absurd h x, fun _ => ⟨⟨fun x => (by cases x), fun x => absurd x k⟩, fun x => (by cases x), fun _ => rfl⟩⟩
  · exact ⟨zeroD, false, fun _ => ⟨rfl, rfl⟩, fun x => absurd x h⟩
theorem fits_ofHold {d g : LegD} {t c s share : Int} {b : Bool} (hf : Fits d) (h : HoldIs d t c s share g b) : Fits g := by
  by_cases q : OkLeg d
  · obtain ⟨h1, h2, h3⟩ := h.2 q
    obtain ⟨f1, f2, f3, f4, f5, f6, f7⟩ := hf
    have h6 := q.2.2.1.1
    cases b with
    | false => rw [h3 rfl]; exact ⟨f1, f2, f3, f4, f5, f6, f7⟩
    | true =>
      obtain ⟨k, -, rfl⟩ := h2 rfl
      exact ⟨f1, f2, f3, f4, f5, f6, by show d.nH + 1 ≤ _; omega⟩
  · rw [(h.1 q).1]
    exact ⟨by decide, by decide, by decide, by decide, by decide, by decide, by decide⟩
theorem LegBx.outK2 {B T : Nat} {w w' : World} {b : Nat} {t : TypeId} {d : LegD} {p : LegP} (h : LegBx w b t d p) (k : KeepsOut B T w w') (hr : b < B ∨ T ≤ b) : LegBx w' b t d p := (k.block b (lt_heap h) hr).trans h
def SCopy (d : LegD) (p : LegP) (t c s share : Int) (i : Nat) (W : World) (v : Value) : Prop := match i with
  | 0 => v = LegV d p
  | 1 => ∃ p1, v = LegV d p1 ∧ LegIn W d p1 ∧ d.nH ≤ p1.cH ∧ d.nS ≤ p1.cS
  | 2 => v = .agg #[.int .i64 t, .int .i64 c, .int .i64 s]
  | 3 => v = .agg #[.int .i64 t, .int .i64 c, .int .i64 s]
  | 4 => v = .int .i64 share
  | _ => True
theorem SCopy.kept {d : LegD} {p : LegP} {t c s share : Int} {i : Nat} {W W' : World} {v : Value} (h : SCopy d p t c s share i W v) (hb : Below W.heap.size W W') : SCopy d p t c s share i W' v := by
  match i, h with
  | 0, h => exact h
  | 1, ⟨p1, h1, h2, h3⟩ => exact ⟨p1, h1, h2.kept hb, h3⟩
  | 2, h => exact h
  | 3, h => exact h
  | 4, h => exact h
  | i + 5, h => exact h
def SCopy4 (d : LegD) (p : LegP) (t c s share : Int) (i : Nat) (W : World) (v : Value) : Prop := match i with
  | 0 => v = LegV d p
  | 1 => v = .agg #[.int .i64 t, .int .i64 c, .int .i64 s]
  | 2 => v = .agg #[.int .i64 t, .int .i64 c, .int .i64 s]
  | 3 => v = .int .i64 share
  | _ => True
theorem SCopy4.kept {d : LegD} {p : LegP} {t c s share : Int} {i : Nat} {W W' : World} {v : Value} (h : SCopy4 d p t c s share i W v) (hb : Below W.heap.size W W') : SCopy4 d p t c s share i W' v := h
def GHold (g : LegD) (b : Bool) (lo hi : Nat) (W : World) (dd : LegD) (q : LegP) (bb : Bool) : Prop := dd = g ∧ bb = b ∧ LegNewT lo hi W dd q
theorem GHold.kept {g : LegD} {b : Bool} {lo hi : Nat} {W W' : World} {dd : LegD} {q : LegP} {bb : Bool} (h : GHold g b lo hi W dd q bb) (hb : Below W.heap.size W W') : GHold g b lo hi W' dd q bb := ⟨h.1, h.2.1, h.2.2.kept hb⟩
theorem GHold.row {g : LegD} {b : Bool} {lo hi : Nat} {W : World} {dd : LegD} {q : LegP} {bb : Bool} (h : GHold g b lo hi W dd q bb) {bx : Nat} (cs : Array Value) (hd : bx < lo ∨ hi ≤ bx) : GHold g b lo hi (W.setRow bx cs) dd q bb :=
  ⟨h.1, h.2.1, h.2.2.far (grown_setRow W bx cs) (fun k e => by cases e; exact hd)⟩
theorem T2.start {m N : Nat} {row : Option Nat} {I : Nat → World → Prop} {S : Nat → World → Value → Prop} {G : Nat → Nat → World → LegD → LegP → Bool → Prop} {f : Nat → Value} {W : World} (hN : N ≤ W.heap.size) (hI : I 0 W) : T2 m N row I S G 0 (fun _ => false) f W :=
  ⟨hI, hN, fun _ _ h => (by cases h), fun h => (by cases h), fun h => (by cases h), fun h => (by cases h)⟩
theorem LegNewT.le {B T : Nat} {w : World} {d : LegD} {p : LegP} (h : LegNewT B T w d p) : B ≤ T := by
  obtain ⟨-, b1, b2, b3, b4, q1, q2, q3, q4, q5, -⟩ := h
  omega
theorem legNewBx (w : World) (d : LegD) (p : LegP) : LegBx (w.alloc (.cells (LegC d p) 31)) w.heap.size 31 d p := LegBx.new w 31 d p

set_option maxRecDepth 100000 in
set_option maxHeartbeats 16000000 in
theorem exactLegHold (d : LegD) (p : LegP) (t c s share : Int) (w : World) (w0 : LegRow w d p) :
    Calls Try.prog 3 #[.agg (LegA d p), .agg #[.int .i64 t, .int .i64 c, .int .i64 s], .int .i64 share] w fun e w' => e = .returned (.bool true) ∧ Below w.heap.size w w' := by
  obtain ⟨hin, hwide⟩ := w0
  have hAC : LegA d p = LegC d p := rfl
  have hbA : Below w.heap.size w ((w.alloc (.cells (LegC d p) 25)).alloc (.cells #[.int .i64 t, .int .i64 c, .int .i64 s] 27)) := ((Below.refl _ _).alloc (Nat.le_refl _) _).alloc (by simp) _
  have hA := Lib.hid ((LegBx.new w 25 d p).kept ((Below.refl _ _).alloc (Nat.le_refl _) (.cells #[.int .i64 t, .int .i64 c, .int .i64 s] 27)))
  have hQ : Hid (((w.alloc (.cells (LegC d p) 25)).alloc (.cells #[.int .i64 t, .int .i64 c, .int .i64 s] 27)).heap[w.heap.size + 1]? = some (.cells #[.int .i64 t, .int .i64 c, .int .i64 s] 27 (0, 0))) := by
    have := heap_alloc_new (w.alloc (.cells (LegC d p) 25)) (.cells #[.int .i64 t, .int .i64 c, .int .i64 s] 27)
    rwa [World.size_alloc] at this
  obtain ⟨g, b, hg⟩ := holdIs_ex d t c s share
  have HG := Lib.hid hg
  have HIN := Lib.hid hin
  have DA := Lib.hid hbA
  have HW := Lib.hid hwide
  have sA : w.heap.size + 1 < ((w.alloc (.cells (LegC d p) 25)).alloc (.cells #[.int .i64 t, .int .i64 c, .int .i64 s] 27)).heap.size := by simp
  have zb : (b != b) = false := by simp
  rw [hAC]
  generalize hLC : LegC d p = LC at *
  have HLC := Lib.hid hLC
  clear hbA hin hwide hLC hAC hg
  have rA0 := hA.out.c0
  have rA1 := hA.out.c1
  have rA2 := hA.out.c2
  have rA3 := hA.out.c3
  have rA4 := hA.out.c4
  have rA5 := hA.out.c5
  have rA6 := hA.out.c6
  have rA7 := hA.out.c7
  have rA8 := hA.out.c8
  have rA9 := hA.out.c9
  go_enter Try.func3, Try.ntmps3
  go_wp2_with fail
  generalize ((w.alloc (.cells LC 25)).alloc (.cells #[.int .i64 t, .int .i64 c, .int .i64 s] 27)) = WA at *
  refine (szLegS d p WA HW.out).mono ?_
  rintro e w1 ⟨r, r0, r1, rfl, hr, d1⟩
  rcases Int.lt_or_le r 0 with c0 | c0
  · have z0 : decide (r < 0) = true := decide_eq_true c0
    clear rA0 rA1 rA2 rA3 rA4 rA5 rA6 rA7 rA8 rA9
    go_wp2
    go_ret
    exact ⟨rfl, bt DA.out d1⟩
  have z0 : decide (r < 0) = false := decide_eq_false (by omega)
  have HF := Lib.hid (hr.out c0)
  have HFg := Lib.hid (fits_ofHold HF.out HG.out)
  have s1 := d1.size
  have D1 := Lib.hid (bt DA.out d1)
  clear rA0 rA1 rA2 rA3 rA4 rA5 rA6 rA7 rA8 rA9
  have BA_1 := Lib.hid (hA.out.kept d1)
  have Q_1 := Lib.hid (((d1).block _ (lt_heap hQ.out)).trans hQ.out)
  clear hA hQ
  clear d1 hr
  have rA0 := BA_1.out.c0
  have rA1 := BA_1.out.c1
  have rA2 := BA_1.out.c2
  have rA3 := BA_1.out.c3
  have rA4 := BA_1.out.c4
  have rA5 := BA_1.out.c5
  have rA6 := BA_1.out.c6
  have rA7 := BA_1.out.c7
  have rA8 := BA_1.out.c8
  have rA9 := BA_1.out.c9
  obtain ⟨rQ0, rQ1, rQ2⟩ := row3 Q_1.out
  go_upto_region 5 with fail
  refine wp_region_inv' (by kernel_rfl) (T2 5 w1.heap.size none (fun _ W => Below w1.heap.size w1 W) (SCopy d p t c s share) (GHold g b)) (by kernel_rfl) (T2.start (Nat.le_refl _) ((Below.refl _ _).drew)) ?_
  apply Exists.intro
  apply And.intro
  · intro f
    simp only [over, List.set]
    exact rfl
  refine ⟨?hops, ?hend⟩
  case hops =>
    refine EachOp.cons ?_ (EachOp.cons ?_ (EachOp.cons ?_ (EachOp.cons ?_ (EachOp.cons ?_ (EachOp.cons ?_ (EachOp.cons ?_ (EachOp.cons ?_ (EachOp.cons ?_ (EachOp.cons ?_ (EachOp.cons ?_ (EachOp.cons ?_ (EachOp.nil))))))))))))
    · intro L ff kk ww hkk hJ hcl hLi hwt QQ' hQ
      try dsimp only
      have qa := LegBx.kept BA_1.out hJ.inv
      have y0 := qa.c0
      have y1 := qa.c1
      have y2 := qa.c2
      have y3 := qa.c3
      have y4 := qa.c4
      have y5 := qa.c5
      have y6 := qa.c6
      have y7 := qa.c7
      have y8 := qa.c8
      have y9 := qa.c9
      clear qa
      go_big_wp2_with fail
      refine hQ _ _ _ ?_ (hJ.pre_id (i := 0) (by decide) (fun r e => by cases e) hJ.inv rfl)
      first | rfl | (simp [upd]; done)
    · intro L ff kk ww hkk hJ hcl hLi hwt QQ' hQ
      try dsimp only
      have h10 : L 10 = false := by
        cases hx : L 10 with
        | false => rfl
        | true => have h1 : L 1 = true := hcl 10 _ rfl hx 1 (by decide); have h2 : L 1 = false := hLi; rw [h1] at h2; cases h2
      have c0 : ff 0 = LegV d p := hJ.pre 0 (by decide) (hwt 0 (by decide)) h10
      have c0' := c0
      unfold LegV at c0'
      go_big_wp2_with fail
      refine (toLegW d p ww (HIN.out.kept (bt D1.out hJ.inv)) HF.out).mono ?_
      rintro e wa ⟨pa, rfl, newa, da⟩
      go_big_wp2_with fail
      refine hQ _ _ wa ?_ (hJ.pre_op (i := 1) (by decide) (toGr da) (fun r e => by cases e) (fun j v h => h.kept da) (fun lo hi dd q bb _ h => h.kept da) (bt hJ.inv da) ⟨pa, rfl, newa.leg, newa.1.2.2.2, newa.1.2.1⟩)
      first | rfl | (simp [upd, c0, c0']; done)
    · intro L ff kk ww hkk hJ hcl hLi hwt QQ' hQ
      try dsimp only
      have qh := (hJ.inv.block _ (lt_heap Q_1.out)).trans Q_1.out
      obtain ⟨y0, y1, y2⟩ := row3 qh
      clear qh
      go_big_wp2_with fail
      refine hQ _ _ _ ?_ (hJ.pre_id (i := 2) (by decide) (fun r e => by cases e) hJ.inv rfl)
      first | rfl | (simp [upd]; done)
    · intro L ff kk ww hkk hJ hcl hLi hwt QQ' hQ
      try dsimp only
      have h10 : L 10 = false := by
        cases hx : L 10 with
        | false => rfl
        | true => have h1 : L 3 = true := hcl 10 _ rfl hx 3 (by decide); have h2 : L 3 = false := hLi; rw [h1] at h2; cases h2
      have c2 : ff 2 = .agg #[.int .i64 t, .int .i64 c, .int .i64 s] := hJ.pre 2 (by decide) (hwt 2 (by decide)) h10
      go_big_wp2_with fail
      refine (toHold1 t c s ww).mono ?_
      rintro e wh ⟨rfl, dh⟩
      go_big_wp2_with fail
      refine hQ _ _ wh ?_ (hJ.pre_op (i := 3) (by decide) (toGr dh) (fun r e => by cases e) (fun j v h => h.kept dh) (fun lo hi dd q bb _ h => h.kept dh) (bt hJ.inv dh) rfl)
      first | rfl | (simp [upd, c2]; done)
    · intro L ff kk ww hkk hJ hcl hLi hwt QQ' hQ
      try dsimp only
      go_big_wp2_with fail
      refine hQ _ _ _ ?_ (hJ.pre_id (i := 4) (by decide) (fun r e => by cases e) hJ.inv rfl)
      first | rfl | (simp [upd]; done)
    · intro L ff kk ww hkk hJ hcl hLi hwt QQ' hQ
      try dsimp only
      have h10 : L 10 = false := by
        cases hx : L 10 with
        | false => rfl
        | true => have h1 : L 5 = true := hcl 10 _ rfl hx 5 (by decide); have h2 : L 5 = false := hLi; rw [h1] at h2; cases h2
      have n6 : L 6 = false := by
        cases hx : L 6 with
        | false => rfl
        | true =>
          have h6x := hx
          have h5x : L 5 = true := hcl 6 _ rfl h6x 5 (by decide)
          have h2 : L 5 = false := hLi
          rw [h5x] at h2; cases h2
      have n7 : L 7 = false := by
        cases hx : L 7 with
        | false => rfl
        | true =>
          have h7x := hx
          have h6x : L 6 = true := hcl 7 _ rfl h7x 6 (by decide)
          have h5x : L 5 = true := hcl 6 _ rfl h6x 5 (by decide)
          have h2 : L 5 = false := hLi
          rw [h5x] at h2; cases h2
      have n8 : L 8 = false := by
        cases hx : L 8 with
        | false => rfl
        | true =>
          have h8x := hx
          have h6x : L 6 = true := hcl 8 _ rfl h8x 6 (by decide)
          have h5x : L 5 = true := hcl 6 _ rfl h6x 5 (by decide)
          have h2 : L 5 = false := hLi
          rw [h5x] at h2; cases h2
      have n11 : L 11 = false := by
        cases hx : L 11 with
        | false => rfl
        | true =>
          have h11x := hx
          have h8x : L 8 = true := hcl 11 _ rfl h11x 8 (by decide)
          have h6x : L 6 = true := hcl 8 _ rfl h8x 6 (by decide)
          have h5x : L 5 = true := hcl 6 _ rfl h6x 5 (by decide)
          have h2 : L 5 = false := hLi
          rw [h5x] at h2; cases h2
      obtain ⟨pa, c1, hin1, hcH, hcS⟩ := hJ.pre 1 (by decide) (hwt 1 (by decide)) h10
      have c3 : ff 3 = .agg #[.int .i64 t, .int .i64 c, .int .i64 s] := hJ.pre 3 (by decide) (hwt 3 (by decide)) h10
      have c4 : ff 4 = .int .i64 share := hJ.pre 4 (by decide) (hwt 4 (by decide)) h10
      go_big_wp2_with fail
      refine (LegHoldS d pa t c s share ww hin1 HF.out hcH).mono ?_
      rintro e wg ⟨gg, pg, bb, rfl, hgg, newg, dg⟩
      obtain ⟨rfl, rfl⟩ := holdIs_one HG.out hgg.out
      go_big_wp2_with fail
      refine hQ _ _ wg ?_ (hJ.call_op n6 n7 n8 h10 n11 (toGr dg) (fun r e => by cases e) (fun j v h => h.kept dg) (bt hJ.inv dg) ⟨rfl, rfl, newg.toT⟩)
      first | rfl | (simp [upd, c1, c3, c4]; done)
    · intro L ff kk ww hkk hJ hcl hLi hwt QQ' hQ
      try dsimp only
      have hm : L 5 = true := hwt 5 (by decide)
      go_big_wp2_with fail
      refine hQ _ _ _ ?_ (hJ.mv hm hJ.inv)
      first | rfl | (simp [upd]; done)
    · intro L ff kk ww hkk hJ hcl hLi hwt QQ' hQ
      try dsimp only
      have h10 : L 10 = false := by
        cases hx : L 10 with
        | false => rfl
        | true => have h1 : L 7 = true := hcl 10 _ rfl hx 7 (by decide); have h2 : L 7 = false := hLi; rw [h1] at h2; cases h2
      have h1 : L 6 = true := hwt 6 (by decide)
      have hm : L 5 = true := hcl 6 _ rfl h1 5 (by decide)
      obtain ⟨dd, q, bb, c6, hN⟩ := hJ.ex0 hm h1 h10 hJ.inv
      have c6' : ff 6 = _ := c6
      go_big_wp2_with fail
      refine hQ _ _ _ ?_ hN
      first | rfl | (simp [upd, c6']; done)
    · intro L ff kk ww hkk hJ hcl hLi hwt QQ' hQ
      try dsimp only
      have h1 : L 6 = true := hwt 6 (by decide)
      have hm : L 5 = true := hcl 6 _ rfl h1 5 (by decide)
      obtain ⟨dd, q, bb, c5, c6, -⟩ := hJ.bool hm
      have c6' : ff 6 = _ := c6 h1
      clear c6
      have hN := hJ.ex1 hm c5 (.inl rfl) hJ.inv
      clear c5
      go_big_wp2_with fail
      refine hQ _ _ _ ?_ hN
      first | rfl | (simp [upd, c6']; done)
    · intro L ff kk ww hkk hJ hcl hLi hwt QQ' hQ
      try dsimp only
      have h10 : L 10 = false := by
        cases hx : L 10 with
        | false => rfl
        | true => have h1 : L 9 = true := hcl 10 _ rfl hx 9 (by decide); have h2 : L 9 = false := hLi; rw [h1] at h2; cases h2
      have hN := hJ.alloc hLi h10 (fun j v h => h.kept ((Below.refl _ _).alloc (Nat.le_refl _) _)) (fun lo hi dd q bb _ h => h.kept ((Below.refl _ _).alloc (Nat.le_refl _) _)) (bt hJ.inv ((Below.refl _ _).alloc (Nat.le_refl _) _))
      go_big_wp2_with fail
      exact hQ _ _ _ rfl hN
    · intro L ff kk ww hkk hJ hcl hLi hwt QQ' hQ
      try dsimp only
      have hm : L 5 = true := hwt 5 (by decide)
      obtain ⟨bx, dd, q, c9, c7, hN9, hz, hst⟩ := hJ.store hm (hwt 7 (by decide)) (hwt 9 (by decide)) hLi
      have c9' : ff 9 = _ := c9
      have c7' : ff 7 = _ := c7
      have hN := hst undef (fun lo hi bb _ hd h => h.row (LegC dd q) hd) (hJ.inv.grown (grown_setRow ww bx (LegC dd q)) hJ.inv.size (fun r e => by cases e; exact hN9))
      rw [c9', c7']
      unfold LegV
      go_big_wp2_with (first
        | (refine wpList_store_row rfl 31 _ _ rfl bx (LegC dd q) rfl rfl 31 ZLeg hz legSize rfl (leg_one dd q) ?_)
        | fail)
      refine hQ _ undef _ ?_ hN
      first | rfl | (simp [upd, c9', c7', LegV]; done)
    · intro L ff kk ww hkk hJ hcl hLi hwt QQ' hQ
      try dsimp only
      have h3 : L 8 = true := hwt 8 (by decide)
      have h1 : L 6 = true := hcl 8 _ rfl h3 6 (by decide)
      have hm : L 5 = true := hcl 6 _ rfl h1 5 (by decide)
      obtain ⟨dd, q, bb, c5, -, c8⟩ := hJ.bool hm
      have c8' : ff 8 = _ := c8 h3
      clear c8
      have hN := hJ.ex1 hm c5 (.inr rfl) hJ.inv
      clear c5
      go_big_wp2_with fail
      refine hQ _ _ _ ?_ hN
      first | rfl | (simp [upd, c8']; done)
  case hend =>
  intro L ff kk X6 hL hJ
  try dsimp only
  obtain ⟨b6, dd, q6, bb, lo6, hi6, r1, s6, sl6, sh6, sd6, r6, ⟨e1, e2, r7⟩, -, -, -, r11⟩ := hJ.done (hL 10 (by decide))
  have e11 : ff 11 = _ := r11 (hL 11 (by decide))
  have r1' : ff 9 = _ := r1
  rw [r1', e11]
  have e1' := e1.symm
  have e2' := e2.symm
  clear e1 e2
  subst e1'
  subst e2'
  have hd6 := hJ.inv
  have D6 := Lib.hid (bt D1.out hd6)
  have t6 : b6 < X6.heap.size := lt_heap r6
  have hx6 : Hid (LegBx X6 b6 31 g q6) := r6
  have hl6 := Lib.hid r7
  have sle6 := LegNewT.le r7
  clear r1 r1' r6 r7 e11 r11 hJ hL
  have BA_2 := Lib.hid (BA_1.out.kept hd6)
  have Q_2 := Lib.hid (((hd6).block _ (lt_heap Q_1.out)).trans Q_1.out)
  clear BA_1 Q_1
  clear hd6
  clear rA0 rA1 rA2 rA3 rA4 rA5 rA6 rA7 rA8 rA9
  clear rQ0 rQ1 rQ2
  have rA0 := BA_2.out.c0
  have rA1 := BA_2.out.c1
  have rA2 := BA_2.out.c2
  have rA3 := BA_2.out.c3
  have rA4 := BA_2.out.c4
  have rA5 := BA_2.out.c5
  have rA6 := BA_2.out.c6
  have rA7 := BA_2.out.c7
  have rA8 := BA_2.out.c8
  have rA9 := BA_2.out.c9
  go_wp2_with fail
  refine (toLegW d p X6 (HIN.out.kept D6.out) HF.out).mono ?_
  rintro e w4 ⟨p4, rfl, new4, d4⟩
  have s4 := d4.size
  have D4 := Lib.hid (bt D6.out d4)
  have new4h := Lib.hid new4.toT
  unfold LegV
  clear rA0 rA1 rA2 rA3 rA4 rA5 rA6 rA7 rA8 rA9
  have BA_3 := Lib.hid (BA_2.out.kept d4)
  have B6_3 := Lib.hid (hx6.out.kept d4)
  have N6L_3 := Lib.hid (hl6.out.kept d4)
  have Q_3 := Lib.hid (((d4).block _ (lt_heap Q_2.out)).trans Q_2.out)
  clear BA_2 hx6 hl6 Q_2
  clear d4 new4
  have hw7 := legRowBelow w4 (LegC d p4)
  have hx7 := Lib.hid (legRowBox w4 d p4)
  have BA_5 := Lib.hid (BA_3.out.kept hw7)
  have B6_5 := Lib.hid (B6_3.out.kept hw7)
  have N6L_5 := Lib.hid (N6L_3.out.kept hw7)
  have N4_5 := Lib.hid (new4h.out.kept hw7)
  have Q_5 := Lib.hid (((hw7).block _ (lt_heap Q_3.out)).trans Q_3.out)
  clear BA_3 B6_3 N6L_3 new4h Q_3
  have D7 := Lib.hid (bt D4.out hw7)
  have sg7 : w4.heap.size < ((w4.alloc (.cells #[.string ⟨#[]⟩, .string ⟨#[]⟩, .string ⟨#[]⟩, .int .i64 0, .int .i64 0, .int .i64 0, .slice none 0 0, .slice none 0 0, .slice none 0 0, .slice none 0 0] 31)).setRow w4.heap.size (LegC d p4)).heap.size := lt_heap hx7.out
  clear hw7
  have r70 := hx7.out.c0
  have r71 := hx7.out.c1
  have r72 := hx7.out.c2
  have r73 := hx7.out.c3
  have r74 := hx7.out.c4
  have r75 := hx7.out.c5
  have r76 := hx7.out.c6
  have r77 := hx7.out.c7
  have r78 := hx7.out.c8
  have r79 := hx7.out.c9
  obtain ⟨rQ0, rQ1, rQ2⟩ := row3 Q_5.out
  go_wp2_with (first
    | (refine wpList_store_row rfl 31 _ _ rfl w4.heap.size (LegC d p4) rfl rfl 31 #[.string ⟨#[]⟩, .string ⟨#[]⟩, .string ⟨#[]⟩, .int .i64 0, .int .i64 0, .int .i64 0, .slice none 0 0, .slice none 0 0, .slice none 0 0, .slice none 0 0] (heap_alloc_new w4 _) legSize rfl (leg_one d p4) ?_)
    | fail)
  generalize ((w4.alloc (.cells #[.string ⟨#[]⟩, .string ⟨#[]⟩, .string ⟨#[]⟩, .int .i64 0, .int .i64 0, .int .i64 0, .slice none 0 0, .slice none 0 0, .slice none 0 0, .slice none 0 0] 31)).setRow w4.heap.size (LegC d p4)) = X7 at *
  go_upto_region 7 with fail
  refine wp_region_inv' (by kernel_rfl) (T2 4 X7.heap.size none (fun _ W => Below X7.heap.size X7 W) (SCopy4 d p4 t c s share) (GHold g b)) (by kernel_rfl) (T2.start (Nat.le_refl _) ((Below.refl _ _).drew)) ?_
  apply Exists.intro
  apply And.intro
  · intro f
    simp only [over, List.set]
    exact rfl
  refine ⟨?hops, ?hend⟩
  case hops =>
    refine EachOp.cons ?_ (EachOp.cons ?_ (EachOp.cons ?_ (EachOp.cons ?_ (EachOp.cons ?_ (EachOp.cons ?_ (EachOp.cons ?_ (EachOp.cons ?_ (EachOp.cons ?_ (EachOp.cons ?_ (EachOp.cons ?_ (EachOp.nil)))))))))))
    · intro L ff kk ww hkk hJ hcl hLi hwt QQ' hQ
      try dsimp only
      have qa := LegBx.kept hx7.out hJ.inv
      have y0 := qa.c0
      have y1 := qa.c1
      have y2 := qa.c2
      have y3 := qa.c3
      have y4 := qa.c4
      have y5 := qa.c5
      have y6 := qa.c6
      have y7 := qa.c7
      have y8 := qa.c8
      have y9 := qa.c9
      clear qa
      go_big_wp2_with fail
      refine hQ _ _ _ ?_ (hJ.pre_id (i := 0) (by decide) (fun r e => by cases e) hJ.inv rfl)
      first | rfl | (simp [upd]; done)
    · intro L ff kk ww hkk hJ hcl hLi hwt QQ' hQ
      try dsimp only
      have qh := (hJ.inv.block _ (lt_heap Q_5.out)).trans Q_5.out
      obtain ⟨y0, y1, y2⟩ := row3 qh
      clear qh
      go_big_wp2_with fail
      refine hQ _ _ _ ?_ (hJ.pre_id (i := 1) (by decide) (fun r e => by cases e) hJ.inv rfl)
      first | rfl | (simp [upd]; done)
    · intro L ff kk ww hkk hJ hcl hLi hwt QQ' hQ
      try dsimp only
      have h10 : L 9 = false := by
        cases hx : L 9 with
        | false => rfl
        | true => have h1 : L 2 = true := hcl 9 _ rfl hx 2 (by decide); have h2 : L 2 = false := hLi; rw [h1] at h2; cases h2
      have c2 : ff 1 = .agg #[.int .i64 t, .int .i64 c, .int .i64 s] := hJ.pre 1 (by decide) (hwt 1 (by decide)) h10
      go_big_wp2_with fail
      refine (toHold1 t c s ww).mono ?_
      rintro e wh ⟨rfl, dh⟩
      go_big_wp2_with fail
      refine hQ _ _ wh ?_ (hJ.pre_op (i := 2) (by decide) (toGr dh) (fun r e => by cases e) (fun j v h => h.kept dh) (fun lo hi dd q bb _ h => h.kept dh) (bt hJ.inv dh) rfl)
      first | rfl | (simp [upd, c2]; done)
    · intro L ff kk ww hkk hJ hcl hLi hwt QQ' hQ
      try dsimp only
      go_big_wp2_with fail
      refine hQ _ _ _ ?_ (hJ.pre_id (i := 3) (by decide) (fun r e => by cases e) hJ.inv rfl)
      first | rfl | (simp [upd]; done)
    · intro L ff kk ww hkk hJ hcl hLi hwt QQ' hQ
      try dsimp only
      have h10 : L 9 = false := by
        cases hx : L 9 with
        | false => rfl
        | true => have h1 : L 4 = true := hcl 9 _ rfl hx 4 (by decide); have h2 : L 4 = false := hLi; rw [h1] at h2; cases h2
      have n5 : L 5 = false := by
        cases hx : L 5 with
        | false => rfl
        | true =>
          have h5x := hx
          have h4x : L 4 = true := hcl 5 _ rfl h5x 4 (by decide)
          have h2 : L 4 = false := hLi
          rw [h4x] at h2; cases h2
      have n6 : L 6 = false := by
        cases hx : L 6 with
        | false => rfl
        | true =>
          have h6x := hx
          have h5x : L 5 = true := hcl 6 _ rfl h6x 5 (by decide)
          have h4x : L 4 = true := hcl 5 _ rfl h5x 4 (by decide)
          have h2 : L 4 = false := hLi
          rw [h4x] at h2; cases h2
      have n7 : L 7 = false := by
        cases hx : L 7 with
        | false => rfl
        | true =>
          have h7x := hx
          have h5x : L 5 = true := hcl 7 _ rfl h7x 5 (by decide)
          have h4x : L 4 = true := hcl 5 _ rfl h5x 4 (by decide)
          have h2 : L 4 = false := hLi
          rw [h4x] at h2; cases h2
      have n10 : L 10 = false := by
        cases hx : L 10 with
        | false => rfl
        | true =>
          have h10x := hx
          have h7x : L 7 = true := hcl 10 _ rfl h10x 7 (by decide)
          have h5x : L 5 = true := hcl 7 _ rfl h7x 5 (by decide)
          have h4x : L 4 = true := hcl 5 _ rfl h5x 4 (by decide)
          have h2 : L 4 = false := hLi
          rw [h4x] at h2; cases h2
      have c1 : ff 0 = LegV d p4 := hJ.pre 0 (by decide) (hwt 0 (by decide)) h10
      have hin1 := N4_5.out.new.leg.kept hJ.inv
      have hcS := N4_5.out.1.2.1
      have c3 : ff 2 = .agg #[.int .i64 t, .int .i64 c, .int .i64 s] := hJ.pre 2 (by decide) (hwt 2 (by decide)) h10
      have c4 : ff 3 = .int .i64 share := hJ.pre 3 (by decide) (hwt 3 (by decide)) h10
      go_big_wp2_with fail
      refine (LegHoldI d p4 t c s share ww hin1 HF.out hcS).mono ?_
      rintro e wg ⟨gg, pg, bb, rfl, hgg, newg, dg⟩
      obtain ⟨rfl, rfl⟩ := holdIs_one HG.out hgg.out
      go_big_wp2_with fail
      refine hQ _ _ wg ?_ (hJ.call_op n5 n6 n7 h10 n10 (toGr dg) (fun r e => by cases e) (fun j v h => h.kept dg) (bt hJ.inv dg) ⟨rfl, rfl, newg.toT⟩)
      first | rfl | (simp [upd, c1, c3, c4]; done)
    · intro L ff kk ww hkk hJ hcl hLi hwt QQ' hQ
      try dsimp only
      have hm : L 4 = true := hwt 4 (by decide)
      go_big_wp2_with fail
      refine hQ _ _ _ ?_ (hJ.mv hm hJ.inv)
      first | rfl | (simp [upd]; done)
    · intro L ff kk ww hkk hJ hcl hLi hwt QQ' hQ
      try dsimp only
      have h10 : L 9 = false := by
        cases hx : L 9 with
        | false => rfl
        | true => have h1 : L 6 = true := hcl 9 _ rfl hx 6 (by decide); have h2 : L 6 = false := hLi; rw [h1] at h2; cases h2
      have h1 : L 5 = true := hwt 5 (by decide)
      have hm : L 4 = true := hcl 5 _ rfl h1 4 (by decide)
      obtain ⟨dd, q, bb, c6, hN⟩ := hJ.ex0 hm h1 h10 hJ.inv
      have c6' : ff 5 = _ := c6
      go_big_wp2_with fail
      refine hQ _ _ _ ?_ hN
      first | rfl | (simp [upd, c6']; done)
    · intro L ff kk ww hkk hJ hcl hLi hwt QQ' hQ
      try dsimp only
      have h1 : L 5 = true := hwt 5 (by decide)
      have hm : L 4 = true := hcl 5 _ rfl h1 4 (by decide)
      obtain ⟨dd, q, bb, c5, c6, -⟩ := hJ.bool hm
      have c6' : ff 5 = _ := c6 h1
      clear c6
      have hN := hJ.ex1 hm c5 (.inl rfl) hJ.inv
      clear c5
      go_big_wp2_with fail
      refine hQ _ _ _ ?_ hN
      first | rfl | (simp [upd, c6']; done)
    · intro L ff kk ww hkk hJ hcl hLi hwt QQ' hQ
      try dsimp only
      have h10 : L 9 = false := by
        cases hx : L 9 with
        | false => rfl
        | true => have h1 : L 8 = true := hcl 9 _ rfl hx 8 (by decide); have h2 : L 8 = false := hLi; rw [h1] at h2; cases h2
      have hN := hJ.alloc hLi h10 (fun j v h => h.kept ((Below.refl _ _).alloc (Nat.le_refl _) _)) (fun lo hi dd q bb _ h => h.kept ((Below.refl _ _).alloc (Nat.le_refl _) _)) (bt hJ.inv ((Below.refl _ _).alloc (Nat.le_refl _) _))
      go_big_wp2_with fail
      exact hQ _ _ _ rfl hN
    · intro L ff kk ww hkk hJ hcl hLi hwt QQ' hQ
      try dsimp only
      have hm : L 4 = true := hwt 4 (by decide)
      obtain ⟨bx, dd, q, c9, c7, hN9, hz, hst⟩ := hJ.store hm (hwt 6 (by decide)) (hwt 8 (by decide)) hLi
      have c9' : ff 8 = _ := c9
      have c7' : ff 6 = _ := c7
      have hN := hst undef (fun lo hi bb _ hd h => h.row (LegC dd q) hd) (hJ.inv.grown (grown_setRow ww bx (LegC dd q)) hJ.inv.size (fun r e => by cases e; exact hN9))
      rw [c9', c7']
      unfold LegV
      go_big_wp2_with (first
        | (refine wpList_store_row rfl 31 _ _ rfl bx (LegC dd q) rfl rfl 31 ZLeg hz legSize rfl (leg_one dd q) ?_)
        | fail)
      refine hQ _ undef _ ?_ hN
      first | rfl | (simp [upd, c9', c7', LegV]; done)
    · intro L ff kk ww hkk hJ hcl hLi hwt QQ' hQ
      try dsimp only
      have h3 : L 7 = true := hwt 7 (by decide)
      have h1 : L 5 = true := hcl 7 _ rfl h3 5 (by decide)
      have hm : L 4 = true := hcl 5 _ rfl h1 4 (by decide)
      obtain ⟨dd, q, bb, c5, -, c8⟩ := hJ.bool hm
      have c8' : ff 7 = _ := c8 h3
      clear c8
      have hN := hJ.ex1 hm c5 (.inr rfl) hJ.inv
      clear c5
      go_big_wp2_with fail
      refine hQ _ _ _ ?_ hN
      first | rfl | (simp [upd, c8']; done)
  case hend =>
  intro L ff kk X8 hL hJ
  try dsimp only
  obtain ⟨b8, dd, q8, bb, lo8, hi8, r1, s8, sl8, sh8, sd8, r6, ⟨e1, e2, r7⟩, -, -, -, r11⟩ := hJ.done (hL 9 (by decide))
  have e11 : ff 10 = _ := r11 (hL 10 (by decide))
  have r1' : ff 8 = _ := r1
  rw [r1', e11]
  have e1' := e1.symm
  have e2' := e2.symm
  clear e1 e2
  subst e1'
  subst e2'
  have hd8 := hJ.inv
  have D8 := Lib.hid (bt D7.out hd8)
  have t8 : b8 < X8.heap.size := lt_heap r6
  have hx8 : Hid (LegBx X8 b8 31 g q8) := r6
  have hl8 := Lib.hid r7
  have sle8 := LegNewT.le r7
  clear r1 r1' r6 r7 e11 r11 hJ hL
  have BA_6 := Lib.hid (BA_5.out.kept hd8)
  have B6_6 := Lib.hid (B6_5.out.kept hd8)
  have B7_6 := Lib.hid (hx7.out.kept hd8)
  have N6L_6 := Lib.hid (N6L_5.out.kept hd8)
  have N4_6 := Lib.hid (N4_5.out.kept hd8)
  have Q_6 := Lib.hid (((hd8).block _ (lt_heap Q_5.out)).trans Q_5.out)
  clear BA_5 B6_5 hx7 N6L_5 N4_5 Q_5
  clear hd8
  clear r70 r71 r72 r73 r74 r75 r76 r77 r78 r79
  clear rQ0 rQ1 rQ2
  have r80 := hx8.out.c0
  have r81 := hx8.out.c1
  have r82 := hx8.out.c2
  have r83 := hx8.out.c3
  have r84 := hx8.out.c4
  have r85 := hx8.out.c5
  have r86 := hx8.out.c6
  have r87 := hx8.out.c7
  have r88 := hx8.out.c8
  have r89 := hx8.out.c9
  have r60 := B6_6.out.c0
  have r61 := B6_6.out.c1
  have r62 := B6_6.out.c2
  have r63 := B6_6.out.c3
  have r64 := B6_6.out.c4
  have r65 := B6_6.out.c5
  have r66 := B6_6.out.c6
  have r67 := B6_6.out.c7
  have r68 := B6_6.out.c8
  have r69 := B6_6.out.c9
  go_wp2_with fail
  refine (eqLegS g q8 q6 X8 hl8.out.new.leg N6L_6.out.new.leg HFg.out).mono ?_
  rintro e w9 ⟨rfl, d9⟩
  have s9 := d9.size
  have D9 := Lib.hid (bt D8.out d9)
  clear r80 r81 r82 r83 r84 r85 r86 r87 r88 r89
  clear r60 r61 r62 r63 r64 r65 r66 r67 r68 r69
  have BA_7 := Lib.hid (BA_6.out.kept d9)
  have B6_7 := Lib.hid (B6_6.out.kept d9)
  have B7_7 := Lib.hid (B7_6.out.kept d9)
  have B8_7 := Lib.hid (hx8.out.kept d9)
  have N6L_7 := Lib.hid (N6L_6.out.kept d9)
  have N4_7 := Lib.hid (N4_6.out.kept d9)
  have N8L_7 := Lib.hid (hl8.out.kept d9)
  have Q_7 := Lib.hid (((d9).block _ (lt_heap Q_6.out)).trans Q_6.out)
  clear BA_6 B6_6 B7_6 hx8 N6L_6 N4_6 hl8 Q_6
  clear d9
  have r70 := B7_7.out.c0
  have r71 := B7_7.out.c1
  have r72 := B7_7.out.c2
  have r73 := B7_7.out.c3
  have r74 := B7_7.out.c4
  have r75 := B7_7.out.c5
  have r76 := B7_7.out.c6
  have r77 := B7_7.out.c7
  have r78 := B7_7.out.c8
  have r79 := B7_7.out.c9
  have rA0 := BA_7.out.c0
  have rA1 := BA_7.out.c1
  have rA2 := BA_7.out.c2
  have rA3 := BA_7.out.c3
  have rA4 := BA_7.out.c4
  have rA5 := BA_7.out.c5
  have rA6 := BA_7.out.c6
  have rA7 := BA_7.out.c7
  have rA8 := BA_7.out.c8
  have rA9 := BA_7.out.c9
  go_upto_region 10 with fail
  go_cut [55] from 18 (fun v wx => v = .bool false ∧ Hid (Below w9.heap.size w9 wx))
  case first =>
    go_region_with (first
      | (go_at_call 13; refine (toLegS d p _ (HIN.out.kept D9.out.drew) HF.out).mono ?_; rintro e w10 ⟨p6, rfl, hi6, hc6, dd6⟩; unfold LegV; have d10 : Below w9.heap.size w9 w10 := (Below.refl _ w9).drew.trans dd6; have X7b := B7_7.out.kept d10; have y0 := X7b.c0; have y1 := X7b.c1; have y2 := X7b.c2; have y3 := X7b.c3; have y4 := X7b.c4; have y5 := X7b.c5; have y6 := X7b.c6; have y7 := X7b.c7; have y8 := X7b.c8; have y9 := X7b.c9)
      | (go_at_call 16; refine (eqLegS d p4 p6 _ (N4_7.out.new.leg.kept d10) hi6 HF.out).mono ?_; rintro e w11 ⟨rfl, d11⟩))
    all_goals
      go_wp2_with fail
      go_meet
      case rel => exact ⟨rfl, bt d10 d11⟩
  case rest =>
  obtain ⟨rfl, hd11⟩ := hcut
  generalize wc = w11 at *
  have D11 := Lib.hid (bt D9.out hd11.out)
  have s11 := hd11.out.size
  clear r70 r71 r72 r73 r74 r75 r76 r77 r78 r79
  clear rA0 rA1 rA2 rA3 rA4 rA5 rA6 rA7 rA8 rA9
  have BA_8 := Lib.hid (BA_7.out.kept hd11.out)
  have B6_8 := Lib.hid (B6_7.out.kept hd11.out)
  have B7_8 := Lib.hid (B7_7.out.kept hd11.out)
  have B8_8 := Lib.hid (B8_7.out.kept hd11.out)
  have N6L_8 := Lib.hid (N6L_7.out.kept hd11.out)
  have N4_8 := Lib.hid (N4_7.out.kept hd11.out)
  have N8L_8 := Lib.hid (N8L_7.out.kept hd11.out)
  have Q_8 := Lib.hid (((hd11.out).block _ (lt_heap Q_7.out)).trans Q_7.out)
  clear BA_7 B6_7 B7_7 B8_7 N6L_7 N4_7 N8L_7 Q_7
  have hm1 : 0 ≤ markN d 1 := by unfold markN; omega
  have z1 : decide (markN d 1 < 0) = false := decide_eq_false (by omega)
  have hm2 : 0 ≤ markN g 1 := by unfold markN; omega
  have z2 : decide (markN g 1 < 0) = false := decide_eq_false (by omega)
  have r70 := B7_8.out.c0
  have r71 := B7_8.out.c1
  have r72 := B7_8.out.c2
  have r73 := B7_8.out.c3
  have r74 := B7_8.out.c4
  have r75 := B7_8.out.c5
  have r76 := B7_8.out.c6
  have r77 := B7_8.out.c7
  have r78 := B7_8.out.c8
  have r79 := B7_8.out.c9
  go_wp2_with fail
  refine (markLegI X6.heap.size w4.heap.size d p4 1 w11 N4_8.out HF.out (by omega) (by omega)).mono ?_
  rintro e w12 ⟨rfl, k12, m12⟩
  have D12 := Lib.hid (D11.out.trans ((k12.below (by omega)).mono (by omega)))
  have s12 := k12.size
  clear r70 r71 r72 r73 r74 r75 r76 r77 r78 r79
  have BA_9 := Lib.hid (LegBx.outK2 BA_8.out k12 (by omega))
  have B6_9 := Lib.hid (LegBx.outK2 B6_8.out k12 (by omega))
  have B7_9 := Lib.hid (LegBx.outK2 B7_8.out k12 (by omega))
  have B8_9 := Lib.hid (LegBx.outK2 B8_8.out k12 (by omega))
  have N6L_9 := Lib.hid (N6L_8.out.out k12 (by omega))
  have N8L_9 := Lib.hid (N8L_8.out.out k12 (by omega))
  have Q_9 := Lib.hid ((k12.block _ (lt_heap Q_8.out) (by omega)).trans Q_8.out)
  clear BA_8 B6_8 B7_8 B8_8 N6L_8 N8L_8 Q_8
  clear k12 m12
  have r80 := B8_9.out.c0
  have r81 := B8_9.out.c1
  have r82 := B8_9.out.c2
  have r83 := B8_9.out.c3
  have r84 := B8_9.out.c4
  have r85 := B8_9.out.c5
  have r86 := B8_9.out.c6
  have r87 := B8_9.out.c7
  have r88 := B8_9.out.c8
  have r89 := B8_9.out.c9
  have r60 := B6_9.out.c0
  have r61 := B6_9.out.c1
  have r62 := B6_9.out.c2
  have r63 := B6_9.out.c3
  have r64 := B6_9.out.c4
  have r65 := B6_9.out.c5
  have r66 := B6_9.out.c6
  have r67 := B6_9.out.c7
  have r68 := B6_9.out.c8
  have r69 := B6_9.out.c9
  go_wp2_with fail
  refine (eqLegS g q8 q6 w12 N8L_9.out.new.leg N6L_9.out.new.leg HFg.out).mono ?_
  rintro e w13 ⟨rfl, d13⟩
  have s13 := d13.size
  have D13 := Lib.hid (bt D12.out d13)
  clear r80 r81 r82 r83 r84 r85 r86 r87 r88 r89
  clear r60 r61 r62 r63 r64 r65 r66 r67 r68 r69
  have BA_10 := Lib.hid (BA_9.out.kept d13)
  have B6_10 := Lib.hid (B6_9.out.kept d13)
  have B7_10 := Lib.hid (B7_9.out.kept d13)
  have B8_10 := Lib.hid (B8_9.out.kept d13)
  have N6L_10 := Lib.hid (N6L_9.out.kept d13)
  have N8L_10 := Lib.hid (N8L_9.out.kept d13)
  have Q_10 := Lib.hid (((d13).block _ (lt_heap Q_9.out)).trans Q_9.out)
  clear BA_9 B6_9 B7_9 B8_9 N6L_9 N8L_9 Q_9
  clear d13
  have r80 := B8_10.out.c0
  have r81 := B8_10.out.c1
  have r82 := B8_10.out.c2
  have r83 := B8_10.out.c3
  have r84 := B8_10.out.c4
  have r85 := B8_10.out.c5
  have r86 := B8_10.out.c6
  have r87 := B8_10.out.c7
  have r88 := B8_10.out.c8
  have r89 := B8_10.out.c9
  go_wp2_with fail
  refine (markLegI lo8 hi8 g q8 1 w13 N8L_10.out HFg.out (by omega) (by omega)).mono ?_
  rintro e w14 ⟨rfl, k14, m14⟩
  have D14 := Lib.hid (D13.out.trans ((k14.below (by omega)).mono (by omega)))
  have s14 := k14.size
  clear r80 r81 r82 r83 r84 r85 r86 r87 r88 r89
  have BA_11 := Lib.hid (LegBx.outK2 BA_10.out k14 (by omega))
  have B6_11 := Lib.hid (LegBx.outK2 B6_10.out k14 (by omega))
  have B7_11 := Lib.hid (LegBx.outK2 B7_10.out k14 (by omega))
  have B8_11 := Lib.hid (LegBx.outK2 B8_10.out k14 (by omega))
  have N6L_11 := Lib.hid (N6L_10.out.out k14 (by omega))
  have Q_11 := Lib.hid ((k14.block _ (lt_heap Q_10.out) (by omega)).trans Q_10.out)
  clear BA_10 B6_10 B7_10 B8_10 N6L_10 Q_10
  have hM14 := Lib.hid m14
  clear k14 m14
  have r80 := B8_11.out.c0
  have r81 := B8_11.out.c1
  have r82 := B8_11.out.c2
  have r83 := B8_11.out.c3
  have r84 := B8_11.out.c4
  have r85 := B8_11.out.c5
  have r86 := B8_11.out.c6
  have r87 := B8_11.out.c7
  have r88 := B8_11.out.c8
  have r89 := B8_11.out.c9
  go_wp2_with fail
  refine (heldLegI g q8 1 w14 hM14.out HFg.out (by omega) (by omega)).mono ?_
  rintro e w15 ⟨rfl, d15⟩
  have D15 := Lib.hid (bt D14.out d15)
  have s15 := d15.size
  clear r80 r81 r82 r83 r84 r85 r86 r87 r88 r89
  have BA_12 := Lib.hid (BA_11.out.kept d15)
  have B6_12 := Lib.hid (B6_11.out.kept d15)
  have B7_12 := Lib.hid (B7_11.out.kept d15)
  have B8_12 := Lib.hid (B8_11.out.kept d15)
  have N6L_12 := Lib.hid (N6L_11.out.kept d15)
  have NM_12 := Lib.hid (hM14.out.kept d15)
  have Q_12 := Lib.hid (((d15).block _ (lt_heap Q_11.out)).trans Q_11.out)
  clear BA_11 B6_11 B7_11 B8_11 N6L_11 hM14 Q_11
  clear d15
  have rA0 := BA_12.out.c0
  have rA1 := BA_12.out.c1
  have rA2 := BA_12.out.c2
  have rA3 := BA_12.out.c3
  have rA4 := BA_12.out.c4
  have rA5 := BA_12.out.c5
  have rA6 := BA_12.out.c6
  have rA7 := BA_12.out.c7
  have rA8 := BA_12.out.c8
  have rA9 := BA_12.out.c9
  obtain ⟨rQ0, rQ1, rQ2⟩ := row3 Q_12.out
  go_upto_region 24 with fail
  refine wp_region_inv' (by kernel_rfl) (T2 5 w15.heap.size none (fun _ W => Below w15.heap.size w15 W) (SCopy d p t c s share) (GHold g b)) (by kernel_rfl) (T2.start (Nat.le_refl _) ((Below.refl _ _).drew)) ?_
  apply Exists.intro
  apply And.intro
  · intro f
    simp only [over, List.set]
    exact rfl
  refine ⟨?hops, ?hend⟩
  case hops =>
    refine EachOp.cons ?_ (EachOp.cons ?_ (EachOp.cons ?_ (EachOp.cons ?_ (EachOp.cons ?_ (EachOp.cons ?_ (EachOp.cons ?_ (EachOp.cons ?_ (EachOp.cons ?_ (EachOp.cons ?_ (EachOp.cons ?_ (EachOp.cons ?_ (EachOp.nil))))))))))))
    · intro L ff kk ww hkk hJ hcl hLi hwt QQ' hQ
      try dsimp only
      have qa := LegBx.kept BA_12.out hJ.inv
      have y0 := qa.c0
      have y1 := qa.c1
      have y2 := qa.c2
      have y3 := qa.c3
      have y4 := qa.c4
      have y5 := qa.c5
      have y6 := qa.c6
      have y7 := qa.c7
      have y8 := qa.c8
      have y9 := qa.c9
      clear qa
      go_big_wp2_with fail
      refine hQ _ _ _ ?_ (hJ.pre_id (i := 0) (by decide) (fun r e => by cases e) hJ.inv rfl)
      first | rfl | (simp [upd]; done)
    · intro L ff kk ww hkk hJ hcl hLi hwt QQ' hQ
      try dsimp only
      have h10 : L 10 = false := by
        cases hx : L 10 with
        | false => rfl
        | true => have h1 : L 1 = true := hcl 10 _ rfl hx 1 (by decide); have h2 : L 1 = false := hLi; rw [h1] at h2; cases h2
      have c0 : ff 0 = LegV d p := hJ.pre 0 (by decide) (hwt 0 (by decide)) h10
      have c0' := c0
      unfold LegV at c0'
      go_big_wp2_with fail
      refine (toLegW d p ww (HIN.out.kept (bt D15.out hJ.inv)) HF.out).mono ?_
      rintro e wa ⟨pa, rfl, newa, da⟩
      go_big_wp2_with fail
      refine hQ _ _ wa ?_ (hJ.pre_op (i := 1) (by decide) (toGr da) (fun r e => by cases e) (fun j v h => h.kept da) (fun lo hi dd q bb _ h => h.kept da) (bt hJ.inv da) ⟨pa, rfl, newa.leg, newa.1.2.2.2, newa.1.2.1⟩)
      first | rfl | (simp [upd, c0, c0']; done)
    · intro L ff kk ww hkk hJ hcl hLi hwt QQ' hQ
      try dsimp only
      have qh := (hJ.inv.block _ (lt_heap Q_12.out)).trans Q_12.out
      obtain ⟨y0, y1, y2⟩ := row3 qh
      clear qh
      go_big_wp2_with fail
      refine hQ _ _ _ ?_ (hJ.pre_id (i := 2) (by decide) (fun r e => by cases e) hJ.inv rfl)
      first | rfl | (simp [upd]; done)
    · intro L ff kk ww hkk hJ hcl hLi hwt QQ' hQ
      try dsimp only
      have h10 : L 10 = false := by
        cases hx : L 10 with
        | false => rfl
        | true => have h1 : L 3 = true := hcl 10 _ rfl hx 3 (by decide); have h2 : L 3 = false := hLi; rw [h1] at h2; cases h2
      have c2 : ff 2 = .agg #[.int .i64 t, .int .i64 c, .int .i64 s] := hJ.pre 2 (by decide) (hwt 2 (by decide)) h10
      go_big_wp2_with fail
      refine (toHold1 t c s ww).mono ?_
      rintro e wh ⟨rfl, dh⟩
      go_big_wp2_with fail
      refine hQ _ _ wh ?_ (hJ.pre_op (i := 3) (by decide) (toGr dh) (fun r e => by cases e) (fun j v h => h.kept dh) (fun lo hi dd q bb _ h => h.kept dh) (bt hJ.inv dh) rfl)
      first | rfl | (simp [upd, c2]; done)
    · intro L ff kk ww hkk hJ hcl hLi hwt QQ' hQ
      try dsimp only
      go_big_wp2_with fail
      refine hQ _ _ _ ?_ (hJ.pre_id (i := 4) (by decide) (fun r e => by cases e) hJ.inv rfl)
      first | rfl | (simp [upd]; done)
    · intro L ff kk ww hkk hJ hcl hLi hwt QQ' hQ
      try dsimp only
      have h10 : L 10 = false := by
        cases hx : L 10 with
        | false => rfl
        | true => have h1 : L 5 = true := hcl 10 _ rfl hx 5 (by decide); have h2 : L 5 = false := hLi; rw [h1] at h2; cases h2
      have n6 : L 6 = false := by
        cases hx : L 6 with
        | false => rfl
        | true =>
          have h6x := hx
          have h5x : L 5 = true := hcl 6 _ rfl h6x 5 (by decide)
          have h2 : L 5 = false := hLi
          rw [h5x] at h2; cases h2
      have n7 : L 7 = false := by
        cases hx : L 7 with
        | false => rfl
        | true =>
          have h7x := hx
          have h6x : L 6 = true := hcl 7 _ rfl h7x 6 (by decide)
          have h5x : L 5 = true := hcl 6 _ rfl h6x 5 (by decide)
          have h2 : L 5 = false := hLi
          rw [h5x] at h2; cases h2
      have n8 : L 8 = false := by
        cases hx : L 8 with
        | false => rfl
        | true =>
          have h8x := hx
          have h6x : L 6 = true := hcl 8 _ rfl h8x 6 (by decide)
          have h5x : L 5 = true := hcl 6 _ rfl h6x 5 (by decide)
          have h2 : L 5 = false := hLi
          rw [h5x] at h2; cases h2
      have n11 : L 11 = false := by
        cases hx : L 11 with
        | false => rfl
        | true =>
          have h11x := hx
          have h8x : L 8 = true := hcl 11 _ rfl h11x 8 (by decide)
          have h6x : L 6 = true := hcl 8 _ rfl h8x 6 (by decide)
          have h5x : L 5 = true := hcl 6 _ rfl h6x 5 (by decide)
          have h2 : L 5 = false := hLi
          rw [h5x] at h2; cases h2
      obtain ⟨pa, c1, hin1, hcH, hcS⟩ := hJ.pre 1 (by decide) (hwt 1 (by decide)) h10
      have c3 : ff 3 = .agg #[.int .i64 t, .int .i64 c, .int .i64 s] := hJ.pre 3 (by decide) (hwt 3 (by decide)) h10
      have c4 : ff 4 = .int .i64 share := hJ.pre 4 (by decide) (hwt 4 (by decide)) h10
      go_big_wp2_with fail
      refine (LegHoldI d pa t c s share ww hin1 HF.out hcS).mono ?_
      rintro e wg ⟨gg, pg, bb, rfl, hgg, newg, dg⟩
      obtain ⟨rfl, rfl⟩ := holdIs_one HG.out hgg.out
      go_big_wp2_with fail
      refine hQ _ _ wg ?_ (hJ.call_op n6 n7 n8 h10 n11 (toGr dg) (fun r e => by cases e) (fun j v h => h.kept dg) (bt hJ.inv dg) ⟨rfl, rfl, newg.toT⟩)
      first | rfl | (simp [upd, c1, c3, c4]; done)
    · intro L ff kk ww hkk hJ hcl hLi hwt QQ' hQ
      try dsimp only
      have hm : L 5 = true := hwt 5 (by decide)
      go_big_wp2_with fail
      refine hQ _ _ _ ?_ (hJ.mv hm hJ.inv)
      first | rfl | (simp [upd]; done)
    · intro L ff kk ww hkk hJ hcl hLi hwt QQ' hQ
      try dsimp only
      have h10 : L 10 = false := by
        cases hx : L 10 with
        | false => rfl
        | true => have h1 : L 7 = true := hcl 10 _ rfl hx 7 (by decide); have h2 : L 7 = false := hLi; rw [h1] at h2; cases h2
      have h1 : L 6 = true := hwt 6 (by decide)
      have hm : L 5 = true := hcl 6 _ rfl h1 5 (by decide)
      obtain ⟨dd, q, bb, c6, hN⟩ := hJ.ex0 hm h1 h10 hJ.inv
      have c6' : ff 6 = _ := c6
      go_big_wp2_with fail
      refine hQ _ _ _ ?_ hN
      first | rfl | (simp [upd, c6']; done)
    · intro L ff kk ww hkk hJ hcl hLi hwt QQ' hQ
      try dsimp only
      have h1 : L 6 = true := hwt 6 (by decide)
      have hm : L 5 = true := hcl 6 _ rfl h1 5 (by decide)
      obtain ⟨dd, q, bb, c5, c6, -⟩ := hJ.bool hm
      have c6' : ff 6 = _ := c6 h1
      clear c6
      have hN := hJ.ex1 hm c5 (.inl rfl) hJ.inv
      clear c5
      go_big_wp2_with fail
      refine hQ _ _ _ ?_ hN
      first | rfl | (simp [upd, c6']; done)
    · intro L ff kk ww hkk hJ hcl hLi hwt QQ' hQ
      try dsimp only
      have h10 : L 10 = false := by
        cases hx : L 10 with
        | false => rfl
        | true => have h1 : L 9 = true := hcl 10 _ rfl hx 9 (by decide); have h2 : L 9 = false := hLi; rw [h1] at h2; cases h2
      have hN := hJ.alloc hLi h10 (fun j v h => h.kept ((Below.refl _ _).alloc (Nat.le_refl _) _)) (fun lo hi dd q bb _ h => h.kept ((Below.refl _ _).alloc (Nat.le_refl _) _)) (bt hJ.inv ((Below.refl _ _).alloc (Nat.le_refl _) _))
      go_big_wp2_with fail
      exact hQ _ _ _ rfl hN
    · intro L ff kk ww hkk hJ hcl hLi hwt QQ' hQ
      try dsimp only
      have hm : L 5 = true := hwt 5 (by decide)
      obtain ⟨bx, dd, q, c9, c7, hN9, hz, hst⟩ := hJ.store hm (hwt 7 (by decide)) (hwt 9 (by decide)) hLi
      have c9' : ff 9 = _ := c9
      have c7' : ff 7 = _ := c7
      have hN := hst undef (fun lo hi bb _ hd h => h.row (LegC dd q) hd) (hJ.inv.grown (grown_setRow ww bx (LegC dd q)) hJ.inv.size (fun r e => by cases e; exact hN9))
      rw [c9', c7']
      unfold LegV
      go_big_wp2_with (first
        | (refine wpList_store_row rfl 31 _ _ rfl bx (LegC dd q) rfl rfl 31 ZLeg hz legSize rfl (leg_one dd q) ?_)
        | fail)
      refine hQ _ undef _ ?_ hN
      first | rfl | (simp [upd, c9', c7', LegV]; done)
    · intro L ff kk ww hkk hJ hcl hLi hwt QQ' hQ
      try dsimp only
      have h3 : L 8 = true := hwt 8 (by decide)
      have h1 : L 6 = true := hcl 8 _ rfl h3 6 (by decide)
      have hm : L 5 = true := hcl 6 _ rfl h1 5 (by decide)
      obtain ⟨dd, q, bb, c5, -, c8⟩ := hJ.bool hm
      have c8' : ff 8 = _ := c8 h3
      clear c8
      have hN := hJ.ex1 hm c5 (.inr rfl) hJ.inv
      clear c5
      go_big_wp2_with fail
      refine hQ _ _ _ ?_ hN
      first | rfl | (simp [upd, c8']; done)
  case hend =>
  intro L ff kk XP hL hJ
  try dsimp only
  obtain ⟨bP, dd, qP, bb, loP, hiP, r1, sP, slP, shP, sdP, r6, ⟨e1, e2, r7⟩, -, -, -, r11⟩ := hJ.done (hL 10 (by decide))
  have e11 : ff 11 = _ := r11 (hL 11 (by decide))
  have r1' : ff 9 = _ := r1
  rw [r1', e11]
  have e1' := e1.symm
  have e2' := e2.symm
  clear e1 e2
  subst e1'
  subst e2'
  have hdP := hJ.inv
  have DP := Lib.hid (bt D15.out hdP)
  have tP : bP < XP.heap.size := lt_heap r6
  have hxP : Hid (LegBx XP bP 31 g qP) := r6
  have hlP := Lib.hid r7
  have sleP := LegNewT.le r7
  clear r1 r1' r6 r7 e11 r11 hJ hL
  have BA_13 := Lib.hid (BA_12.out.kept hdP)
  have B6_13 := Lib.hid (B6_12.out.kept hdP)
  have B7_13 := Lib.hid (B7_12.out.kept hdP)
  have B8_13 := Lib.hid (B8_12.out.kept hdP)
  have N6L_13 := Lib.hid (N6L_12.out.kept hdP)
  have NM_13 := Lib.hid (NM_12.out.kept hdP)
  have Q_13 := Lib.hid (((hdP).block _ (lt_heap Q_12.out)).trans Q_12.out)
  clear BA_12 B6_12 B7_12 B8_12 N6L_12 NM_12 Q_12
  clear hdP
  clear rA0 rA1 rA2 rA3 rA4 rA5 rA6 rA7 rA8 rA9
  clear rQ0 rQ1 rQ2
  have rP0 := hxP.out.c0
  have rP1 := hxP.out.c1
  have rP2 := hxP.out.c2
  have rP3 := hxP.out.c3
  have rP4 := hxP.out.c4
  have rP5 := hxP.out.c5
  have rP6 := hxP.out.c6
  have rP7 := hxP.out.c7
  have rP8 := hxP.out.c8
  have rP9 := hxP.out.c9
  have r60 := B6_13.out.c0
  have r61 := B6_13.out.c1
  have r62 := B6_13.out.c2
  have r63 := B6_13.out.c3
  have r64 := B6_13.out.c4
  have r65 := B6_13.out.c5
  have r66 := B6_13.out.c6
  have r67 := B6_13.out.c7
  have r68 := B6_13.out.c8
  have r69 := B6_13.out.c9
  go_wp2_with fail
  refine (eqLegS g qP q6 XP hlP.out.new.leg N6L_13.out.new.leg HFg.out).mono ?_
  rintro e w18 ⟨rfl, d18⟩
  have s18 := d18.size
  have D18 := Lib.hid (bt DP.out d18)
  clear rP0 rP1 rP2 rP3 rP4 rP5 rP6 rP7 rP8 rP9
  clear r60 r61 r62 r63 r64 r65 r66 r67 r68 r69
  have BA_14 := Lib.hid (BA_13.out.kept d18)
  have B6_14 := Lib.hid (B6_13.out.kept d18)
  have B7_14 := Lib.hid (B7_13.out.kept d18)
  have B8_14 := Lib.hid (B8_13.out.kept d18)
  have BP_14 := Lib.hid (hxP.out.kept d18)
  have N6L_14 := Lib.hid (N6L_13.out.kept d18)
  have NM_14 := Lib.hid (NM_13.out.kept d18)
  have NPL_14 := Lib.hid (hlP.out.kept d18)
  have Q_14 := Lib.hid (((d18).block _ (lt_heap Q_13.out)).trans Q_13.out)
  clear BA_13 B6_13 B7_13 B8_13 hxP N6L_13 NM_13 hlP Q_13
  clear d18
  have r80 := B8_14.out.c0
  have r81 := B8_14.out.c1
  have r82 := B8_14.out.c2
  have r83 := B8_14.out.c3
  have r84 := B8_14.out.c4
  have r85 := B8_14.out.c5
  have r86 := B8_14.out.c6
  have r87 := B8_14.out.c7
  have r88 := B8_14.out.c8
  have r89 := B8_14.out.c9
  go_wp2_with fail
  refine (heldLegI g q8 1 w18 NM_14.out HFg.out (by omega) (by omega)).mono ?_
  rintro e w19 ⟨rfl, d19⟩
  have D19 := Lib.hid (bt D18.out d19)
  clear d19
  clear r80 r81 r82 r83 r84 r85 r86 r87 r88 r89
  go_wp2
  go_ret
  exact ⟨rfl, D19.out⟩
end Go.Proofs.Ytbnjmdeabhikkaa
