/-
  A leg of which some seats are sold and held, as it is drawn.
-/
import Derived.Test.YtdaccpffdnbkiaaGreatDoorJ45
import Derived.Test.YtdaccpffdnbkiaaGreatDoorFree
import Derived.Test.YtdaccpffdnbkiaaGreatDoorLegHoldM
import Derived.Test.YtdaccpffdnbkiaaGreatDoorJ31
import Derived.Deep.CutRange
import Derived.OwnWalk
import Derived.Deep.DeepMust
namespace Go.Proofs.YtdaccpffdnbkiaaGreatDoor
open Go.RowKit
set_option linter.unusedVariables false
set_option linter.unusedSimpArgs false

theorem Holds.at {W : World} {bH oH n : Nat} {a : Option Addr} {t c s : Nat → Int} (h : Holds W a n t c s) (e : a = some ⟨bH, oH, none⟩) (i : Nat) (hi : i < n) : W.cell? ⟨bH, oH + i * 3, none⟩ = some (.int .i64 (t i)) := by
  rcases h with h | ⟨b, off, h1, h2, h3⟩
  · omega
  · rw [e] at h1
    cases h1
    exact (h3 i hi).1
def SSold (b : Nat) (d : LegD) (p : LegP) (c : Int) (i : Nat) (W : World) (v : Value) : Prop := match i with
  | 0 => v = LegV d p
  | 1 => v = .pointer (some ⟨b, 0, none⟩)
  | 2 => ∃ x : Int, 0 ≤ x ∧ x < 8 ∧ v = .int .i64 x
  | 3 => ∃ x : Int, v = .int .i64 x
  | 4 => v = .int .i64 c
  | 5 => ∃ g : Nat, v = .slice (some ⟨g, 0, none⟩) 4 4 ∧ g ≠ b ∧ W.heap[g]? = some (.cells #[.int .i64 1, .int .i64 2, .int .i64 1, .int .i64 (-1)] 3 (0, 0))
  | 6 => v = .pointer (some ⟨b, 0, none⟩)
  | 7 => ∃ i : Nat, i < 4 ∧ v = .int .i64 (i : Int)
  | 8 => ∃ g i : Nat, i < 4 ∧ v = .pointer (some ⟨g, i, none⟩) ∧ g ≠ b ∧ W.heap[g]? = some (.cells #[.int .i64 1, .int .i64 2, .int .i64 1, .int .i64 (-1)] 3 (0, 0))
  | 9 => ∃ x : Int, v = .int .i64 x
  | 10 => ∃ t c s : Int, v = .agg #[.int .i64 t, .int .i64 c, .int .i64 s]
  | _ => True
theorem SSold.kept {b : Nat} {d : LegD} {p : LegP} {c : Int} {i : Nat} {W W' : World} {v : Value} (h : SSold b d p c i W v) (hg : W.grownBy W' (some b)) : SSold b d p c i W' v := by
  match i, h with
  | 0, h => exact h
  | 1, h => exact h
  | 2, h => exact h
  | 3, h => exact h
  | 4, h => exact h
  | 5, ⟨g, h1, h2, h3⟩ => exact ⟨g, h1, h2, (hg.block g (lt_heap h3) (fun e => h2 (by cases e; rfl))).trans h3⟩
  | 6, h => exact h
  | 7, h => exact h
  | 8, ⟨g, i, h0, h1, h2, h3⟩ => exact ⟨g, i, h0, h1, h2, (hg.block g (lt_heap h3) (fun e => h2 (by cases e; rfl))).trans h3⟩
  | 9, h => exact h
  | 10, h => exact h
  | i + 11, h => exact trivial
def GSold (N b bx : Nat) (lo hi : Nat) (W : World) (dd : LegD) (q : LegP) (bb : Bool) : Prop :=
  OkLeg dd ∧ LegIn W dd q ∧ dd.nH ≤ q.cH ∧ LegOff b dd q ∧ LegOff bx dd q ∧ LegAt N lo hi dd q ∧ (bb = true → 1 ≤ dd.nH)
theorem GSold.kept {N b bx lo hi : Nat} {W W' : World} {dd : LegD} {q : LegP} {bb : Bool} (h : GSold N b bx lo hi W dd q bb) (hg : W.grownBy W' (some b)) : GSold N b bx lo hi W' dd q bb := ⟨h.1, h.2.1.farX h.2.2.2.1 hg, h.2.2⟩
theorem GSold.row {N b bx lo hi : Nat} {W : World} {dd : LegD} {q : LegP} {bb : Bool} (h : GSold N b bx lo hi W dd q bb) {y : Nat} (cs : Array Value) (hN : N ≤ y) (hd : y < lo ∨ hi ≤ y) : GSold N b bx lo hi (W.setRow y cs) dd q bb :=
  ⟨h.1, h.2.1.farX (h.2.2.2.2.2.1.off hN hd) (grown_setRow W y cs), h.2.2⟩
theorem gSold {N b bx : Nat} {w W' : World} {d dd : LegD} {p q : LegP} {t c s share : Int} {bb : Bool} (ho : OkLeg d) (hb : LegOff b d p) (hx : LegOff bx d p) (hat : LegAt N 0 0 d p) (hbw : b < w.heap.size) (hbx : bx < w.heap.size)
    (hH : HoldIs d t c s share dd bb) (hc : dd.nH ≤ q.cH) (hm : Moved w dd.nH p q) (hn : bb = true → dd.nH = 0 ∨ NewAt w q.aH) (hi : LegIn W' dd q) : GSold N b bx w.heap.size W'.heap.size W' dd q bb := by
  obtain ⟨h1, h2, h3⟩ := hH.2 ho
  have hl : Like d dd := by
    cases bb with
    | false => rw [h3 rfl]; exact ⟨rfl, rfl, rfl⟩
    | true => obtain ⟨k, -, rfl⟩ := h2 rfl; exact ⟨rfl, rfl, rfl⟩
  have hc2 : q.aH = p.aH → d.nH = 0 → dd.nH = 0 ∨ NewAt w q.aH := by
    intro _ h0
    cases bb with
    | false => rw [h3 rfl]; exact .inl h0
    | true => exact hn rfl
  refine ⟨?_, hi, hc, hb.moved hl hm hc2 hbw, hx.moved hl hm hc2 hbx, hat.moved hl hm hc2 hi, fun e => ?_⟩
  · cases bb with
    | false => rw [h3 rfl]; exact ho
    | true => obtain ⟨k, hk, rfl⟩ := h2 rfl; exact okLeg_put ho hk (h1.1 rfl)
  · subst e
    obtain ⟨k, hk, rfl⟩ := h2 rfl
    show 1 ≤ d.nH + 1
    omega
def SKeep (b bx bH oH : Nat) (dd : LegD) (q : LegP) (i : Nat) (_W : World) (v : Value) : Prop := match i with
  | 0 => v = LegV dd q
  | 1 => v = .pointer (some ⟨bx, 9, none⟩)
  | 2 => v = .slice (some ⟨bH, oH, none⟩) dd.nH q.cH
  | 3 => v = .pointer (some ⟨b, 0, none⟩)
  | 4 => v = .pointer (some ⟨bx, 9, none⟩)
  | 5 => v = .slice (some ⟨bH, oH, none⟩) dd.nH q.cH
  | 6 => v = .int .i64 (dd.nH : Int)
  | 7 => ∃ i : Nat, i < dd.nH ∧ v = .int .i64 (i : Int)
  | 8 => ∃ i : Nat, i < dd.nH ∧ v = .pointer (some ⟨bH, oH + i * 3, none⟩)
  | 9 => ∃ i : Nat, i < dd.nH ∧ v = .pointer (some ⟨bH, oH + i * 3, none⟩)
  | 10 => ∃ x : Int, v = .int .i64 x
  | _ => True
def RKeep (w0 : World) (B Q b bx : Nat) (dd : LegD) (q : LegP) (d2 : LegD) (q2 : LegP) (W : World) : Prop :=
  SoldInv w0 B Q b bx dd q W ∧ LegIn W d2 q2 ∧ OkLeg d2 ∧ d2.nH ≤ q2.cH ∧ LegOff b d2 q2 ∧ LegOff bx d2 q2
theorem rSold {w0 w W' : World} {B Q Q' b bx : Nat} {d : LegD} {p q : LegP} {x : Int} (h : SoldInv w0 B Q b bx d p w) (hi : LegIn W' (keepD d x) q) (hc : (keepD d x).nH ≤ q.cH) (hm : Moved w (keepD d x).nH p q) (dg : Below w.heap.size w W') (hq : Q ≤ Q') :
    RKeep w0 B Q' b bx d p (keepD d x) q W' := by
  have hl : Like d (keepD d x) := by unfold keepD; split <;> exact ⟨rfl, rfl, rfl⟩
  have hc2 : q.aH = p.aH → d.nH = 0 → (keepD d x).nH = 0 ∨ NewAt w q.aH := by
    intro _ h0
    left
    unfold keepD
    rw [if_neg (by omega)]
    exact h0
  exact ⟨(h.below dg).mono hq, hi, okLeg_keep h.ok x, hc, h.offb.moved hl hm hc2 h.rd.lt, h.offx.moved hl hm hc2 (lt_heap h.box)⟩
theorem T2.begin {m N : Nat} {row : Option Nat} {I : Nat → World → Prop} {S : Nat → World → Value → Prop} {G : Nat → Nat → World → LegD → LegP → Bool → Prop} {f : Nat → Value} {W : World} (hN : N ≤ W.heap.size) (hI : I 0 W) : T2 m N row I S G 0 (fun _ => false) f W :=
  ⟨hI, hN, fun _ _ h => (by cases h), fun h => (by cases h), fun h => (by cases h), fun h => (by cases h)⟩
def DrawnSold (B Q b : Nat) (w : World) (e : Ending) (w' : World) : Prop := ∃ d p', e = .returned (LegV d p') ∧ Hid (OkLeg d) ∧ LegNew w.heap.size w' d p' ∧ RdTo B Q b w' ∧ w.grownBy w' (some b)

set_option maxRecDepth 100000 in
set_option maxHeartbeats 16000000 in
theorem drawSold (B b p0 : Nat) (w : World) (hr : Rd B w b p0) (hp : p0 ≤ 10000000) :
    Calls Tryz.prog 31 #[.pointer (some ⟨b, 0, none⟩)] w (DrawnSold B (p0 + 301) b w) := by
  have hbw := hr.le.2
  go_enter Tryz.func31, Tryz.ntmps31
  go_wp2_with fail
  refine (pick B b p0 9 _ (rd_alloc hr _) (by omega) (by omega) (by omega)).mono ?_
  rintro e w1 ⟨x1, l1, u1, rfl, hr1, hg1, -⟩
  go_wp2_with fail
  refine (drawLeg B b _ ⟨#[108, 97]⟩ ⟨#[120]⟩ ⟨#[121]⟩ x1 w1 hr1 (by omega) (by omega)).mono ?_
  rintro e w2 ⟨d, p, rfl, hf, hin, hoff, hcap, hrd, hg2⟩
  have hok : OkLeg d := okFresh hf.out (by decide) (by decide) (by decide) (by decide) (by omega)
  have hw2 := legRowBelow w2 (LegC d p)
  have hx2 : LegBox ((w2.alloc (.cells #[.string ⟨#[]⟩, .string ⟨#[]⟩, .string ⟨#[]⟩, .int .i64 0, .int .i64 0, .int .i64 0, .slice none 0 0, .slice none 0 0, .slice none 0 0, .slice none 0 0] 25)).setRow w2.heap.size (LegC d p)) w2.heap.size d p := legRowBox w2 d p
  have hs1 := hg1.size
  have hs2 := hg2.size
  have hW0s : (w.alloc (.cells #[.string ⟨#[]⟩, .string ⟨#[]⟩, .string ⟨#[]⟩, .int .i64 0, .int .i64 0, .int .i64 0, .slice none 0 0, .slice none 0 0, .slice none 0 0, .slice none 0 0] 25)).heap.size = w.heap.size + 1 := by simp
  have hI0 : SoldInv (w.alloc (.cells #[.string ⟨#[]⟩, .string ⟨#[]⟩, .string ⟨#[]⟩, .int .i64 0, .int .i64 0, .int .i64 0, .slice none 0 0, .slice none 0 0, .slice none 0 0, .slice none 0 0] 25)) B (p0 + 30) b w2.heap.size d p ((w2.alloc (.cells #[.string ⟨#[]⟩, .string ⟨#[]⟩, .string ⟨#[]⟩, .int .i64 0, .int .i64 0, .int .i64 0, .slice none 0 0, .slice none 0 0, .slice none 0 0, .slice none 0 0] 25)).setRow w2.heap.size (LegC d p)) :=
    ⟨hx2, hin.kept hw2, hok, hcap, hoff, hin.off_new (Nat.le_refl _), (hrd.below hw2).mono (by omega), grown_trans (grown_trans hg1 hg2) (grown_below hw2 b), ⟨by omega, by omega⟩⟩
  have HI0 := Lib.hid hI0
  have y0 := (hx2).c0
  have y1 := (hx2).c1
  have y2 := (hx2).c2
  have y3 := (hx2).c3
  have y4 := (hx2).c4
  have y5 := (hx2).c5
  have y6 := (hx2).c6
  have y7 := (hx2).c7
  have y8 := (hx2).c8
  have y9 := (hx2).c9
  clear hI0 hs1 hs2 hW0s hw2 hrd hin hoff hg1 hg2 hr1 hf hx2 hok hcap
  unfold LegV
  go_wp2_with (first
    | (refine wpList_store_row rfl 25 _ _ rfl w2.heap.size (LegC d p) rfl rfl 25 #[.string ⟨#[]⟩, .string ⟨#[]⟩, .string ⟨#[]⟩, .int .i64 0, .int .i64 0, .int .i64 0, .slice none 0 0, .slice none 0 0, .slice none 0 0, .slice none 0 0] (heap_alloc_new w2 _) legSize rfl (leg_one d p) ?_)
    | fail)
  clear y0 y1 y2 y3 y4 y5 y6 y7 y8 y9
  generalize ((w2.alloc (.cells #[.string ⟨#[]⟩, .string ⟨#[]⟩, .string ⟨#[]⟩, .int .i64 0, .int .i64 0, .int .i64 0, .slice none 0 0, .slice none 0 0, .slice none 0 0, .slice none 0 0] 25)).setRow w2.heap.size (LegC d p)) = X3 at *
  generalize hW0 : w.alloc (.cells #[.string ⟨#[]⟩, .string ⟨#[]⟩, .string ⟨#[]⟩, .int .i64 0, .int .i64 0, .int .i64 0, .slice none 0 0, .slice none 0 0, .slice none 0 0, .slice none 0 0] 25) = W0 at *
  have HW0 := Lib.hid hW0
  clear hW0
  generalize w2.heap.size = bx at *
  obtain ⟨q3, hq3, hr3⟩ := HI0.out.rd
  refine (pick B b q3 5 X3 hr3 (by omega) (by omega) (by omega)).mono ?_
  rintro e w4 ⟨x4, l4, u4, rfl, hr4, hg4, -⟩
  obtain ⟨m0, rfl⟩ := Int.eq_ofNat_of_zero_le l4
  have HI4 := Lib.hid (HI0.out.far hg4 (Q' := p0 + 31) ⟨_, (by omega), hr4⟩)
  clear hr3 hr4 hg4 HI0
  generalize hd0 : d = dX at *
  generalize hp0x : p = pX at *
  go_wp2_with fail
  go_loopw [4] (fun v wr => ∃ (m : Nat) (d : LegD) (p : LegP), v = .int .i64 m ∧ m ≤ 4 ∧ Hid (SoldInv W0 B (p0 + 300 - 60 * m) b bx d p wr)) (fun v _ => (intOf v).toNat)
  case atStart => exact ⟨m0, dX, pX, rfl, by omega, HI4.out.far ⟨rfl, rfl, rfl, Nat.le_refl _, fun _ _ _ => rfl⟩ (HI4.out.rd.mono (by omega))⟩
  case round =>
    obtain ⟨m, d, p, rfl, hm4, hI⟩ := hrel
    rcases Nat.lt_or_ge 0 m with hlt | hge
    · have zm : decide (0 < (m : Int)) = true := decide_eq_true (by omega)
      have em : IntKind.i64.wrap ((m : Int) - 1) = ((m - 1 : Nat) : Int) := by rw [IntWalk.i64_in _ (by omega)]; omega
      obtain ⟨q, hq, hrq⟩ := hI.out.rd
      go_wp2_with fail
      refine (pick B b q 3 wr hrq (by omega) (by omega) (by omega)).mono ?_
      rintro e w5 ⟨xc, lc, uc, rfl, hr5, hg5, -⟩
      generalize hQ5 : p0 + 300 - 60 * m + 1 = Q5 at *
      have inv5 := Lib.hid (hI.out.far hg5 (Q' := Q5) ⟨_, (by omega), hr5⟩)
      have hQ5b : Q5 ≤ p0 + 301 := by omega
      have hQ5c : Q5 + 59 = p0 + 300 - 60 * (m - 1) := by omega
      have HQ5 := Lib.hid hQ5
      clear hQ5 hrq hr5 hg5 hI hq
      have hbN : b < w5.heap.size := inv5.out.rd.lt
      have HB : ∀ r, some b = some r → r < w5.heap.size := fun r e => by cases e; exact hbN
      have hat5 := Lib.hid (inv5.out.leg.at0 (Nat.le_refl _))
      go_upto_region 6 with fail
      refine wp_region_invK (by kernel_rfl) (fun k L f W => T2 11 w5.heap.size (some b) (fun k W => SoldInv W0 B (Q5 + k) b bx d p W) (SSold b d p xc) (GSold w5.heap.size b bx) k L f W) (by kernel_rfl) (T2.begin (Nat.le_refl _) inv5.out.drew) ?_
      apply Exists.intro
      apply And.intro
      · intro f
        simp only [over, List.set]
        exact rfl
      refine ⟨?hops, ?hend⟩
      case hops =>
        refine EachOp.cons ?_ (EachOp.cons ?_ (EachOp.cons ?_ (EachOp.cons ?_ (EachOp.cons ?_ (EachOp.cons ?_ (EachOp.cons ?_ (EachOp.cons ?_ (EachOp.cons ?_ (EachOp.cons ?_ (EachOp.cons ?_ (EachOp.cons ?_ (EachOp.cons ?_ (EachOp.cons ?_ (EachOp.cons ?_ (EachOp.cons ?_ (EachOp.cons ?_ (EachOp.cons ?_ (EachOp.nil))))))))))))))))))
        · intro L ff kk ww hkk hJ hcl hLi hwt QQ' hQ
          try dsimp only
          have hkk2 : kk < 18 := hkk
          have y0 := (hJ.inv.box).c0
          have y1 := (hJ.inv.box).c1
          have y2 := (hJ.inv.box).c2
          have y3 := (hJ.inv.box).c3
          have y4 := (hJ.inv.box).c4
          have y5 := (hJ.inv.box).c5
          have y6 := (hJ.inv.box).c6
          have y7 := (hJ.inv.box).c7
          have y8 := (hJ.inv.box).c8
          have y9 := (hJ.inv.box).c9
          go_big_wp2_with fail
          refine hQ _ _ _ ?_ (hJ.pre_id (i := 0) (by decide) HB (hJ.inv.mono (by omega)) rfl)
          first | rfl | (simp [upd]; done)
        · intro L ff kk ww hkk hJ hcl hLi hwt QQ' hQ
          try dsimp only
          have hkk2 : kk < 18 := hkk
          go_big_wp2_with fail
          refine hQ _ _ _ ?_ (hJ.pre_id (i := 1) (by decide) HB (hJ.inv.mono (by omega)) rfl)
          first | rfl | (simp [upd]; done)
        · intro L ff kk ww hkk hJ hcl hLi hwt QQ' hQ
          try dsimp only
          have hkk2 : kk < 18 := hkk
          have n16 : L 16 = false := by
            cases hx : L 16 with
            | false => rfl
            | true =>
              have h16x := hx
              have h2x : L 2 = true := hcl 16 _ rfl h16x 2 (by decide)
              have h2 : L 2 = false := hLi
              rw [h2x] at h2; cases h2
          have c1 : ff 1 = _ := hJ.pre 1 (by decide) (hwt 1 (by decide)) n16
          obtain ⟨qq, hqq, hrq⟩ := hJ.inv.rd
          go_big_wp2_with fail
          refine (pick B b qq 8 ww hrq (by omega) (by omega) (by omega)).mono ?_
          rintro e wp ⟨xp, lp, up, rfl, hrp, hgp, -⟩
          have hI' := hJ.inv.far (Q' := Q5 + (kk + 1)) hgp ⟨_, (by omega), hrp⟩
          clear hrp hrq
          go_big_wp2_with fail
          refine hQ _ _ wp ?_ (hJ.pre_op (i := 2) (by decide) hgp HB (fun j v h => h.kept hgp) (fun lo hi dd q bb _ h => h.kept hgp) hI' ⟨xp, lp, up, rfl⟩)
          first | rfl | (simp [upd, c1]; done)
        · intro L ff kk ww hkk hJ hcl hLi hwt QQ' hQ
          try dsimp only
          have hkk2 : kk < 18 := hkk
          have n16 : L 16 = false := by
            cases hx : L 16 with
            | false => rfl
            | true =>
              have h16x := hx
              have h3x : L 3 = true := hcl 16 _ rfl h16x 3 (by decide)
              have h2 : L 3 = false := hLi
              rw [h3x] at h2; cases h2
          obtain ⟨x, x0, x1, c2⟩ := hJ.pre 2 (by decide) (hwt 2 (by decide)) n16
          have c2' : ff 2 = _ := c2
          have ew : IntKind.i64.wrap (1 + x) = 1 + x := IntWalk.i64_in _ (by omega)
          go_big_wp2_with fail
          refine hQ _ _ _ ?_ (hJ.pre_id (i := 3) (by decide) HB (hJ.inv.mono (by omega)) ⟨1 + x, rfl⟩)
          first | rfl | (simp [upd, c2', ew]; done)
        · intro L ff kk ww hkk hJ hcl hLi hwt QQ' hQ
          try dsimp only
          have hkk2 : kk < 18 := hkk
          go_big_wp2_with fail
          refine hQ _ _ _ ?_ (hJ.pre_id (i := 4) (by decide) HB (hJ.inv.mono (by omega)) rfl)
          first | rfl | (simp [upd]; done)
        · intro L ff kk ww hkk hJ hcl hLi hwt QQ' hQ
          try dsimp only
          have hkk2 : kk < 18 := hkk
          have hg := World.grownBy_alloc ww (.cells #[.int .i64 1, .int .i64 2, .int .i64 1, .int .i64 (-1)] 3) (some b)
          have hI' := (hJ.inv.below (W' := ww.alloc (.cells #[.int .i64 1, .int .i64 2, .int .i64 1, .int .i64 (-1)] 3)) ((Below.refl _ _).alloc (Nat.le_refl _) _)).mono (Q' := Q5 + (kk + 1)) (by omega)
          have hsz := hJ.size
          go_big_wp2_with fail
          refine hQ _ _ _ ?_ (hJ.pre_op (i := 5) (by decide) hg HB (fun j v h => h.kept hg) (fun lo hi dd q bb _ h => h.kept hg) hI' ⟨ww.heap.size, rfl, by omega, heap_alloc_new ww _⟩)
          first | rfl | (simp [upd]; done)
        · intro L ff kk ww hkk hJ hcl hLi hwt QQ' hQ
          try dsimp only
          have hkk2 : kk < 18 := hkk
          go_big_wp2_with fail
          refine hQ _ _ _ ?_ (hJ.pre_id (i := 6) (by decide) HB (hJ.inv.mono (by omega)) rfl)
          first | rfl | (simp [upd]; done)
        · intro L ff kk ww hkk hJ hcl hLi hwt QQ' hQ
          try dsimp only
          have hkk2 : kk < 18 := hkk
          have n16 : L 16 = false := by
            cases hx : L 16 with
            | false => rfl
            | true =>
              have h16x := hx
              have h7x : L 7 = true := hcl 16 _ rfl h16x 7 (by decide)
              have h2 : L 7 = false := hLi
              rw [h7x] at h2; cases h2
          have c6 : ff 6 = _ := hJ.pre 6 (by decide) (hwt 6 (by decide)) n16
          obtain ⟨qq, hqq, hrq⟩ := hJ.inv.rd
          go_big_wp2_with fail
          refine (pick B b qq 4 ww hrq (by omega) (by omega) (by omega)).mono ?_
          rintro e wp ⟨xp, lp, up, rfl, hrp, hgp, -⟩
          obtain ⟨ip, rfl⟩ := Int.eq_ofNat_of_zero_le lp
          have hI' := hJ.inv.far (Q' := Q5 + (kk + 1)) hgp ⟨_, (by omega), hrp⟩
          clear hrp hrq
          go_big_wp2_with fail
          refine hQ _ _ wp ?_ (hJ.pre_op (i := 7) (by decide) hgp HB (fun j v h => h.kept hgp) (fun lo hi dd q bb _ h => h.kept hgp) hI' ⟨ip, by omega, rfl⟩)
          first | rfl | (simp [upd, c6]; done)
        · intro L ff kk ww hkk hJ hcl hLi hwt QQ' hQ
          try dsimp only
          have hkk2 : kk < 18 := hkk
          have n16 : L 16 = false := by
            cases hx : L 16 with
            | false => rfl
            | true =>
              have h16x := hx
              have h8x : L 8 = true := hcl 16 _ rfl h16x 8 (by decide)
              have h2 : L 8 = false := hLi
              rw [h8x] at h2; cases h2
          obtain ⟨g, c5, hgb, hz⟩ := hJ.pre 5 (by decide) (hwt 5 (by decide)) n16
          obtain ⟨i, hi4, c7⟩ := hJ.pre 7 (by decide) (hwt 7 (by decide)) n16
          have c5' : ff 5 = _ := c5
          have c7' : ff 7 = _ := c7
          have k1 : (i : Int) < 4 := by omega
          have k0 : (0 : Int) ≤ i := by omega
          go_big_wp2_with fail
          refine hQ _ _ _ ?_ (hJ.pre_id (i := 8) (by decide) HB (hJ.inv.mono (by omega)) ⟨g, i, hi4, rfl, hgb, hz⟩)
          first | rfl | (simp [upd, c5', c7']; done)
        · intro L ff kk ww hkk hJ hcl hLi hwt QQ' hQ
          try dsimp only
          have hkk2 : kk < 18 := hkk
          have n16 : L 16 = false := by
            cases hx : L 16 with
            | false => rfl
            | true =>
              have h16x := hx
              have h9x : L 9 = true := hcl 16 _ rfl h16x 9 (by decide)
              have h2 : L 9 = false := hLi
              rw [h9x] at h2; cases h2
          obtain ⟨g, i, hi4, c8, hgb, hz⟩ := hJ.pre 8 (by decide) (hwt 8 (by decide)) n16
          have c8' : ff 8 = _ := c8
          obtain ⟨y, hy⟩ : ∃ y, ww.cell? ⟨g, i, none⟩ = some (.int .i64 y) := by
            rcases (by omega : i = 0 ∨ i = 1 ∨ i = 2 ∨ i = 3) with rfl | rfl | rfl | rfl <;> exact ⟨_, by rw [Lib.cell_of_heap hz]; rfl⟩
          go_big_wp2_with fail
          refine hQ _ _ _ ?_ (hJ.pre_id (i := 9) (by decide) HB (hJ.inv.mono (by omega)) ⟨y, rfl⟩)
          first | rfl | (simp [upd, c8']; done)
        · intro L ff kk ww hkk hJ hcl hLi hwt QQ' hQ
          try dsimp only
          have hkk2 : kk < 18 := hkk
          have n16 : L 16 = false := by
            cases hx : L 16 with
            | false => rfl
            | true =>
              have h16x := hx
              have h10x : L 10 = true := hcl 16 _ rfl h16x 10 (by decide)
              have h2 : L 10 = false := hLi
              rw [h10x] at h2; cases h2
          obtain ⟨x3, c3⟩ := hJ.pre 3 (by decide) (hwt 3 (by decide)) n16
          obtain ⟨x9, c9⟩ := hJ.pre 9 (by decide) (hwt 9 (by decide)) n16
          have c3' : ff 3 = _ := c3
          have c9' : ff 9 = _ := c9
          have c4 : ff 4 = _ := hJ.pre 4 (by decide) (hwt 4 (by decide)) n16
          go_big_wp2_with fail
          refine hQ _ _ _ ?_ (hJ.pre_id (i := 10) (by decide) HB (hJ.inv.mono (by omega)) ⟨x3, xc, x9, rfl⟩)
          first | rfl | (simp [upd, c3', c9', c4]; done)
        · intro L ff kk ww hkk hJ hcl hLi hwt QQ' hQ
          try dsimp only
          have hkk2 : kk < 18 := hkk
          have n16 : L 16 = false := by
            cases hx : L 16 with
            | false => rfl
            | true =>
              have h16x := hx
              have h11x : L 11 = true := hcl 16 _ rfl h16x 11 (by decide)
              have h2 : L 11 = false := hLi
              rw [h11x] at h2; cases h2
          have n12 : L 12 = false := by
            cases hx : L 12 with
            | false => rfl
            | true =>
              have h12x := hx
              have h11x : L 11 = true := hcl 12 _ rfl h12x 11 (by decide)
              have h2 : L 11 = false := hLi
              rw [h11x] at h2; cases h2
          have n13 : L 13 = false := by
            cases hx : L 13 with
            | false => rfl
            | true =>
              have h13x := hx
              have h12x : L 12 = true := hcl 13 _ rfl h13x 12 (by decide)
              have h11x : L 11 = true := hcl 12 _ rfl h12x 11 (by decide)
              have h2 : L 11 = false := hLi
              rw [h11x] at h2; cases h2
          have n14 : L 14 = false := by
            cases hx : L 14 with
            | false => rfl
            | true =>
              have h14x := hx
              have h12x : L 12 = true := hcl 14 _ rfl h14x 12 (by decide)
              have h11x : L 11 = true := hcl 12 _ rfl h12x 11 (by decide)
              have h2 : L 11 = false := hLi
              rw [h11x] at h2; cases h2
          have n17 : L 17 = false := by
            cases hx : L 17 with
            | false => rfl
            | true =>
              have h17x := hx
              have h14x : L 14 = true := hcl 17 _ rfl h17x 14 (by decide)
              have h12x : L 12 = true := hcl 14 _ rfl h14x 12 (by decide)
              have h11x : L 11 = true := hcl 12 _ rfl h12x 11 (by decide)
              have h2 : L 11 = false := hLi
              rw [h11x] at h2; cases h2
          have h10 : L 10 = true := hwt 10 (by decide)
          have c0 : ff 0 = _ := hJ.pre 0 (by decide) (hwt 0 (by decide)) n16
          obtain ⟨t, c, s, c10⟩ := hJ.pre 10 (by decide) (hwt 10 (by decide)) n16
          have c10' : ff 10 = _ := c10
          have hI := hJ.inv
          have hat5' := hat5.out
          go_big_wp2_with fail
          refine (holdM d p t c s 1000000000 ww hI.leg hI.ok hI.cap).mono ?_
          rintro e wg ⟨⟨dd, q, bb, rfl, hHI, hc2, hmv, hnew, hin2⟩, dg⟩
          have hG := gSold hI.ok hI.offb hI.offx hat5' (by have := hJ.size; omega) (lt_heap hI.box) hHI.out hc2 hmv hnew hin2
          have hI' := (hI.below dg).mono (Q' := Q5 + (kk + 1)) (by omega)
          have hg := grown_below dg b
          clear hin2 hmv hnew dg
          go_big_wp2_with fail
          refine hQ _ _ wg ?_ (hJ.call_op n12 n13 n14 n16 n17 hg HB (fun j v h => h.kept hg) hI' hG)
          first | rfl | (simp [upd, c0, c10']; done)
        · intro L ff kk ww hkk hJ hcl hLi hwt QQ' hQ
          try dsimp only
          have hkk2 : kk < 18 := hkk
          have hm : L 11 = true := hwt 11 (by decide)
          go_big_wp2_with fail
          refine hQ _ _ _ ?_ (hJ.mv hm (hJ.inv.mono (by omega)))
          first | rfl | (simp [upd]; done)
        · intro L ff kk ww hkk hJ hcl hLi hwt QQ' hQ
          try dsimp only
          have hkk2 : kk < 18 := hkk
          have n16 : L 16 = false := by
            cases hx : L 16 with
            | false => rfl
            | true =>
              have h16x := hx
              have h13x : L 13 = true := hcl 16 _ rfl h16x 13 (by decide)
              have h2 : L 13 = false := hLi
              rw [h13x] at h2; cases h2
          have h1 : L 12 = true := hwt 12 (by decide)
          have hm : L 11 = true := hcl 12 _ rfl h1 11 (by decide)
          obtain ⟨dd, q, bb, c6, hN⟩ := hJ.ex0 hm h1 n16 (hJ.inv.mono (by omega))
          have c6' : ff 12 = _ := c6
          go_big_wp2_with fail
          refine hQ _ _ _ ?_ hN
          first | rfl | (simp [upd, c6']; done)
        · intro L ff kk ww hkk hJ hcl hLi hwt QQ' hQ
          try dsimp only
          have hkk2 : kk < 18 := hkk
          have h1 : L 12 = true := hwt 12 (by decide)
          have hm : L 11 = true := hcl 12 _ rfl h1 11 (by decide)
          obtain ⟨dd, q, bb, c5, c6, -⟩ := hJ.bool hm
          have c6' : ff 12 = _ := c6 h1
          clear c6
          have hN := hJ.ex1 hm c5 (.inl rfl) (hJ.inv.mono (by omega))
          clear c5
          go_big_wp2_with fail
          refine hQ _ _ _ ?_ hN
          first | rfl | (simp [upd, c6']; done)
        · intro L ff kk ww hkk hJ hcl hLi hwt QQ' hQ
          try dsimp only
          have hkk2 : kk < 18 := hkk
          have n16 : L 16 = false := by
            cases hx : L 16 with
            | false => rfl
            | true =>
              have h16x := hx
              have h15x : L 15 = true := hcl 16 _ rfl h16x 15 (by decide)
              have h2 : L 15 = false := hLi
              rw [h15x] at h2; cases h2
          have hg := World.grownBy_alloc ww (.cells ZLeg 25) (some b)
          have hN := hJ.alloc hLi n16 (fun j v h => h.kept hg) (fun lo hi dd q bb _ h => h.kept hg) ((hJ.inv.below ((Below.refl _ _).alloc (Nat.le_refl _) _)).mono (by omega))
          go_big_wp2_with fail
          exact hQ _ _ _ rfl hN
        · intro L ff kk ww hkk hJ hcl hLi hwt QQ' hQ
          try dsimp only
          have hkk2 : kk < 18 := hkk
          have hm : L 11 = true := hwt 11 (by decide)
          obtain ⟨ybx, dd, q, c9, c7, hN9, hz, hst⟩ := hJ.store hm (hwt 13 (by decide)) (hwt 15 (by decide)) hLi
          have c9' : ff 15 = _ := c9
          have c7' : ff 13 = _ := c7
          have hN := hst undef (fun lo hi bb _ hd h => h.row (LegC dd q) hN9 hd) ((hJ.inv.row (LegC dd q) (by have := lt_heap inv5.out.box; omega) (inv5.out.leg.off_new hN9)).mono (by omega))
          rw [c9', c7']
          unfold LegV
          go_big_wp2_with (first
            | (refine wpList_store_row rfl 25 _ _ rfl ybx (LegC dd q) rfl rfl 25 ZLeg hz legSize rfl (leg_one dd q) ?_)
            | fail)
          refine hQ _ undef _ ?_ hN
          first | rfl | (simp [upd, c9', c7', LegV]; done)
        · intro L ff kk ww hkk hJ hcl hLi hwt QQ' hQ
          try dsimp only
          have hkk2 : kk < 18 := hkk
          have h3 : L 14 = true := hwt 14 (by decide)
          have h1 : L 12 = true := hcl 14 _ rfl h3 12 (by decide)
          have hm : L 11 = true := hcl 12 _ rfl h1 11 (by decide)
          obtain ⟨dd, q, bb, c5, -, c8⟩ := hJ.bool hm
          have c8' : ff 14 = _ := c8 h3
          clear c8
          have hN := hJ.ex1 hm c5 (.inr rfl) (hJ.inv.mono (by omega))
          clear c5
          go_big_wp2_with fail
          refine hQ _ _ _ ?_ hN
          first | rfl | (simp [upd, c8']; done)
      case hend =>
      intro L ff kk w7 hkb hL hJ
      try dsimp only
      have hkb' : kk ≤ 18 := hkb
      obtain ⟨ybx, dd, q, bb, lo, hi2, r1, sb, sl, sh, sd, r6, hG, -, -, -, r11⟩ := hJ.done (hL 16 (by decide))
      have e17 : ff 17 = _ := r11 (hL 17 (by decide))
      have r1' : ff 15 = _ := r1
      rw [r1', e17]
      have inv7 := Lib.hid (hJ.inv.mono (Q' := Q5 + 20) (by omega))
      have HG7 := Lib.hid hG
      have HB7 : Hid (LegBox w7 ybx dd q) := r6
      clear r1 r1' e17 r11 hJ hL hG r6
      cases bb with
      | false =>
        go_wp2_with fail
        go_roundw
        case rel => exact ⟨m - 1, d, p, by first | rfl | go_num, by omega, (inv7.out).far ⟨rfl, rfl, rfl, Nat.le_refl _, fun _ _ _ => rfl⟩ ((inv7.out).rd.mono (by omega))⟩
        case measure => simp [intOf]; omega
      | true =>
      have hn1 := HG7.out.2.2.2.2.2.2 rfl
      have hn6 := HG7.out.1.2.2.1.1
      have y0 := (HB7.out).c0
      have y1 := (HB7.out).c1
      have y2 := (HB7.out).c2
      have y3 := (HB7.out).c3
      have y4 := (HB7.out).c4
      have y5 := (HB7.out).c5
      have y6 := (HB7.out).c6
      have y7 := (HB7.out).c7
      have y8 := (HB7.out).c8
      have y9 := (HB7.out).c9
      have inv8 := Lib.hid (inv7.out.put HG7.out.2.1 HG7.out.1 HG7.out.2.2.1 HG7.out.2.2.2.1 HG7.out.2.2.2.2.1)
      go_wp2_with (first
        | (refine wpList_store_row rfl 25 _ _ rfl bx (LegC dd q) rfl rfl 25 (LegC d p) inv7.out.box legSize rfl (leg_one dd q) ?_)
        | fail)
      clear y0 y1 y2 y3 y4 y5 y6 y7 y8 y9
      generalize w7.setRow bx (LegC dd q) = w8 at *
      obtain ⟨q8, hq8, hr8⟩ := inv8.out.rd
      refine (pick B b q8 2 w8 hr8 (by omega) (by omega) (by omega)).mono ?_
      rintro e w9 ⟨x9, l9, u9, rfl, hr9, hg9, -⟩
      have inv9 := Lib.hid (inv8.out.far hg9 (Q' := Q5 + 21) ⟨_, (by omega), hr9⟩)
      clear hr8 hr9 hg9
      by_cases hx9 : x9 = 0
      rotate_left
      · have zx : (x9 == 0) = false := by simpa using hx9
        have zx2 : decide (x9 = 0) = false := decide_eq_false hx9
        go_wp2_with fail
        go_roundw
        case rel => exact ⟨m - 1, dd, q, by first | rfl | go_num, by omega, (inv9.out).far ⟨rfl, rfl, rfl, Nat.le_refl _, fun _ _ _ => rfl⟩ ((inv9.out).rd.mono (by omega))⟩
        case measure => simp [intOf]; omega
      have zx : (x9 == 0) = true := by simpa using hx9
      have zx2 : decide (x9 = 0) = true := decide_eq_true hx9
      obtain ⟨bH, oH, eH', hbH, -⟩ := inv9.out.leg.2.2.2.cells (by omega)
      have eH := Lib.hid eH'
      clear eH' hbH
      generalize hQ10 : Q5 + 21 = Q10 at *
      have HQ10 := Lib.hid hQ10
      have hQ10b : Q10 ≤ p0 + 400 := by omega
      have hQ10c : Q10 + 20 ≤ p0 + 300 - 60 * (m - 1) := by omega
      clear hQ10
      go_upto_region 10 with fail
      refine wp_region_invK (by kernel_rfl) (fun k L f W => T1 11 bx (fun k W => SoldInv W0 B (Q10 + k) b bx dd q W) (SKeep b bx bH oH dd q) (RKeep W0 B (Q10 + 20) b bx dd q) k L f W) (by kernel_rfl) (T1.start inv9.out.drew) ?_
      apply Exists.intro
      apply And.intro
      · intro f
        simp only [over, List.set]
        exact rfl
      refine ⟨?hops, ?hend⟩
      case hops =>
        refine EachOp.cons ?_ (EachOp.cons ?_ (EachOp.cons ?_ (EachOp.cons ?_ (EachOp.cons ?_ (EachOp.cons ?_ (EachOp.cons ?_ (EachOp.cons ?_ (EachOp.cons ?_ (EachOp.cons ?_ (EachOp.cons ?_ (EachOp.cons ?_ (EachOp.cons ?_ (EachOp.nil)))))))))))))
        · intro L ff kk ww hkk hJ hcl hLi hwt QQ' hQ
          try dsimp only
          have hkk2 : kk < 13 := hkk
          have n11 : L 11 = false := by
            cases hx : L 11 with
            | false => rfl
            | true =>
              have h11x := hx
              have h0x : L 0 = true := hcl 11 _ rfl h11x 0 (by decide)
              have h2 : L 0 = false := hLi
              rw [h0x] at h2; cases h2
          have n12 : L 12 = false := by
            cases hx : L 12 with
            | false => rfl
            | true =>
              have h12x := hx
              have h0x : L 0 = true := hcl 12 _ rfl h12x 0 (by decide)
              have h2 : L 0 = false := hLi
              rw [h0x] at h2; cases h2
          have y0 := ((hJ.inv n11 n12).box).c0
          have y1 := ((hJ.inv n11 n12).box).c1
          have y2 := ((hJ.inv n11 n12).box).c2
          have y3 := ((hJ.inv n11 n12).box).c3
          have y4 := ((hJ.inv n11 n12).box).c4
          have y5 := ((hJ.inv n11 n12).box).c5
          have y6 := ((hJ.inv n11 n12).box).c6
          have y7 := ((hJ.inv n11 n12).box).c7
          have y8 := ((hJ.inv n11 n12).box).c8
          have y9 := ((hJ.inv n11 n12).box).c9
          go_big_wp2_with fail
          refine hQ _ _ _ ?_ (hJ.pre_op (i := 0) (by decide) n11 n12 ((hJ.inv n11 n12).mono (by omega)) (fun j v h => h) rfl)
          first | rfl | (simp [upd]; done)
        · intro L ff kk ww hkk hJ hcl hLi hwt QQ' hQ
          try dsimp only
          have hkk2 : kk < 13 := hkk
          have n11 : L 11 = false := by
            cases hx : L 11 with
            | false => rfl
            | true =>
              have h11x := hx
              have h10x : L 10 = true := hcl 11 _ rfl h11x 10 (by decide)
              have h9x : L 9 = true := hcl 10 _ rfl h10x 9 (by decide)
              have h8x : L 8 = true := hcl 9 _ rfl h9x 8 (by decide)
              have h2x : L 2 = true := hcl 8 _ rfl h8x 2 (by decide)
              have h1x : L 1 = true := hcl 2 _ rfl h2x 1 (by decide)
              have h2 : L 1 = false := hLi
              rw [h1x] at h2; cases h2
          have n12 : L 12 = false := by
            cases hx : L 12 with
            | false => rfl
            | true =>
              have h12x := hx
              have h1x : L 1 = true := hcl 12 _ rfl h12x 1 (by decide)
              have h2 : L 1 = false := hLi
              rw [h1x] at h2; cases h2
          go_big_wp2_with fail
          refine hQ _ _ _ ?_ (hJ.pre_op (i := 1) (by decide) n11 n12 ((hJ.inv n11 n12).mono (by omega)) (fun j v h => h) rfl)
          first | rfl | (simp [upd]; done)
        · intro L ff kk ww hkk hJ hcl hLi hwt QQ' hQ
          try dsimp only
          have hkk2 : kk < 13 := hkk
          have n11 : L 11 = false := by
            cases hx : L 11 with
            | false => rfl
            | true =>
              have h11x := hx
              have h10x : L 10 = true := hcl 11 _ rfl h11x 10 (by decide)
              have h9x : L 9 = true := hcl 10 _ rfl h10x 9 (by decide)
              have h8x : L 8 = true := hcl 9 _ rfl h9x 8 (by decide)
              have h2x : L 2 = true := hcl 8 _ rfl h8x 2 (by decide)
              have h2 : L 2 = false := hLi
              rw [h2x] at h2; cases h2
          have n12 : L 12 = false := by
            cases hx : L 12 with
            | false => rfl
            | true =>
              have h12x := hx
              have h2x : L 2 = true := hcl 12 _ rfl h12x 2 (by decide)
              have h2 : L 2 = false := hLi
              rw [h2x] at h2; cases h2
          have c1 : ff 1 = _ := hJ.pre 1 (by decide) (hwt 1 (by decide)) n11
          have x9 : ww.cell? ⟨bx, 9, none⟩ = some (.slice (some ⟨bH, oH, none⟩) dd.nH q.cH) := by rw [← eH.out]; exact (hJ.inv n11 n12).box.c9
          go_big_wp2_with fail
          refine hQ _ _ _ ?_ (hJ.pre_op (i := 2) (by decide) n11 n12 ((hJ.inv n11 n12).mono (by omega)) (fun j v h => h) rfl)
          first | rfl | (simp [upd, c1]; done)
        · intro L ff kk ww hkk hJ hcl hLi hwt QQ' hQ
          try dsimp only
          have hkk2 : kk < 13 := hkk
          have n11 : L 11 = false := by
            cases hx : L 11 with
            | false => rfl
            | true =>
              have h11x := hx
              have h10x : L 10 = true := hcl 11 _ rfl h11x 10 (by decide)
              have h9x : L 9 = true := hcl 10 _ rfl h10x 9 (by decide)
              have h8x : L 8 = true := hcl 9 _ rfl h9x 8 (by decide)
              have h7x : L 7 = true := hcl 8 _ rfl h8x 7 (by decide)
              have h3x : L 3 = true := hcl 7 _ rfl h7x 3 (by decide)
              have h2 : L 3 = false := hLi
              rw [h3x] at h2; cases h2
          have n12 : L 12 = false := by
            cases hx : L 12 with
            | false => rfl
            | true =>
              have h12x := hx
              have h3x : L 3 = true := hcl 12 _ rfl h12x 3 (by decide)
              have h2 : L 3 = false := hLi
              rw [h3x] at h2; cases h2
          go_big_wp2_with fail
          refine hQ _ _ _ ?_ (hJ.pre_op (i := 3) (by decide) n11 n12 ((hJ.inv n11 n12).mono (by omega)) (fun j v h => h) rfl)
          first | rfl | (simp [upd]; done)
        · intro L ff kk ww hkk hJ hcl hLi hwt QQ' hQ
          try dsimp only
          have hkk2 : kk < 13 := hkk
          have n11 : L 11 = false := by
            cases hx : L 11 with
            | false => rfl
            | true =>
              have h11x := hx
              have h10x : L 10 = true := hcl 11 _ rfl h11x 10 (by decide)
              have h9x : L 9 = true := hcl 10 _ rfl h10x 9 (by decide)
              have h8x : L 8 = true := hcl 9 _ rfl h9x 8 (by decide)
              have h7x : L 7 = true := hcl 8 _ rfl h8x 7 (by decide)
              have h6x : L 6 = true := hcl 7 _ rfl h7x 6 (by decide)
              have h5x : L 5 = true := hcl 6 _ rfl h6x 5 (by decide)
              have h4x : L 4 = true := hcl 5 _ rfl h5x 4 (by decide)
              have h2 : L 4 = false := hLi
              rw [h4x] at h2; cases h2
          have n12 : L 12 = false := by
            cases hx : L 12 with
            | false => rfl
            | true =>
              have h12x := hx
              have h4x : L 4 = true := hcl 12 _ rfl h12x 4 (by decide)
              have h2 : L 4 = false := hLi
              rw [h4x] at h2; cases h2
          go_big_wp2_with fail
          refine hQ _ _ _ ?_ (hJ.pre_op (i := 4) (by decide) n11 n12 ((hJ.inv n11 n12).mono (by omega)) (fun j v h => h) rfl)
          first | rfl | (simp [upd]; done)
        · intro L ff kk ww hkk hJ hcl hLi hwt QQ' hQ
          try dsimp only
          have hkk2 : kk < 13 := hkk
          have n11 : L 11 = false := by
            cases hx : L 11 with
            | false => rfl
            | true =>
              have h11x := hx
              have h10x : L 10 = true := hcl 11 _ rfl h11x 10 (by decide)
              have h9x : L 9 = true := hcl 10 _ rfl h10x 9 (by decide)
              have h8x : L 8 = true := hcl 9 _ rfl h9x 8 (by decide)
              have h7x : L 7 = true := hcl 8 _ rfl h8x 7 (by decide)
              have h6x : L 6 = true := hcl 7 _ rfl h7x 6 (by decide)
              have h5x : L 5 = true := hcl 6 _ rfl h6x 5 (by decide)
              have h2 : L 5 = false := hLi
              rw [h5x] at h2; cases h2
          have n12 : L 12 = false := by
            cases hx : L 12 with
            | false => rfl
            | true =>
              have h12x := hx
              have h5x : L 5 = true := hcl 12 _ rfl h12x 5 (by decide)
              have h2 : L 5 = false := hLi
              rw [h5x] at h2; cases h2
          have c4 : ff 4 = _ := hJ.pre 4 (by decide) (hwt 4 (by decide)) n11
          have x9 : ww.cell? ⟨bx, 9, none⟩ = some (.slice (some ⟨bH, oH, none⟩) dd.nH q.cH) := by rw [← eH.out]; exact (hJ.inv n11 n12).box.c9
          go_big_wp2_with fail
          refine hQ _ _ _ ?_ (hJ.pre_op (i := 5) (by decide) n11 n12 ((hJ.inv n11 n12).mono (by omega)) (fun j v h => h) rfl)
          first | rfl | (simp [upd, c4]; done)
        · intro L ff kk ww hkk hJ hcl hLi hwt QQ' hQ
          try dsimp only
          have hkk2 : kk < 13 := hkk
          have n11 : L 11 = false := by
            cases hx : L 11 with
            | false => rfl
            | true =>
              have h11x := hx
              have h10x : L 10 = true := hcl 11 _ rfl h11x 10 (by decide)
              have h9x : L 9 = true := hcl 10 _ rfl h10x 9 (by decide)
              have h8x : L 8 = true := hcl 9 _ rfl h9x 8 (by decide)
              have h7x : L 7 = true := hcl 8 _ rfl h8x 7 (by decide)
              have h6x : L 6 = true := hcl 7 _ rfl h7x 6 (by decide)
              have h2 : L 6 = false := hLi
              rw [h6x] at h2; cases h2
          have n12 : L 12 = false := by
            cases hx : L 12 with
            | false => rfl
            | true =>
              have h12x := hx
              have h6x : L 6 = true := hcl 12 _ rfl h12x 6 (by decide)
              have h2 : L 6 = false := hLi
              rw [h6x] at h2; cases h2
          have c5 : ff 5 = _ := hJ.pre 5 (by decide) (hwt 5 (by decide)) n11
          go_big_wp2_with fail
          refine hQ _ _ _ ?_ (hJ.pre_op (i := 6) (by decide) n11 n12 ((hJ.inv n11 n12).mono (by omega)) (fun j v h => h) rfl)
          first | rfl | (simp [upd, c5]; done)
        · intro L ff kk ww hkk hJ hcl hLi hwt QQ' hQ
          try dsimp only
          have hkk2 : kk < 13 := hkk
          have n11 : L 11 = false := by
            cases hx : L 11 with
            | false => rfl
            | true =>
              have h11x := hx
              have h10x : L 10 = true := hcl 11 _ rfl h11x 10 (by decide)
              have h9x : L 9 = true := hcl 10 _ rfl h10x 9 (by decide)
              have h8x : L 8 = true := hcl 9 _ rfl h9x 8 (by decide)
              have h7x : L 7 = true := hcl 8 _ rfl h8x 7 (by decide)
              have h2 : L 7 = false := hLi
              rw [h7x] at h2; cases h2
          have n12 : L 12 = false := by
            cases hx : L 12 with
            | false => rfl
            | true =>
              have h12x := hx
              have h7x : L 7 = true := hcl 12 _ rfl h12x 7 (by decide)
              have h2 : L 7 = false := hLi
              rw [h7x] at h2; cases h2
          have c3 : ff 3 = _ := hJ.pre 3 (by decide) (hwt 3 (by decide)) n11
          have c6 : ff 6 = _ := hJ.pre 6 (by decide) (hwt 6 (by decide)) n11
          obtain ⟨qq, hqq, hrq⟩ := (hJ.inv n11 n12).rd
          go_big_wp2_with fail
          refine (pick B b qq (dd.nH : Int) ww hrq (by omega) (by omega) (by omega)).mono ?_
          rintro e wp ⟨xp, lp, up, rfl, hrp, hgp, -⟩
          obtain ⟨ip, rfl⟩ := Int.eq_ofNat_of_zero_le lp
          have hI' := (hJ.inv n11 n12).far (Q' := Q10 + (kk + 1)) hgp ⟨_, (by omega), hrp⟩
          clear hrp hrq
          go_big_wp2_with fail
          refine hQ _ _ wp ?_ (hJ.pre_op (i := 7) (by decide) n11 n12 hI' (fun j v h => h) ⟨ip, (by omega), rfl⟩)
          first | rfl | (simp [upd, c3, c6]; done)
        · intro L ff kk ww hkk hJ hcl hLi hwt QQ' hQ
          try dsimp only
          have hkk2 : kk < 13 := hkk
          have n11 : L 11 = false := by
            cases hx : L 11 with
            | false => rfl
            | true =>
              have h11x := hx
              have h10x : L 10 = true := hcl 11 _ rfl h11x 10 (by decide)
              have h9x : L 9 = true := hcl 10 _ rfl h10x 9 (by decide)
              have h8x : L 8 = true := hcl 9 _ rfl h9x 8 (by decide)
              have h2 : L 8 = false := hLi
              rw [h8x] at h2; cases h2
          have n12 : L 12 = false := by
            cases hx : L 12 with
            | false => rfl
            | true =>
              have h12x := hx
              have h8x : L 8 = true := hcl 12 _ rfl h12x 8 (by decide)
              have h2 : L 8 = false := hLi
              rw [h8x] at h2; cases h2
          have c2 : ff 2 = _ := hJ.pre 2 (by decide) (hwt 2 (by decide)) n11
          obtain ⟨i, hi, c7⟩ := hJ.pre 7 (by decide) (hwt 7 (by decide)) n11
          have c7' : ff 7 = _ := c7
          have k1 : (i : Int) < (dd.nH : Int) := by omega
          have k0 : (0 : Int) ≤ i := by omega
          go_big_wp2_with fail
          refine hQ _ _ _ ?_ (hJ.pre_op (i := 8) (by decide) n11 n12 ((hJ.inv n11 n12).mono (by omega)) (fun j v h => h) ⟨i, hi, rfl⟩)
          first | rfl | (simp [upd, c2, c7']; done)
        · intro L ff kk ww hkk hJ hcl hLi hwt QQ' hQ
          try dsimp only
          have hkk2 : kk < 13 := hkk
          have n11 : L 11 = false := by
            cases hx : L 11 with
            | false => rfl
            | true =>
              have h11x := hx
              have h10x : L 10 = true := hcl 11 _ rfl h11x 10 (by decide)
              have h9x : L 9 = true := hcl 10 _ rfl h10x 9 (by decide)
              have h2 : L 9 = false := hLi
              rw [h9x] at h2; cases h2
          have n12 : L 12 = false := by
            cases hx : L 12 with
            | false => rfl
            | true =>
              have h12x := hx
              have h9x : L 9 = true := hcl 12 _ rfl h12x 9 (by decide)
              have h2 : L 9 = false := hLi
              rw [h9x] at h2; cases h2
          obtain ⟨i, hi, c8⟩ := hJ.pre 8 (by decide) (hwt 8 (by decide)) n11
          have c8' : ff 8 = _ := c8
          go_big_wp2_with fail
          refine hQ _ _ _ ?_ (hJ.pre_op (i := 9) (by decide) n11 n12 ((hJ.inv n11 n12).mono (by omega)) (fun j v h => h) ⟨i, hi, rfl⟩)
          first | rfl | (simp [upd, c8']; done)
        · intro L ff kk ww hkk hJ hcl hLi hwt QQ' hQ
          try dsimp only
          have hkk2 : kk < 13 := hkk
          have n11 : L 11 = false := by
            cases hx : L 11 with
            | false => rfl
            | true =>
              have h11x := hx
              have h10x : L 10 = true := hcl 11 _ rfl h11x 10 (by decide)
              have h2 : L 10 = false := hLi
              rw [h10x] at h2; cases h2
          have n12 : L 12 = false := by
            cases hx : L 12 with
            | false => rfl
            | true =>
              have h12x := hx
              have h10x : L 10 = true := hcl 12 _ rfl h12x 10 (by decide)
              have h2 : L 10 = false := hLi
              rw [h10x] at h2; cases h2
          obtain ⟨i, hi, c9⟩ := hJ.pre 9 (by decide) (hwt 9 (by decide)) n11
          have c9' : ff 9 = _ := c9
          have hgx := ((hJ.inv n11 n12).leg.2.2.2).at (eH.out) i hi
          go_big_wp2_with fail
          refine hQ _ _ _ ?_ (hJ.pre_op (i := 10) (by decide) n11 n12 ((hJ.inv n11 n12).mono (by omega)) (fun j v h => h) ⟨dd.t i, rfl⟩)
          first | rfl | (simp [upd, c9']; done)
        · intro L ff kk ww hkk hJ hcl hLi hwt QQ' hQ
          try dsimp only
          have hkk2 : kk < 13 := hkk
          have n12 : L 12 = false := by
            cases hx : L 12 with
            | false => rfl
            | true =>
              have h12x := hx
              have h11x : L 11 = true := hcl 12 _ rfl h12x 11 (by decide)
              have h2 : L 11 = false := hLi
              rw [h11x] at h2; cases h2
          have n11 : L 11 = false := hLi
          have c0 : ff 0 = _ := hJ.pre 0 (by decide) (hwt 0 (by decide)) n11
          obtain ⟨x, c10⟩ := hJ.pre 10 (by decide) (hwt 10 (by decide)) n11
          have c10' : ff 10 = _ := c10
          have hI := hJ.inv n11 n12
          go_big_wp2_with fail
          refine (keepM dd q x ww hI.leg hI.ok hI.cap).mono ?_
          rintro e wg ⟨⟨q2, rfl, hin2, hc2, hmv⟩, dg⟩
          have hR := rSold hI hin2 hc2 hmv dg (Q' := Q10 + 20) (by omega)
          clear hin2 hmv dg
          go_big_wp2_with fail
          refine hQ _ _ wg ?_ (hJ.call_op n12 hR)
          first | rfl | (simp [upd, c0, c10']; done)
        · intro L ff kk ww hkk hJ hcl hLi hwt QQ' hQ
          try dsimp only
          have hkk2 : kk < 13 := hkk
          obtain ⟨d2, q2, c11, hR, hst⟩ := hJ.store_op (hwt 11 (by decide)) hLi
          have c11' : ff 11 = _ := c11
          have hN := hst undef
          rw [c11']
          unfold LegV
          go_big_wp2_with (first
            | (refine wpList_store_row rfl 25 _ _ rfl bx (LegC d2 q2) rfl rfl 25 (LegC dd q) hR.1.box legSize rfl (leg_one d2 q2) ?_)
            | fail)
          refine hQ _ undef _ ?_ hN
          first | rfl | (simp [upd, c11', LegV]; done)
      case hend =>
      intro L ff kk ww hkb hL hJ
      try dsimp only
      obtain ⟨d2, q2, w9, hR, rfl⟩ := hJ.done (hL 12 (by decide))
      have inv11 := Lib.hid (hR.1.put hR.2.1 hR.2.2.1 hR.2.2.2.1 hR.2.2.2.2.1 hR.2.2.2.2.2)
      clear hJ hR hL
      generalize w9.setRow bx (LegC d2 q2) = w11 at *
      go_wp2_with fail
      go_roundw
      case rel => exact ⟨m - 1, d2, q2, by first | rfl | go_num, by omega, (inv11.out).far ⟨rfl, rfl, rfl, Nat.le_refl _, fun _ _ _ => rfl⟩ ((inv11.out).rd.mono (by omega))⟩
      case measure => simp [intOf]; omega
    · obtain rfl : m = 0 := by omega
      have HOK := Lib.hid hI.out.ok
      have hres : Hid (wr.heap[w.heap.size]? = some (.cells #[.string ⟨#[]⟩, .string ⟨#[]⟩, .string ⟨#[]⟩, .int .i64 0, .int .i64 0, .int .i64 0, .slice none 0 0, .slice none 0 0, .slice none 0 0, .slice none 0 0] 25 (0, 0))) := (hI.out.gr.block w.heap.size (by rw [← HW0.out]; simp) (fun e => by have e' : w.heap.size = b := (by cases e; rfl); omega)).trans (by rw [← HW0.out]; exact heap_alloc_new w _)
      have y0 := (hI.out.box).c0
      have y1 := (hI.out.box).c1
      have y2 := (hI.out.box).c2
      have y3 := (hI.out.box).c3
      have y4 := (hI.out.box).c4
      have y5 := (hI.out.box).c5
      have y6 := (hI.out.box).c6
      have y7 := (hI.out.box).c7
      have y8 := (hI.out.box).c8
      have y9 := (hI.out.box).c9
      go_wp2_with fail
      refine (copyM d p wr hI.out.leg HOK.out.2.1.2.1 HOK.out.2.1.2.2.1 (by have := HOK.out.2.1.2.2.2.2.1; omega) (by have := HOK.out.2.1.2.2.2.2.1; omega) (by have := HOK.out.2.2.1.1; omega)).mono ?_
      rintro e wc ⟨pc, rfl, hnew, dc⟩
      have R4h := Lib.hid ((dc.block _ (lt_heap hres.out)).trans hres.out)
      have HNEW := Lib.hid hnew
      have hwlt := lt_heap hres.out
      have HRD := Lib.hid (hI.out.rd.below dc)
      have HGR := Lib.hid (grown_trans hI.out.gr (grown_below dc b))
      clear y0 y1 y2 y3 y4 y5 y6 y7 y8 y9 dc hnew
      go_wp2_with (first
        | (refine wpList_store_row rfl 25 _ _ rfl w.heap.size (LegC d pc) rfl rfl 25 #[.string ⟨#[]⟩, .string ⟨#[]⟩, .string ⟨#[]⟩, .int .i64 0, .int .i64 0, .int .i64 0, .slice none 0 0, .slice none 0 0, .slice none 0 0, .slice none 0 0] R4h.out legSize rfl (leg_one1 _ _) ?_)
        | fail)
      have hfin : LegBox (wc.setRow w.heap.size (LegC d pc)) w.heap.size d pc := setRow_heap wc w.heap.size _ _ _ _ R4h.out
      have gr := grown_setRow wc w.heap.size (LegC d pc)
      have hpost : Hid (DrawnSold B (p0 + 301) b w (.returned (LegV d pc)) (wc.setRow w.heap.size (LegC d pc))) := by
        refine ⟨d, pc, rfl, HOK.out, (HNEW.out.far gr (fun k e => by cases e; omega)).mono (by omega), (HRD.out.mono (by omega)).far gr (fun k e => by cases e; omega), ?_⟩
        have g1 : w.grownBy W0 (some b) := by rw [← HW0.out]; exact World.grownBy_alloc w _ _
        have g2 := grown_trans g1 HGR.out
        exact ⟨gr.os.trans g2.os, gr.tape.trans g2.tape, gr.output.trans g2.output, Nat.le_trans g2.size gr.size, fun k hk hr => (gr.block k (Nat.lt_of_lt_of_le hk g2.size) (fun e => by have e' : k = w.heap.size := (by cases e; rfl); omega)).trans (g2.block k hk hr)⟩
      generalize wc.setRow w.heap.size (LegC d pc) = W9 at *
      have y0 := (hfin).c0
      have y1 := (hfin).c1
      have y2 := (hfin).c2
      have y3 := (hfin).c3
      have y4 := (hfin).c4
      have y5 := (hfin).c5
      have y6 := (hfin).c6
      have y7 := (hfin).c7
      have y8 := (hfin).c8
      have y9 := (hfin).c9
      clear hfin gr
      refine bodyPost_ret (v := LegV d pc) ?_ rfl hpost.out
      rw [LegV_eq]
      unfold LegC
      rw [results_cell1 rfl]
      go_simp
      all_goals rfl
end Go.Proofs.YtdaccpffdnbkiaaGreatDoor
