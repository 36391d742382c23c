/-
  A leg as it is drawn, before anything is sold or held.
-/
import Derived.Test.YtdaccpffdnbkiaaGreatDoorJ40
import Derived.Deep.CutRange
import Derived.OwnWalk
import Derived.Deep.DeepMust
namespace Go.Proofs.YtdaccpffdnbkiaaGreatDoor
open Go.RowKit
set_option linter.unusedVariables false
set_option linter.unusedSimpArgs false

def LimF (cap : Int) (k : Nat) (L : Nat → Int) : Prop := L 0 = cap ∧ ∀ i, i < k → (0 ≤ L i ∧ L i ≤ cap) ∧ (0 < i → L i ≤ L (i - 1))
def LimB (k : Nat) (L : Nat → Int) : Prop := ∀ i, i < k → (0 ≤ L i ∧ L i ≤ 1000) ∧ (0 < i → L i ≤ L (i - 1))
theorem snoc_limb {x : Int} {k : Nat} {L : Nat → Int} (h : LimB k L) (hk : 1 ≤ k) (hx : x ≤ L (k - 1)) (h0 : 0 ≤ x) : LimB (k + 1) (snocF L k x) := by
  intro i hi
  rcases Nat.lt_or_ge i k with q | q
  · have := h i q
    have e1 : snocF L k x i = L i := by simp [snocF, q]
    have e2 : snocF L k x (i - 1) = L (i - 1) := by simp [snocF, show i - 1 < k by omega]
    rw [e1, e2]; exact this
  · obtain rfl : i = k := by omega
    have e1 : snocF L i x i = x := by simp [snocF]
    have e2 : snocF L i x (i - 1) = L (i - 1) := by simp [snocF, show i - 1 < i by omega]
    have h3 := (h (i - 1) (by omega)).1
    rw [e1, e2]; exact ⟨⟨h0, by omega⟩, fun _ => hx⟩
def Fresh (nm fr dst : ByteArray) (dep : Int) (d : LegD) : Prop := ∃ arr cap L nB Bz, d = mkD nm fr dst dep arr cap 3 L nB Bz ∧ (dep + 1 ≤ arr ∧ arr ≤ dep + 6) ∧ (1 ≤ cap ∧ cap ≤ 6) ∧ LimF cap 3 L ∧ (1 ≤ nB ∧ nB ≤ 3) ∧ LimB nB Bz
def DrawnLeg (B Q b : Nat) (nm fr dst : ByteArray) (dep : Int) (w : World) (e : Ending) (w' : World) : Prop := ∃ d p', e = .returned (LegV d p') ∧ Hid (Fresh nm fr dst dep d) ∧ LegIn w' d p' ∧ LegOff b d p' ∧ d.nH ≤ p'.cH ∧ RdTo B Q b w' ∧ w.grownBy w' (some b)
theorem snoc_lim {cap x : Int} {k : Nat} {L : Nat → Int} (h : LimF cap k L) (hk : 1 ≤ k) (hx : x ≤ L (k - 1)) (h0 : 0 ≤ x) (hc : x ≤ cap) : LimF cap (k + 1) (snocF L k x) := by
  refine ⟨by simp [snocF, show 0 < k from hk, h.1], fun i hi => ?_⟩
  rcases Nat.lt_or_ge i k with q | q
  · have := h.2 i q
    have e1 : snocF L k x i = L i := by simp [snocF, q]
    have e2 : snocF L k x (i - 1) = L (i - 1) := by simp [snocF, show i - 1 < k by omega]
    rw [e1, e2]; exact this
  · obtain rfl : i = k := by omega
    have e1 : snocF L i x i = x := by simp [snocF]
    have e2 : snocF L i x (i - 1) = L (i - 1) := by simp [snocF, show i - 1 < i by omega]
    rw [e1, e2]; exact ⟨⟨h0, hc⟩, fun _ => hx⟩
set_option maxRecDepth 100000 in
set_option maxHeartbeats 8000000 in
theorem drawLeg (B b p : Nat) (nm fr dst : ByteArray) (dep : Int) (w : World) (hr : Rd B w b p) (hp : p ≤ 100000000) (hd : 0 ≤ dep ∧ dep ≤ 1000) :
    Calls Tryz.prog 54 #[.pointer (some ⟨b, 0, none⟩), .string nm, .string fr, .string dst, .int .i64 dep] w (DrawnLeg B (p + 20) b nm fr dst dep w) := by
  go_enter Tryz.func54, Tryz.ntmps54
  go_wp2_with fail
  refine (pick B b p 6 _ (rd_alloc hr _) (by omega) (by omega) (by omega)).mono ?_
  rintro e w1 ⟨x1, l1, u1, rfl, hr1, hg1, -⟩
  have e1 : IntKind.i64.wrap (1 + x1) = 1 + x1 := IntWalk.i64_in _ (by omega)
  have e2 : IntKind.i64.wrap (dep + 1) = dep + 1 := IntWalk.i64_in _ (by omega)
  go_wp2_with fail
  refine (pick B b _ 6 _ hr1 (by omega) (by omega) (by omega)).mono ?_
  rintro e w2 ⟨x2, l2, u2, rfl, hr2, hg2, -⟩
  have e3 : IntKind.i64.wrap (dep + 1 + x2) = dep + 1 + x2 := IntWalk.i64_in _ (by omega)
  go_wp2_with fail
  refine (pick B b _ 900 _ (rd_alloc (rd_alloc hr2 _) _) (by omega) (by omega) (by omega)).mono ?_
  rintro e w3 ⟨x3, l3, u3, rfl, hr3, hg3, -⟩
  go_wp2_with fail
  refine (pick B b _ 3 _ (rd_alloc hr3 _) (by omega) (by omega) (by omega)).mono ?_
  rintro e w4 ⟨x4, l4, u4, rfl, hr4, hg4, -⟩
  obtain ⟨i4, rfl⟩ := Int.eq_ofNat_of_zero_le l4
  have hi4 : i4 < 3 := by omega
  obtain ⟨y, y1, y2, c1⟩ := one_of w3.heap.size rfl [0, 0, x3] rfl 0 899 (by intro v hv; simp at hv; omega) i4 hi4 hg4 (by have := hr3.le; omega)
  have k4 : (i4 : Int) < 3 := by omega
  have k40 : (0 : Int) ≤ i4 := by omega
  go_wp2_with fail
  have hw0 : w.heap.size < (w.alloc (.cells #[.string ⟨#[]⟩, .string ⟨#[]⟩, .string ⟨#[]⟩, .int .i64 0, .int .i64 0, .int .i64 0, .slice none 0 0, .slice none 0 0, .slice none 0 0, .slice none 0 0] 25)).heap.size := by simp
  have z1 := hg1.size
  have z2 := hg2.size
  have z3 := hg3.size
  have z4 := hg4.size
  have hbw := hr.le.2
  simp only [World.size_alloc] at z1 z2 z3 z4 hw0
  have Y0 : Young (w.alloc (.cells #[.string ⟨#[]⟩, .string ⟨#[]⟩, .string ⟨#[]⟩, .int .i64 0, .int .i64 0, .int .i64 0, .slice none 0 0, .slice none 0 0, .slice none 0 0, .slice none 0 0] 25)) B (p + 5) b (w4.heap.size + 1) nm fr dst dep (dep + 1 + x2) (1 + x1) 1 (fun _ => 1 + x1) 1 (fun _ => y) w2.heap.size 1 (w2.heap.size + 1) w4.heap.size 1 ((w4.alloc (.cells #[.int .i64 y] 3)).alloc (.cells #[.string nm, .string fr, .string dst, .int .i64 dep, .int .i64 (dep + 1 + x2), .int .i64 (1 + x1), .slice (some ⟨w2.heap.size, 0, none⟩) 1 1, .slice (some ⟨w2.heap.size + 1, 0, none⟩) 3 3, .slice (some ⟨w4.heap.size, 0, none⟩) 1 1, .slice none 0 0] 25)) := by
    have oL := (((((World.ownsRow_lit (base := (w.alloc (.cells #[.string ⟨#[]⟩, .string ⟨#[]⟩, .string ⟨#[]⟩, .int .i64 0, .int .i64 0, .int .i64 0, .slice none 0 0, .slice none 0 0, .slice none 0 0, .slice none 0 0] 25)).heap.size) (size := 1) (e := 3) w2 #[.int .i64 (1 + x1)] 1 (by simp only [World.size_alloc]; omega) (by decide) rfl).alloc (.cells #[.int .i64 0, .int .i64 0, .int .i64 0] 3)).kept hg3 (.inr (by simp [Value.ownBlock]; omega))).alloc (.cells #[.int .i64 0, .int .i64 0, .int .i64 x3] 3)).kept hg4 (.inr (by simp [Value.ownBlock]; omega))).alloc (.cells #[.int .i64 y] 3)
    have oS := (((World.ownsRow_lit (base := (w.alloc (.cells #[.string ⟨#[]⟩, .string ⟨#[]⟩, .string ⟨#[]⟩, .int .i64 0, .int .i64 0, .int .i64 0, .slice none 0 0, .slice none 0 0, .slice none 0 0, .slice none 0 0] 25)).heap.size) (size := 1) (e := 3) (w2.alloc (.cells #[.int .i64 (1 + x1)] 3)) #[.int .i64 0, .int .i64 0, .int .i64 0] 3 (by simp only [World.size_alloc]; omega) (by decide) rfl).kept hg3 (.inr (by simp [Value.ownBlock]; omega))).alloc (.cells #[.int .i64 0, .int .i64 0, .int .i64 x3] 3)).kept hg4 (.inr (by simp [Value.ownBlock]; omega)) |>.alloc (.cells #[.int .i64 y] 3)
    have oB := World.ownsRow_lit (base := (w.alloc (.cells #[.string ⟨#[]⟩, .string ⟨#[]⟩, .string ⟨#[]⟩, .int .i64 0, .int .i64 0, .int .i64 0, .slice none 0 0, .slice none 0 0, .slice none 0 0, .slice none 0 0] 25)).heap.size) (size := 1) (e := 3) w4 #[.int .i64 y] 1 (by simp only [World.size_alloc]; omega) (by decide) rfl
    simp only [World.size_alloc] at oL oS oB
    refine ⟨?_, ?_, ?_, ?_, ?_, ?_, ?_⟩
    · have := heap_alloc_new (w4.alloc (.cells #[.int .i64 y] 3)) (.cells #[.string nm, .string fr, .string dst, .int .i64 dep, .int .i64 (dep + 1 + x2), .int .i64 (1 + x1), .slice (some ⟨w2.heap.size, 0, none⟩) 1 1, .slice (some ⟨w2.heap.size + 1, 0, none⟩) 3 3, .slice (some ⟨w4.heap.size, 0, none⟩) 1 1, .slice none 0 0] 25)
      rw [World.size_alloc] at this
      exact this
    · simp only [World.size_alloc]; exact oL.alloc _
    · simp only [World.size_alloc]; exact oS.alloc _
    · simp only [World.size_alloc]; exact oB.alloc _
    · simp only [World.size_alloc]; omega
    · exact ⟨p + 1 + 1 + 1 + 1, by omega, rd_alloc (rd_alloc hr4 _) _⟩
    · exact grown_trans hg1 (grown_trans hg2 (grown_trans (World.grownBy_alloc _ _ _) (grown_trans (World.grownBy_alloc _ _ _) (grown_trans hg3 (grown_trans (World.grownBy_alloc _ _ _) (grown_trans hg4 (grown_trans (World.grownBy_alloc _ _ _) (World.grownBy_alloc _ _ _))))))))
  have HY := Lib.hid Y0
  clear Y0 hr1 hr2 hr3 hr4 hg1 hg2 hg3 hg4 z1 z2 z3 z4 c1 hw0 e2 e3
  generalize ((w4.alloc (.cells #[.int .i64 y] 3)).alloc (.cells #[.string nm, .string fr, .string dst, .int .i64 dep, .int .i64 (dep + 1 + x2), .int .i64 (1 + x1), .slice (some ⟨w2.heap.size, 0, none⟩) 1 1, .slice (some ⟨w2.heap.size + 1, 0, none⟩) 3 3, .slice (some ⟨w4.heap.size, 0, none⟩) 1 1, .slice none 0 0] 25)) = W5 at *
  generalize hW0 : w.alloc (.cells #[.string ⟨#[]⟩, .string ⟨#[]⟩, .string ⟨#[]⟩, .int .i64 0, .int .i64 0, .int .i64 0, .slice none 0 0, .slice none 0 0, .slice none 0 0, .slice none 0 0] 25) = W0 at *
  generalize w4.heap.size + 1 = bx at *
  generalize w4.heap.size = gB at *
  generalize w2.heap.size + 1 = gS at *
  generalize w2.heap.size = gL0 at *
  generalize hcap : 1 + x1 = cap at *
  generalize harr : dep + 1 + x2 = arr at *
  have hcap1 : 1 ≤ cap ∧ cap ≤ 6 := by omega
  have harr1 : dep + 1 ≤ arr ∧ arr ≤ dep + 6 := by omega
  clear hcap harr
  obtain ⟨i0, hi, hz0, hz1, hz2⟩ := info_parts infoInt
  go_loopw [13] (fun v wr => ∃ (k : Nat) (L : Nat → Int) (gL cL : Nat), 1 ≤ k ∧ k ≤ 3 ∧ v = .int .i64 k ∧ Hid (LimF cap k L) ∧ Hid (Young W0 B (p + 5 + k) b bx nm fr dst dep arr cap k L 1 (fun _ => y) gL cL gS gB 1 wr)) (fun v _ => 3 - (intOf v).toNat)
  case atStart => exact ⟨1, fun _ => cap, gL0, 1, Nat.le_refl _, by omega, rfl, ⟨rfl, fun i hi => ⟨⟨by show 0 ≤ cap; omega, Int.le_refl _⟩, fun h => by omega⟩⟩, HY.out.far ⟨rfl, rfl, rfl, Nat.le_refl _, fun _ _ _ => rfl⟩ (HY.out.rd.mono (by omega))⟩
  case round =>
    obtain ⟨k, L, gL, cL, hk0, hk, rfl, hL, hy⟩ := hrel
    rcases Nat.lt_or_ge k 3 with hlt | hge
    · have zk : decide ((k : Int) < 3) = true := decide_eq_true (by omega)
      have zk' : (k : Int) < 3 := by omega
      have es : IntKind.i64.wrap ((k : Int) - 1) = ((k - 1 : Nat) : Int) := by rw [IntWalk.i64_in _ (by omega)]; omega
      have b6 : wr.cell? ⟨bx, 6, none⟩ = some (.slice (some ⟨gL, 0, none⟩) k cL) := hy.out.box.c6
      have cl := hy.out.L_at (i := k - 1) (by omega)
      have hl := (hL.out.2 (k - 1) (by omega)).1
      have hLk : Hid (L (k - 1) = L (k - 1)) := rfl
      generalize hl0 : L (k - 1) = l at *
      have HL0 := Lib.hid hl0
      clear hl0 hLk
      obtain ⟨q, hq, hrq⟩ := hy.out.rd
      have hyn := hy.out.ne
      have hyl := lt_own hy.out.oL
      have kk1 : ((k - 1 : Nat) : Int) < (k : Int) := by omega
      have kk0 : (0 : Int) ≤ ((k - 1 : Nat) : Int) := by omega
      go_upto_region 6 with fail
      go_cut [14] from 41 to 61 (fun v wx => ∃ n : Int, n ≤ l ∧ l - 2 ≤ n ∧ v = .int .i64 n ∧ Hid (RdTo B (p + 5 + k + 1) b wx) ∧ Hid (wr.grownBy wx (some b)))
      case first =>
        go_region_with (go_at_call 52; refine (pick B b q 3 wr.drew hrq (by omega) (by omega) (by omega)).mono ?_; rintro e wp ⟨xp, lp, up, rfl, hrp, hgp, -⟩; have cl' := hgp.cell (a := ⟨gL, k - 1, none⟩) cl (by simp; omega); have b6' := hgp.cell (a := ⟨bx, 6, none⟩) b6 (by simp; omega); have ew : IntKind.i64.wrap (l - xp) = l - xp := IntWalk.i64_in _ (by omega))
        all_goals
          go_wp2_with fail
          go_meet
          case rel => exact ⟨l - xp, by omega, by omega, rfl, ⟨_, by omega, hrp⟩, grown_trans (b := wr.drew) ⟨rfl, rfl, rfl, Nat.le_refl _, fun _ _ _ => rfl⟩ hgp⟩
      case rest =>
      obtain ⟨n, hn1, hn2, rfl, hrx, hgx⟩ := hcut
      have Yx := Lib.hid (hy.out.far hgx.out hrx.out)
      generalize wc = wx at *
      rcases Int.lt_or_le n 0 with hneg | hpos
      · have zn : decide (n < 0) = true := decide_eq_true hneg
        have hx0 : (0 : Int) ≤ 0 := Int.le_refl _
        have b6x : wx.cell? ⟨bx, 6, none⟩ = some (.slice (some ⟨gL, 0, none⟩) k cL) := Yx.out.box.c6
        go_wp2_with (at_builtin; refine wpList_append_lies ?pw ?p1 ?ps ?px 22 ?p2 W0.heap.size 3 i0 (.int .i64 0) 1 8 ?p3 ?p4 ?p5 ?p6 ?p7 ?p8 ?p9 (.slice (some ⟨gL, 0, none⟩) k cL) k (nl L k) ?p10 ?ph1 ⟨wx.heap.size, 0, none⟩ 1 1 [.int .i64 0] ?p11 ?p12 ?ph2 ?ph3 ?pc1 ?pc2 ?pc3 ?pc4 (wx.heap.size + 1) ?pc5 ?_; (case p1 => rfl); (case p2 => rfl); (case p10 => rfl); (case p11 => rfl); (case ph1 => exact Yx.out.oL.alloc _); (case p3 => exact Tryz.underlying22); (case p4 => exact hi); (case p5 => exact hz0); (case p6 => exact hz1); (case p7 => exact hz2); (case p8 => rfl); (case p9 => decide); (case p12 => rfl); (case ph2 => go_must (exact World.news_of_block (heap_alloc_new wx _))); (case ph3 => go_must (intro u hu; simp at hu; subst hu; rfl)); (case pc1 => decide); (case pc2 => go_must (unfold maxLen; omega)); (case pc3 => go_must (omega)); (case pc4 => go_must (have q1 := lt_own Yx.out.oL; simp only [World.size_alloc]; omega)); (case pc5 => simp only [World.size_alloc]); intro g2 cp2 wz hownZ hgrowZ hatZ hltZ; have hbz := (hgrowZ.block bx (by simp only [World.size_alloc]; exact Nat.lt_succ_of_lt (lt_heap Yx.out.box)) (fun e => hyn.2.1 (by cases e; rfl))).trans (Yx.out.alloc (.cells #[.int .i64 0] 3)).box; have b6z := LegBox.c6 hbz; have f6z := LegBox.fr hbz 6)
        have Yn := (Yx.out.alloc (.cells #[.int .i64 0] 3)).appL (x := 0) hownZ hgrowZ (by rcases hatZ with e | e; (· left; cases e; rfl); (· right; simp only [World.size_alloc]; exact e))
        have hLn : LimF cap (k + 1) (snocF L k 0) := snoc_lim hL.out hk0 (by rw [HL0.out]; omega) (by omega) (by omega)
        have YN := Lib.hid Yn
        have LN := Lib.hid hLn
        clear Yn hLn b6z f6z hbz hownZ hgrowZ hatZ hltZ
        generalize wz.setCell ⟨bx, 6, none⟩ (.slice (some ⟨g2, 0, none⟩) (k + 1) cp2) = wn at *
        go_roundw
        case rel => exact ⟨k + 1, _, g2, cp2, by omega, by omega, by go_num, LN, YN.out.far ⟨rfl, rfl, rfl, Nat.le_refl _, fun _ _ _ => rfl⟩ (YN.out.rd.mono (by omega))⟩
        case measure => simp [intOf]; omega
      · have zn : decide (n < 0) = false := decide_eq_false (by omega)
        have b6x : wx.cell? ⟨bx, 6, none⟩ = some (.slice (some ⟨gL, 0, none⟩) k cL) := Yx.out.box.c6
        go_wp2_with (at_builtin; refine wpList_append_lies ?qw ?q1 ?qs ?qx 22 ?q2 W0.heap.size 3 i0 (.int .i64 0) 1 8 ?q3 ?q4 ?q5 ?q6 ?q7 ?q8 ?q9 (.slice (some ⟨gL, 0, none⟩) k cL) k (nl L k) ?q10 ?qh1 ⟨wx.heap.size, 0, none⟩ 1 1 [.int .i64 n] ?q11 ?q12 ?qh2 ?qh3 ?qc1 ?qc2 ?qc3 ?qc4 (wx.heap.size + 1) ?qc5 ?_; (case q1 => rfl); (case q2 => rfl); (case q10 => rfl); (case q11 => rfl); (case qh1 => exact Yx.out.oL.alloc _); (case q3 => exact Tryz.underlying22); (case q4 => exact hi); (case q5 => exact hz0); (case q6 => exact hz1); (case q7 => exact hz2); (case q8 => rfl); (case q9 => decide); (case q12 => rfl); (case qh2 => go_must (exact World.news_of_block (heap_alloc_new wx _))); (case qh3 => go_must (intro u hu; simp at hu; subst hu; rfl)); (case qc1 => decide); (case qc2 => go_must (unfold maxLen; omega)); (case qc3 => go_must (omega)); (case qc4 => go_must (have q1 := lt_own Yx.out.oL; simp only [World.size_alloc]; omega)); (case qc5 => simp only [World.size_alloc]); intro g2 cp2 wz hownZ hgrowZ hatZ hltZ; have hbz := (hgrowZ.block bx (by simp only [World.size_alloc]; exact Nat.lt_succ_of_lt (lt_heap Yx.out.box)) (fun e => hyn.2.1 (by cases e; rfl))).trans (Yx.out.alloc (.cells #[.int .i64 n] 3)).box; have b6z := LegBox.c6 hbz; have f6z := LegBox.fr hbz 6)
        have Yn := (Yx.out.alloc (.cells #[.int .i64 n] 3)).appL (x := n) hownZ hgrowZ (by rcases hatZ with e | e; (· left; cases e; rfl); (· right; simp only [World.size_alloc]; exact e))
        have hLn : LimF cap (k + 1) (snocF L k n) := snoc_lim hL.out hk0 (by rw [HL0.out]; omega) (by omega) (by omega)
        have YN := Lib.hid Yn
        have LN := Lib.hid hLn
        clear Yn hLn b6z f6z hbz hownZ hgrowZ hatZ hltZ
        generalize wz.setCell ⟨bx, 6, none⟩ (.slice (some ⟨g2, 0, none⟩) (k + 1) cp2) = wn at *
        go_roundw
        case rel => exact ⟨k + 1, _, g2, cp2, by omega, by omega, by go_num, LN, YN.out.far ⟨rfl, rfl, rfl, Nat.le_refl _, fun _ _ _ => rfl⟩ (YN.out.rd.mono (by omega))⟩
        case measure => simp [intOf]; omega
    · obtain rfl : k = 3 := by omega
      obtain ⟨q, hq, hrq⟩ := hy.out.rd
      go_wp2_with fail
      refine (pick B b q 3 _ hrq (by omega) (by omega) (by omega)).mono ?_
      rintro e w6 ⟨x6, l6, u6, rfl, hr6, hg6, -⟩
      obtain ⟨m0, rfl⟩ := Int.eq_ofNat_of_zero_le l6
      have Y6 := Lib.hid (hy.out.far hg6 (Q' := p + 9) ⟨_, (by omega), hr6⟩)
      have HL3 := Lib.hid hL.out
      clear hr6 hg6 hrq hy hL
      generalize hL3 : L = L3 at *
      generalize wr = wy at *
      go_wp2_with fail
      go_loopw [15] (fun v wr => ∃ (m j : Nat) (Bz : Nat → Int) (gb cb : Nat), v = .int .i64 m ∧ 1 ≤ j ∧ m + j ≤ 3 ∧ Hid (LimB j Bz) ∧ Hid (Young W0 B (p + 20 - m) b bx nm fr dst dep arr cap 3 L3 j Bz gL cL gS gb cb wr)) (fun v _ => (intOf v).toNat)
      case atStart => exact ⟨m0, 1, fun _ => y, gB, 1, rfl, Nat.le_refl _, by omega, fun i hi => ⟨⟨by show 0 ≤ y; omega, by show y ≤ 1000; omega⟩, fun h => Int.le_refl _⟩, Y6.out.far ⟨rfl, rfl, rfl, Nat.le_refl _, fun _ _ _ => rfl⟩ (Y6.out.rd.mono (by omega))⟩
      case round =>
        obtain ⟨m, j, Bz, gb, cb, rfl, hj1, hj, hB, hy2⟩ := hrel
        rcases Nat.lt_or_ge 0 m with hlt | hge
        · have zm : decide (0 < (m : Int)) = true := decide_eq_true (by omega)
          have es : IntKind.i64.wrap ((j : Int) - 1) = ((j - 1 : Nat) : Int) := by rw [IntWalk.i64_in _ (by omega)]; omega
          have kk1 : ((j - 1 : Nat) : Int) < (j : Int) := by omega
          have kk0 : (0 : Int) ≤ ((j - 1 : Nat) : Int) := by omega
          have em : IntKind.i64.wrap ((m : Int) - 1) = ((m - 1 : Nat) : Int) := by rw [IntWalk.i64_in _ (by omega)]; omega
          have hl := (hB.out (j - 1) (by omega)).1
          have hb0 : Bz (j - 1) = Bz (j - 1) := rfl
          generalize hl0 : Bz (j - 1) = l at hl
          have HB0 := Lib.hid hl0
          clear hl0 hb0
          go_upto_region 13 with fail
          refine wp_region_inv' (by kernel_rfl) (fun _ L f W => JB (fun Q nB Bz gB cB W => Young W0 B Q b bx nm fr dst dep arr cap 3 L3 nB Bz gL cL gS gB cB W) W0.heap.size (p + 20 - m) b bx gb cb j Bz l L f W) (by kernel_rfl) (JB.start (hy2.out.far (W' := wr.drew) ⟨rfl, rfl, rfl, Nat.le_refl _, fun _ _ _ => rfl⟩ (by obtain ⟨qd, hd1, hd2⟩ := hy2.out.rd; exact ⟨qd, hd1, hd2⟩))) ?_
          apply Exists.intro
          apply And.intro
          · intro f
            simp only [over, List.set]
            exact rfl
          refine ⟨?hops, ?hend⟩
          case hops =>
            refine EachOp.cons ?_ (EachOp.cons ?_ (EachOp.cons ?_ (EachOp.cons ?_ (EachOp.cons ?_ (EachOp.cons ?_ (EachOp.cons ?_ (EachOp.cons ?_ (EachOp.cons ?_ (EachOp.cons ?_ (EachOp.cons ?_ (EachOp.cons ?_ (EachOp.cons ?_ (EachOp.cons ?_ (EachOp.cons ?_ (EachOp.cons ?_ (EachOp.cons ?_ (EachOp.cons ?_ (EachOp.nil))))))))))))))))))
            · intro L ff kk ww hkk hJ hcl hLi hwt QQ' hQ
              try dsimp only
              go_big_wp2_with fail
              refine hQ _ _ _ ?_ (hJ.const (i := 0) rfl rfl)
              first | rfl | (simp [upd, cstB]; done)
            · intro L ff kk ww hkk hJ hcl hLi hwt QQ' hQ
              try dsimp only
              have c0 : ff 0 = _ := hJ.c 0 rfl (hwt 0 (by decide))
              simp only [cstB] at c0
              have n15 : L 15 = false := by
                cases hx : L 15 with
                | false => rfl
                | true =>
                  have h15x := hx
                  have h1x : L 1 = true := hcl 15 _ rfl h15x 1 (by decide)
                  have h2 : L 1 = false := hLi
                  rw [h1x] at h2; cases h2
              have n17 : L 17 = false := by
                cases hx : L 17 with
                | false => rfl
                | true =>
                  have h17x := hx
                  have h1x : L 1 = true := hcl 17 _ rfl h17x 1 (by decide)
                  have h2 : L 1 = false := hLi
                  rw [h1x] at h2; cases h2
              obtain ⟨Qy, hYy⟩ := hJ.young n15 n17
              have x8 : ww.cell? ⟨bx, 8, none⟩ = some (.slice (some ⟨gb, 0, none⟩) j cb) := hYy.box.c8
              clear hYy
              go_big_wp2_with fail
              refine hQ _ _ _ ?_ (hJ.const (i := 1) rfl rfl)
              first | rfl | (simp [upd, cstB, c0]; done)
            · intro L ff kk ww hkk hJ hcl hLi hwt QQ' hQ
              try dsimp only
              go_big_wp2_with fail
              refine hQ _ _ _ ?_ (hJ.const (i := 2) rfl rfl)
              first | rfl | (simp [upd, cstB]; done)
            · intro L ff kk ww hkk hJ hcl hLi hwt QQ' hQ
              try dsimp only
              have c2 : ff 2 = _ := hJ.c 2 rfl (hwt 2 (by decide))
              simp only [cstB] at c2
              have n15 : L 15 = false := by
                cases hx : L 15 with
                | false => rfl
                | true =>
                  have h15x := hx
                  have h14x : L 14 = true := hcl 15 _ rfl h15x 14 (by decide)
                  have h13x : L 13 = true := hcl 14 _ rfl h14x 13 (by decide)
                  have h12x : L 12 = true := hcl 13 _ rfl h13x 12 (by decide)
                  have h9x : L 9 = true := hcl 12 _ rfl h12x 9 (by decide)
                  have h8x : L 8 = true := hcl 9 _ rfl h9x 8 (by decide)
                  have h3x : L 3 = true := hcl 8 _ rfl h8x 3 (by decide)
                  have h2 : L 3 = false := hLi
                  rw [h3x] at h2; cases h2
              have n17 : L 17 = false := by
                cases hx : L 17 with
                | false => rfl
                | true =>
                  have h17x := hx
                  have h3x : L 3 = true := hcl 17 _ rfl h17x 3 (by decide)
                  have h2 : L 3 = false := hLi
                  rw [h3x] at h2; cases h2
              obtain ⟨Qy, hYy⟩ := hJ.young n15 n17
              have x8 : ww.cell? ⟨bx, 8, none⟩ = some (.slice (some ⟨gb, 0, none⟩) j cb) := hYy.box.c8
              clear hYy
              go_big_wp2_with fail
              refine hQ _ _ _ ?_ (hJ.const (i := 3) rfl rfl)
              first | rfl | (simp [upd, cstB, c2]; done)
            · intro L ff kk ww hkk hJ hcl hLi hwt QQ' hQ
              try dsimp only
              go_big_wp2_with fail
              refine hQ _ _ _ ?_ (hJ.const (i := 4) rfl rfl)
              first | rfl | (simp [upd, cstB]; done)
            · intro L ff kk ww hkk hJ hcl hLi hwt QQ' hQ
              try dsimp only
              have c4 : ff 4 = _ := hJ.c 4 rfl (hwt 4 (by decide))
              simp only [cstB] at c4
              have n15 : L 15 = false := by
                cases hx : L 15 with
                | false => rfl
                | true =>
                  have h15x := hx
                  have h14x : L 14 = true := hcl 15 _ rfl h15x 14 (by decide)
                  have h13x : L 13 = true := hcl 14 _ rfl h14x 13 (by decide)
                  have h12x : L 12 = true := hcl 13 _ rfl h13x 12 (by decide)
                  have h9x : L 9 = true := hcl 12 _ rfl h12x 9 (by decide)
                  have h8x : L 8 = true := hcl 9 _ rfl h9x 8 (by decide)
                  have h7x : L 7 = true := hcl 8 _ rfl h8x 7 (by decide)
                  have h6x : L 6 = true := hcl 7 _ rfl h7x 6 (by decide)
                  have h5x : L 5 = true := hcl 6 _ rfl h6x 5 (by decide)
                  have h2 : L 5 = false := hLi
                  rw [h5x] at h2; cases h2
              have n17 : L 17 = false := by
                cases hx : L 17 with
                | false => rfl
                | true =>
                  have h17x := hx
                  have h5x : L 5 = true := hcl 17 _ rfl h17x 5 (by decide)
                  have h2 : L 5 = false := hLi
                  rw [h5x] at h2; cases h2
              obtain ⟨Qy, hYy⟩ := hJ.young n15 n17
              have x8 : ww.cell? ⟨bx, 8, none⟩ = some (.slice (some ⟨gb, 0, none⟩) j cb) := hYy.box.c8
              clear hYy
              go_big_wp2_with fail
              refine hQ _ _ _ ?_ (hJ.const (i := 5) rfl rfl)
              first | rfl | (simp [upd, cstB, c4]; done)
            · intro L ff kk ww hkk hJ hcl hLi hwt QQ' hQ
              try dsimp only
              have c5 : ff 5 = _ := hJ.c 5 rfl (hwt 5 (by decide))
              simp only [cstB] at c5
              go_big_wp2_with fail
              refine hQ _ _ _ ?_ (hJ.const (i := 6) rfl rfl)
              first | rfl | (simp [upd, cstB, c5]; done)
            · intro L ff kk ww hkk hJ hcl hLi hwt QQ' hQ
              try dsimp only
              have c6 : ff 6 = _ := hJ.c 6 rfl (hwt 6 (by decide))
              simp only [cstB] at c6
              go_big_wp2_with fail
              refine hQ _ _ _ ?_ (hJ.const (i := 7) rfl rfl)
              first | rfl | (simp [upd, cstB, c6]; done)
            · intro L ff kk ww hkk hJ hcl hLi hwt QQ' hQ
              try dsimp only
              have c3 : ff 3 = _ := hJ.c 3 rfl (hwt 3 (by decide))
              simp only [cstB] at c3
              have c7 : ff 7 = _ := hJ.c 7 rfl (hwt 7 (by decide))
              simp only [cstB] at c7
              go_big_wp2_with fail
              refine hQ _ _ _ ?_ (hJ.const (i := 8) rfl rfl)
              first | rfl | (simp [upd, cstB, c3, c7]; done)
            · intro L ff kk ww hkk hJ hcl hLi hwt QQ' hQ
              try dsimp only
              have c8 : ff 8 = _ := hJ.c 8 rfl (hwt 8 (by decide))
              simp only [cstB] at c8
              have n15 : L 15 = false := by
                cases hx : L 15 with
                | false => rfl
                | true =>
                  have h15x := hx
                  have h14x : L 14 = true := hcl 15 _ rfl h15x 14 (by decide)
                  have h13x : L 13 = true := hcl 14 _ rfl h14x 13 (by decide)
                  have h12x : L 12 = true := hcl 13 _ rfl h13x 12 (by decide)
                  have h9x : L 9 = true := hcl 12 _ rfl h12x 9 (by decide)
                  have h2 : L 9 = false := hLi
                  rw [h9x] at h2; cases h2
              have n17 : L 17 = false := by
                cases hx : L 17 with
                | false => rfl
                | true =>
                  have h17x := hx
                  have h9x : L 9 = true := hcl 17 _ rfl h17x 9 (by decide)
                  have h2 : L 9 = false := hLi
                  rw [h9x] at h2; cases h2
              obtain ⟨Qy, hYy⟩ := hJ.young n15 n17
              have xb := hYy.B_at (i := j - 1) (by omega)
              rw [HB0.out] at xb
              clear hYy
              go_big_wp2_with fail
              refine hQ _ _ _ ?_ (hJ.const (i := 9) rfl rfl)
              first | rfl | (simp [upd, cstB, c8]; done)
            · intro L ff kk ww hkk hJ hcl hLi hwt QQ' hQ
              try dsimp only
              go_big_wp2_with fail
              refine hQ _ _ _ ?_ (hJ.const (i := 10) rfl rfl)
              first | rfl | (simp [upd, cstB]; done)
            · intro L ff kk ww hkk hJ hcl hLi hwt QQ' hQ
              try dsimp only
              have c10 : ff 10 = _ := hJ.c 10 rfl (hwt 10 (by decide))
              simp only [cstB] at c10
              have n15 : L 15 = false := by
                cases hx : L 15 with
                | false => rfl
                | true =>
                  have h15x := hx
                  have h14x : L 14 = true := hcl 15 _ rfl h15x 14 (by decide)
                  have h13x : L 13 = true := hcl 14 _ rfl h14x 13 (by decide)
                  have h12x : L 12 = true := hcl 13 _ rfl h13x 12 (by decide)
                  have h11x : L 11 = true := hcl 12 _ rfl h12x 11 (by decide)
                  have h2 : L 11 = false := hLi
                  rw [h11x] at h2; cases h2
              have n17 : L 17 = false := by
                cases hx : L 17 with
                | false => rfl
                | true =>
                  have h17x := hx
                  have h11x : L 11 = true := hcl 17 _ rfl h17x 11 (by decide)
                  have h2 : L 11 = false := hLi
                  rw [h11x] at h2; cases h2
              have n14 : L 14 = false := by
                cases hx : L 14 with
                | false => rfl
                | true =>
                  have h14x := hx
                  have h13x : L 13 = true := hcl 14 _ rfl h14x 13 (by decide)
                  have h12x : L 12 = true := hcl 13 _ rfl h13x 12 (by decide)
                  have h11x : L 11 = true := hcl 12 _ rfl h12x 11 (by decide)
                  have h2 : L 11 = false := hLi
                  rw [h11x] at h2; cases h2
              have hY0 := hJ.y0 hLi n15 n17
              obtain ⟨qq, hqq, hrq⟩ := hY0.rd
              go_big_wp2_with fail
              refine (pick B b qq 10 ww hrq (by omega) (by omega) (by omega)).mono ?_
              rintro e wp ⟨xp, lp, up, rfl, hrp, hgp, -⟩
              have hN := hJ.op11 n14 n15 n17 lp (by omega) (hY0.far hgp ⟨_, (by omega), hrp⟩)
              clear hY0 hgp hrp hrq
              go_big_wp2_with fail
              refine hQ _ _ wp ?_ hN
              first | rfl | (simp [upd, c10]; done)
            · intro L ff kk ww hkk hJ hcl hLi hwt QQ' hQ
              try dsimp only
              have c9 : ff 9 = _ := hJ.c 9 rfl (hwt 9 (by decide))
              simp only [cstB] at c9
              obtain ⟨x, x0, x1, e11⟩ := hJ.e11 (hwt 11 (by decide))
              have e11' : ff 11 = _ := e11
              have hN := hJ.op12 x0 x1
              have m0 : 0 ≤ l * x := Int.mul_nonneg hl.1 x0
              have m1 : l * x ≤ 1000 * 9 := Int.mul_le_mul hl.2 x1 x0 (by omega)
              have mw : IntKind.i64.wrap (l * x) = l * x := IntWalk.i64_in _ (by omega)
              clear m0 m1
              go_big_wp2_with fail
              refine hQ _ _ _ ?_ hN
              first | rfl | (simp [upd, c9, e11', mw]; done)
            · intro L ff kk ww hkk hJ hcl hLi hwt QQ' hQ
              try dsimp only
              obtain ⟨x, x0, x1, e12⟩ := hJ.e12 (hwt 12 (by decide))
              have e12' : ff 12 = _ := e12
              have m0 : 0 ≤ l * x := Int.mul_nonneg hl.1 x0
              have m1 : l * x ≤ l * 9 := Int.mul_le_mul_of_nonneg_left x1 hl.1
              generalize l * x = y at *
              have hN := hJ.op13 (x := y / 10) (by omega) (by omega)
              have mt : y.tdiv 10 = y / 10 := Int.tdiv_eq_ediv_of_nonneg m0
              have mw : IntKind.i64.wrap (y / 10) = y / 10 := IntWalk.i64_in _ (by omega)
              go_big_wp2_with fail
              refine hQ _ _ _ ?_ hN
              first | rfl | (simp [upd, e12', mt, mw]; done)
            · intro L ff kk ww hkk hJ hcl hLi hwt QQ' hQ
              try dsimp only
              have n15 : L 15 = false := by
                cases hx : L 15 with
                | false => rfl
                | true =>
                  have h15x := hx
                  have h14x : L 14 = true := hcl 15 _ rfl h15x 14 (by decide)
                  have h2 : L 14 = false := hLi
                  rw [h14x] at h2; cases h2
              have n17 : L 17 = false := by
                cases hx : L 17 with
                | false => rfl
                | true =>
                  have h17x := hx
                  have h14x : L 14 = true := hcl 17 _ rfl h17x 14 (by decide)
                  have h2 : L 14 = false := hLi
                  rw [h14x] at h2; cases h2
              obtain ⟨z, q0, q1, e13⟩ := hJ.e13 (hwt 13 (by decide))
              have e13' : ff 13 = _ := e13
              have hN := hJ.op14 n15 n17 q0 q1 (fun Q' W o h => h.alloc o)
              go_big_wp2_with fail
              refine hQ _ _ _ ?_ hN
              first | rfl | (simp [upd, e13']; done)
            · intro L ff kk ww hkk hJ hcl hLi hwt QQ' hQ
              try dsimp only
              have c1 : ff 1 = _ := hJ.c 1 rfl (hwt 1 (by decide))
              simp only [cstB] at c1
              have n17 : L 17 = false := by
                cases hx : L 17 with
                | false => rfl
                | true =>
                  have h17x := hx
                  have h15x : L 15 = true := hcl 17 _ rfl h17x 15 (by decide)
                  have h2 : L 15 = false := hLi
                  rw [h15x] at h2; cases h2
              obtain ⟨g, z, q0, q1, e14, hz14⟩ := hJ.e14 (hwt 14 (by decide)) hLi
              have h13 : L 13 = true := hcl 14 _ rfl (hwt 14 (by decide)) 13 (by decide)
              have h12 : L 12 = true := hcl 13 _ rfl h13 12 (by decide)
              have h11 : L 11 = true := hcl 12 _ rfl h12 11 (by decide)
              have hY1 := hJ.y1 h11 hLi n17
              have hoB := hY1.oB
              have hlB := lt_own hoB
              refine wpList_append_lies ww rfl _ _ 22 rfl W0.heap.size 3 i0 (.int .i64 0) 1 8 Tryz.underlying22 hi hz0 hz1 hz2 rfl (by decide) (.slice (some ⟨gb, 0, none⟩) j cb) j (nl Bz j) c1 hoB ⟨g, 0, none⟩ 1 1 [.int .i64 z] e14 rfl (World.news_of_block hz14) (by intro u hu; simp at hu; subst hu; rfl) (by decide) (by unfold maxLen; omega) (by omega) (by omega) ww.heap.size rfl ?_
              intro g2 cp2 wz ho hg hat hlt
              have hN := hJ.op15 h11 hLi n17 q0 q1 ho hg (by rcases hat with e | e; (· left; cases e; rfl); (· right; exact e))
              simp only [Act.put, List.setIfInBounds_toArray, List.set_cons_succ, List.set_cons_zero]
              exact hQ _ _ wz rfl hN
            · intro L ff kk ww hkk hJ hcl hLi hwt QQ' hQ
              try dsimp only
              go_big_wp2_with fail
              refine hQ _ _ _ ?_ (hJ.const (i := 16) rfl rfl)
              first | rfl | (simp [upd, cstB]; done)
            · intro L ff kk ww hkk hJ hcl hLi hwt QQ' hQ
              try dsimp only
              have c16 : ff 16 = _ := hJ.c 16 rfl (hwt 16 (by decide))
              simp only [cstB] at c16
              have h15 := hwt 15 (by decide)
              have h11 := hwt 11 (by decide)
              obtain ⟨Wp, g, cc, z, q0, q1, e15, hYp, ho, hgr, ha⟩ := hJ.e15 h15 hLi
              have e15' : ff 15 = _ := e15
              have hbx := (hgr.block bx (lt_heap hYp.box) (fun e => hYp.ne.2.2.2.1 (by cases e; rfl))).trans hYp.box
              have x8 := LegBox.c8 hbx
              have f8 := LegBox.fr hbx 8
              have hN := hJ.op17 (v := undef) h11 h15 q0 q1 (hYp.appB ho hgr ha)
              clear hbx ho hgr ha hYp
              go_big_wp2_with fail
              refine hQ _ undef _ ?_ hN
              first | rfl | (simp [upd, c16, e15']; done)
          case hend =>
          intro L ff kk ww hL hJ
          try dsimp only
          obtain ⟨g, cc, z, q0, q1, hY⟩ := hJ.e17 (hL 17 (by decide))
          have YN := Lib.hid hY
          have LN : Hid (LimB (j + 1) (snocF Bz j z)) := snoc_limb hB.out hj1 (by rw [HB0.out]; exact q1) q0
          clear hJ hY hL
          go_wp2_with fail
          go_roundw
          case rel => exact ⟨m - 1, j + 1, _, g, cc, by first | rfl | go_num, by omega, by omega, LN, YN.out.far ⟨rfl, rfl, rfl, Nat.le_refl _, fun _ _ _ => rfl⟩ (YN.out.rd.mono (by omega))⟩
          case measure => simp [intOf]; omega
        · obtain rfl : m = 0 := by omega
          have hbw := hr.le.2
          have hsz : W0.heap.size = w.heap.size + 1 := by rw [← hW0]; simp
          have hres : Hid (wr.heap[w.heap.size]? = some (.cells #[.string ⟨#[]⟩, .string ⟨#[]⟩, .string ⟨#[]⟩, .int .i64 0, .int .i64 0, .int .i64 0, .slice none 0 0, .slice none 0 0, .slice none 0 0, .slice none 0 0] 25 (0, 0))) := (hy2.out.gr.block w.heap.size (by omega) (fun e => by have e' : w.heap.size = b := (by cases e; rfl); omega)).trans (by rw [← hW0]; exact heap_alloc_new w _)
          have HW0 := Lib.hid hW0
          have HSZ := Lib.hid hsz
          have HBW := Lib.hid hbw
          have hbx2 := hy2.out.box
          have v0 := hbx2.c0
          have v1 := hbx2.c1
          have v2 := hbx2.c2
          have v3 := hbx2.c3
          have v4 := hbx2.c4
          have v5 := hbx2.c5
          have v6 := hbx2.c6
          have v7 := hbx2.c7
          have v8 := hbx2.c8
          have v9 := hbx2.c9
          clear hsz hbw hbx2 hW0
          go_wp2_with (first
            | (refine wpList_store_row rfl 25 _ _ rfl w.heap.size (LegC (mkD nm fr dst dep arr cap 3 L3 j Bz) (mkP gL cL gS gb cb)) rfl rfl 25 #[.string ⟨#[]⟩, .string ⟨#[]⟩, .string ⟨#[]⟩, .int .i64 0, .int .i64 0, .int .i64 0, .slice none 0 0, .slice none 0 0, .slice none 0 0, .slice none 0 0] hres.out legSize rfl (leg_one1 _ _) ?_)
            | fail)
          clear v0 v1 v2 v3 v4 v5 v6 v7 v8 v9
          have hfin : LegBox (wr.setRow w.heap.size (LegC (mkD nm fr dst dep arr cap 3 L3 j Bz) (mkP gL cL gS gb cb))) w.heap.size (mkD nm fr dst dep arr cap 3 L3 j Bz) (mkP gL cL gS gb cb) := setRow_heap wr w.heap.size _ _ _ _ hres.out
          have gr := grown_setRow wr w.heap.size (LegC (mkD nm fr dst dep arr cap 3 L3 j Bz) (mkP gL cL gS gb cb))
          have hpost : Hid (DrawnLeg B (p + 20) b nm fr dst dep w (.returned (LegV (mkD nm fr dst dep arr cap 3 L3 j Bz) (mkP gL cL gS gb cb))) (wr.setRow w.heap.size (LegC (mkD nm fr dst dep arr cap 3 L3 j Bz) (mkP gL cL gS gb cb)))) := by
            have h1 := lt_own hy2.out.oL
            have h2 := lt_own hy2.out.oS
            have h3 := lt_own hy2.out.oB
            have hsz := HSZ.out
            have hbw := HBW.out
            refine ⟨_, _, rfl, ⟨arr, cap, L3, j, Bz, rfl, harr1, hcap1, HL3.out, ⟨hj1, by omega⟩, hB.out⟩, ⟨own_numsY (hy2.out.oL.kept gr (.inr (by simp [Value.ownBlock]; omega))), own_numsY (hy2.out.oS.kept gr (.inr (by simp [Value.ownBlock]; omega))), own_numsY (hy2.out.oB.kept gr (.inr (by simp [Value.ownBlock]; omega))), .inl rfl⟩, ?_, Nat.le_refl _, hy2.out.rd.far gr (fun k e => by cases e; exact hbw), ?_⟩
            · exact ⟨fun _ x hx => (by cases hx; show gL ≠ b; omega), fun _ x hx => (by cases hx; show gS ≠ b; omega), fun _ x hx => (by cases hx; show gb ≠ b; omega), fun h => absurd h (Nat.lt_irrefl _)⟩
            · have g1 : w.grownBy W0 (some b) := by rw [← HW0.out]; exact World.grownBy_alloc w _ _
              have g2 := grown_trans g1 hy2.out.gr
              exact ⟨gr.os.trans g2.os, gr.tape.trans g2.tape, gr.output.trans g2.output, Nat.le_trans g2.size gr.size, fun k hk hr => (gr.block k (Nat.lt_of_lt_of_le hk g2.size) (fun e => by have e' : k = w.heap.size := (by cases e; rfl); omega)).trans (g2.block k hk hr)⟩
          generalize wr.setRow w.heap.size (LegC (mkD nm fr dst dep arr cap 3 L3 j Bz) (mkP gL cL gS gb cb)) = W9 at *
          have y0 := hfin.c0
          have y1 := hfin.c1
          have y2 := hfin.c2
          have y3 := hfin.c3
          have y4 := hfin.c4
          have y5 := hfin.c5
          have y6 := hfin.c6
          have y7 := hfin.c7
          have y8 := hfin.c8
          have y9 := hfin.c9
          clear hfin gr
          refine bodyPost_ret (v := LegV (mkD nm fr dst dep arr cap 3 L3 j Bz) (mkP gL cL gS gb cb)) ?_ rfl hpost.out
          rw [LegV_eq]
          unfold LegC
          rw [results_cell1 rfl]
          go_simp
          all_goals rfl
end Go.Proofs.YtdaccpffdnbkiaaGreatDoor
