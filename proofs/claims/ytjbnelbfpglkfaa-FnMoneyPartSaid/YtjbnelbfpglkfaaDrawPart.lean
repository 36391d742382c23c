/-
  What DrawMoneyPart draws: three ints, in a world that has only grown.
-/
import Derived.Test.YtjbnelbfpglkfaaDrawMoney
import Derived.Test.YtjbnelbfpglkfaaFree
import Derived.Deep.Cut
import Derived.OwnWalk
namespace Go.Proofs.Ytjbnelbfpglkfaa
open Go.RowKit
set_option linter.unusedVariables false
set_option linter.unusedSimpArgs false

theorem Deps.get {S : Nat → World → Value → Prop} {f : Nat → Value} {w : World} : ∀ {l : List Nat}, Deps S f w l → ∀ {n : Nat}, n ∈ l → S n w (f n)
  | [], _, _, h => by cases h
  | m :: l, hd, n, h => by
    rcases List.mem_cons.1 h with e | e
    · subst e; exact hd.1
    · exact Deps.get hd.2 e
theorem lt_heapP {w : World} {b : Nat} {o : Obj} (h : w.heap[b]? = some o) : b < w.heap.size := (Array.getElem?_eq_some_iff.1 h).1
theorem grown_id (w : World) (row : Option Nat) : w.grownBy w row := ⟨rfl, rfl, rfl, Nat.le_refl _, fun _ _ _ => rfl⟩
def RdAt (B Q b : Nat) (W : World) : Prop := ∃ q, q ≤ Q ∧ Rd B W b q
theorem RdAt.alloc {B Q b : Nat} {W : World} (h : RdAt B Q b W) (o : Obj) : RdAt B Q b (W.alloc o) := by
  obtain ⟨q, h1, h2⟩ := h
  exact ⟨q, h1, rd_alloc h2 o⟩
theorem RdAt.mono {B Q Q' b : Nat} {W : World} (h : RdAt B Q b W) (hq : Q ≤ Q') : RdAt B Q' b W := by
  obtain ⟨q, h1, h2⟩ := h
  exact ⟨q, by omega, h2⟩
theorem RdAt.lt {B Q b : Nat} {W : World} (h : RdAt B Q b W) : b < W.heap.size := by
  obtain ⟨q, h1, h2⟩ := h
  exact h2.le.2
theorem below_step {w w1 w2 : World} (h : Below w.heap.size w w1) (hg : w1.grownBy w2 (some w.heap.size)) : Below w.heap.size w w2 := h.grown hg h.size (fun k e => by cases e; exact Nat.le_refl _)
def IPart (w : World) (k : Nat) (W : World) : Prop := RdAt w.heap.size (10 * k) w.heap.size W ∧ Below w.heap.size w W
theorem IPart.step {w W : World} {k : Nat} (h : IPart w k W) : IPart w (k + 1) W := ⟨RdAt.mono h.1 (by omega), h.2⟩
def SPart (b : Nat) (i : Nat) (W : World) (v : Value) : Prop := match i with
  | 0 => v = .pointer (some ⟨b, 0, none⟩)
  | 1 => ∃ x : Int, v = .int .i64 x
  | 2 => v = .pointer (some ⟨b, 0, none⟩)
  | 3 => ∃ x : Int, v = .int .i64 x
  | 4 => v = .pointer (some ⟨b, 0, none⟩)
  | 5 => ∃ x : Int, v = .int .i64 x
  | 6 => ∃ g : Nat, v = .slice (some ⟨g, 0, none⟩) 5 5 ∧ g ≠ b ∧ ∃ x0 x1 x2 x3 x4 : Int, W.heap[g]? = some (.cells #[.int .i64 x0, .int .i64 x1, .int .i64 x2, .int .i64 x3, .int .i64 x4] 3 (0, 0))
  | 7 => v = .pointer (some ⟨b, 0, none⟩)
  | 8 => ∃ i : Nat, i < 12 ∧ v = .int .i64 (i : Int)
  | 9 => ∃ y : Int, 0 ≤ y ∧ y ≤ 55 ∧ v = .int .i64 y
  | 10 => ∃ j : Int, 0 ≤ j ∧ j < 5 ∧ v = .int .i64 j
  | 11 => ∃ g j : Nat, j < 5 ∧ v = .pointer (some ⟨g, j, none⟩) ∧ g ≠ b ∧ ∃ x0 x1 x2 x3 x4 : Int, W.heap[g]? = some (.cells #[.int .i64 x0, .int .i64 x1, .int .i64 x2, .int .i64 x3, .int .i64 x4] 3 (0, 0))
  | 12 => ∃ x : Int, v = .int .i64 x
  | 13 => v = .pointer (some ⟨b, 0, none⟩)
  | 14 => ∃ x : Int, 0 ≤ x ∧ x < 20 ∧ v = .int .i64 x
  | 15 => ∃ x : Int, v = .int .i64 x
  | 16 => ∃ g : Nat, v = .slice (some ⟨g, 0, none⟩) 5 5 ∧ g ≠ b ∧ ∃ x0 x1 x2 x3 x4 : Int, W.heap[g]? = some (.cells #[.int .i64 x0, .int .i64 x1, .int .i64 x2, .int .i64 x3, .int .i64 x4] 3 (0, 0))
  | 17 => v = .pointer (some ⟨b, 0, none⟩)
  | 18 => ∃ i : Nat, i < 12 ∧ v = .int .i64 (i : Int)
  | 19 => ∃ y : Int, 0 ≤ y ∧ y ≤ 55 ∧ v = .int .i64 y
  | 20 => ∃ j : Int, 0 ≤ j ∧ j < 5 ∧ v = .int .i64 j
  | 21 => ∃ g j : Nat, j < 5 ∧ v = .pointer (some ⟨g, j, none⟩) ∧ g ≠ b ∧ ∃ x0 x1 x2 x3 x4 : Int, W.heap[g]? = some (.cells #[.int .i64 x0, .int .i64 x1, .int .i64 x2, .int .i64 x3, .int .i64 x4] 3 (0, 0))
  | 22 => ∃ x : Int, v = .int .i64 x
  | 23 => ∃ x : Int, v = .int .i64 x
  | 24 => ∃ x : Int, v = .int .i64 x
  | 25 => ∃ x : Int, v = .int .i64 x
  | _ => True
theorem SPart.kept {b i : Nat} {W W' : World} {v : Value} (h : SPart b i W v) (hg : W.grownBy W' (some b)) : SPart b i W' v := by
  match i, h with
  | 0, h => exact h
  | 1, h => exact h
  | 2, h => exact h
  | 3, h => exact h
  | 4, h => exact h
  | 5, h => exact h
  | 6, ⟨g, h1, h2, x0, x1, x2, x3, x4, h3⟩ => exact ⟨g, h1, h2, x0, x1, x2, x3, x4, (hg.block g (lt_heapP h3) (fun e => h2 (by cases e; rfl))).trans h3⟩
  | 7, h => exact h
  | 8, h => exact h
  | 9, h => exact h
  | 10, h => exact h
  | 11, ⟨g, j, h0, h1, h2, x0, x1, x2, x3, x4, h3⟩ => exact ⟨g, j, h0, h1, h2, x0, x1, x2, x3, x4, (hg.block g (lt_heapP h3) (fun e => h2 (by cases e; rfl))).trans h3⟩
  | 12, h => exact h
  | 13, h => exact h
  | 14, h => exact h
  | 15, h => exact h
  | 16, ⟨g, h1, h2, x0, x1, x2, x3, x4, h3⟩ => exact ⟨g, h1, h2, x0, x1, x2, x3, x4, (hg.block g (lt_heapP h3) (fun e => h2 (by cases e; rfl))).trans h3⟩
  | 17, h => exact h
  | 18, h => exact h
  | 19, h => exact h
  | 20, h => exact h
  | 21, ⟨g, j, h0, h1, h2, x0, x1, x2, x3, x4, h3⟩ => exact ⟨g, j, h0, h1, h2, x0, x1, x2, x3, x4, (hg.block g (lt_heapP h3) (fun e => h2 (by cases e; rfl))).trans h3⟩
  | 22, h => exact h
  | 23, h => exact h
  | 24, h => exact h
  | 25, h => exact h
  | i + 26, h => exact trivial
def DrawnThree (w : World) (e : Ending) (w' : World) : Prop := ∃ a n d : Int, e = .returned (.tuple #[.int .i64 a, .int .i64 n, .int .i64 d]) ∧ Below w.heap.size w w'
set_option maxRecDepth 100000 in
set_option maxHeartbeats 8000000 in
theorem drawThree (a0 : Option Addr) (len cap : Nat) (z : List Int) (w : World) (w0 : IsRow .u8 w a0 len cap z) :
    Calls Try.prog 4 #[.slice a0 len cap] w (DrawnThree w) := by
  go_enter Try.func4, Try.ntmps4
  go_wp2_with fail
  refine (opened a0 len cap z _ w0).mono ?_
  rintro e w1 ⟨rfl, hr1, hb1, -⟩
  clear w0
  go_upto_region 2 with fail
  refine wp_region_free' (by kernel_rfl) (IPart w) (fun W W' => W.grownBy W' (some w.heap.size)) (SPart w.heap.size) (by kernel_rfl) (fun i k v W W' h _ hg => h.kept hg) ⟨⟨0, Nat.zero_le _, hr1⟩, hb1.drew⟩ ?_
  apply Exists.intro
  apply And.intro
  · intro f
    simp only [over, List.set]
    exact rfl
  refine ⟨?hops, ?hend⟩
  case hops =>
    refine EachOp.cons ?_ (EachOp.cons ?_ (EachOp.cons ?_ (EachOp.cons ?_ (EachOp.cons ?_ (EachOp.cons ?_ (EachOp.cons ?_ (EachOp.cons ?_ (EachOp.cons ?_ (EachOp.cons ?_ (EachOp.cons ?_ (EachOp.cons ?_ (EachOp.cons ?_ (EachOp.cons ?_ (EachOp.cons ?_ (EachOp.cons ?_ (EachOp.cons ?_ (EachOp.cons ?_ (EachOp.cons ?_ (EachOp.cons ?_ (EachOp.cons ?_ (EachOp.cons ?_ (EachOp.cons ?_ (EachOp.cons ?_ (EachOp.cons ?_ (EachOp.cons ?_ (EachOp.nil))))))))))))))))))))))))))
    · intro ff kk ww hkk hI hd QQ' hQ
      try dsimp only
      have hkk2 : kk < 26 := hkk
      go_big_wp2_with fail
      refine hQ _ _ _ ?_ hI.step (grown_id _ _) rfl
      first | rfl | (simp [upd]; done)
    · intro ff kk ww hkk hI hd QQ' hQ
      try dsimp only
      have hkk2 : kk < 26 := hkk
      have c0 : ff 0 = _ := hd.get (n := 0) (by decide)
      obtain ⟨qq, hqq, hrq⟩ := hI.1
      go_big_wp2_with fail
      refine (drawAmount w.heap.size w.heap.size qq ww hrq (by omega)).mono ?_
      rintro e wp ⟨xp, lp, up, rfl, hrp, hgp⟩
      have hI' : IPart w (kk + 1) wp := ⟨⟨_, (by omega), hrp⟩, below_step hI.2 hgp⟩
      clear hrp hrq
      go_big_wp2_with fail
      refine hQ _ _ wp ?_ hI' hgp ⟨xp, rfl⟩
      first | rfl | (simp [upd, c0]; done)
    · intro ff kk ww hkk hI hd QQ' hQ
      try dsimp only
      have hkk2 : kk < 26 := hkk
      go_big_wp2_with fail
      refine hQ _ _ _ ?_ hI.step (grown_id _ _) rfl
      first | rfl | (simp [upd]; done)
    · intro ff kk ww hkk hI hd QQ' hQ
      try dsimp only
      have hkk2 : kk < 26 := hkk
      have c2 : ff 2 = _ := hd.get (n := 2) (by decide)
      obtain ⟨qq, hqq, hrq⟩ := hI.1
      go_big_wp2_with fail
      refine (pick w.heap.size w.heap.size qq 20 ww hrq (by omega) (by omega) (by omega)).mono ?_
      rintro e wp ⟨xp, lp, up, rfl, hrp, hgp, -⟩
      have hI' : IPart w (kk + 1) wp := ⟨⟨_, (by omega), hrp⟩, below_step hI.2 hgp⟩
      clear hrp hrq
      go_big_wp2_with fail
      refine hQ _ _ wp ?_ hI' hgp ⟨xp, rfl⟩
      first | rfl | (simp [upd, c2]; done)
    · intro ff kk ww hkk hI hd QQ' hQ
      try dsimp only
      have hkk2 : kk < 26 := hkk
      go_big_wp2_with fail
      refine hQ _ _ _ ?_ hI.step (grown_id _ _) rfl
      first | rfl | (simp [upd]; done)
    · intro ff kk ww hkk hI hd QQ' hQ
      try dsimp only
      have hkk2 : kk < 26 := hkk
      have c4 : ff 4 = _ := hd.get (n := 4) (by decide)
      obtain ⟨qq, hqq, hrq⟩ := hI.1
      go_big_wp2_with fail
      refine (pick w.heap.size w.heap.size qq 10000 ww hrq (by omega) (by omega) (by omega)).mono ?_
      rintro e wp ⟨xp, lp, up, rfl, hrp, hgp, -⟩
      have hI' : IPart w (kk + 1) wp := ⟨⟨_, (by omega), hrp⟩, below_step hI.2 hgp⟩
      clear hrp hrq
      go_big_wp2_with fail
      refine hQ _ _ wp ?_ hI' hgp ⟨xp, rfl⟩
      first | rfl | (simp [upd, c4]; done)
    · intro ff kk ww hkk hI hd QQ' hQ
      try dsimp only
      have hkk2 : kk < 26 := hkk
      obtain ⟨x3, c3⟩ := hd.get (n := 3) (by decide)
      obtain ⟨x5, c5⟩ := hd.get (n := 5) (by decide)
      have c3' : ff 3 = _ := c3
      have c5' : ff 5 = _ := c5
      have hgx := World.grownBy_alloc ww (.cells #[.int .i64 x3, .int .i64 x5, .int .i64 1000000, .int .i64 1000001, .int .i64 (-1)] 3) (some w.heap.size)
      have hI' : IPart w (kk + 1) (ww.alloc (.cells #[.int .i64 x3, .int .i64 x5, .int .i64 1000000, .int .i64 1000001, .int .i64 (-1)] 3)) := ⟨(RdAt.alloc hI.1 _).mono (by omega), hI.2.alloc hI.2.size _⟩
      have hlt := RdAt.lt hI.1
      go_big_wp2_with fail
      refine hQ _ _ _ ?_ hI' hgx ⟨ww.heap.size, rfl, by omega, _, _, _, _, _, heap_alloc_new ww _⟩
      first | rfl | (simp [upd, c3', c5']; done)
    · intro ff kk ww hkk hI hd QQ' hQ
      try dsimp only
      have hkk2 : kk < 26 := hkk
      go_big_wp2_with fail
      refine hQ _ _ _ ?_ hI.step (grown_id _ _) rfl
      first | rfl | (simp [upd]; done)
    · intro ff kk ww hkk hI hd QQ' hQ
      try dsimp only
      have hkk2 : kk < 26 := hkk
      have c7 : ff 7 = _ := hd.get (n := 7) (by decide)
      obtain ⟨qq, hqq, hrq⟩ := hI.1
      go_big_wp2_with fail
      refine (pick w.heap.size w.heap.size qq 12 ww hrq (by omega) (by omega) (by omega)).mono ?_
      rintro e wp ⟨xp, lp, up, rfl, hrp, hgp, -⟩
      obtain ⟨ip, rfl⟩ := Int.eq_ofNat_of_zero_le lp
      have hI' : IPart w (kk + 1) wp := ⟨⟨_, (by omega), hrp⟩, below_step hI.2 hgp⟩
      clear hrp hrq
      go_big_wp2_with fail
      refine hQ _ _ wp ?_ hI' hgp ⟨ip, by omega, rfl⟩
      first | rfl | (simp [upd, c7]; done)
    · intro ff kk ww hkk hI hd QQ' hQ
      try dsimp only
      have hkk2 : kk < 26 := hkk
      obtain ⟨i, hi, c8⟩ := hd.get (n := 8) (by decide)
      have c8' : ff 8 = _ := c8
      have ew : IntKind.i64.wrap ((i : Int) * 5) = (i : Int) * 5 := IntWalk.i64_in _ (by omega)
      go_big_wp2_with fail
      refine hQ _ _ _ ?_ hI.step (grown_id _ _) ⟨(i : Int) * 5, by omega, by omega, rfl⟩
      first | rfl | (simp [upd, c8', ew]; done)
    · intro ff kk ww hkk hI hd QQ' hQ
      try dsimp only
      have hkk2 : kk < 26 := hkk
      obtain ⟨y, m0, m1, c9⟩ := hd.get (n := 9) (by decide)
      have c9' : ff 9 = _ := c9
      have mt : y.tdiv 12 = y / 12 := Int.tdiv_eq_ediv_of_nonneg m0
      have mw : IntKind.i64.wrap (y / 12) = y / 12 := IntWalk.i64_in _ (by omega)
      have m2 : 0 ≤ y / 12 ∧ y / 12 < 5 := by omega
      go_big_wp2_with fail
      refine hQ _ _ _ ?_ hI.step (grown_id _ _) ⟨y / 12, m2.1, m2.2, rfl⟩
      first | rfl | (simp [upd, c9', mt, mw]; done)
    · intro ff kk ww hkk hI hd QQ' hQ
      try dsimp only
      have hkk2 : kk < 26 := hkk
      obtain ⟨lb, c6, hlb, x0, x1, x2, x3, x4, hz⟩ := hd.get (n := 6) (by decide)
      obtain ⟨jj, hj0, hj1, c10⟩ := hd.get (n := 10) (by decide)
      obtain ⟨j, rfl⟩ := Int.eq_ofNat_of_zero_le hj0
      have hj : j < 5 := by omega
      have c6' : ff 6 = _ := c6
      have c10' : ff 10 = _ := c10
      have k1 : (j : Int) < 5 := by omega
      have k0 : (0 : Int) ≤ j := by omega
      go_big_wp2_with fail
      refine hQ _ _ _ ?_ hI.step (grown_id _ _) ⟨lb, j, hj, rfl, hlb, x0, x1, x2, x3, x4, hz⟩
      first | rfl | (simp [upd, c6', c10']; done)
    · intro ff kk ww hkk hI hd QQ' hQ
      try dsimp only
      have hkk2 : kk < 26 := hkk
      obtain ⟨lb, j, hj, c11, hlb, x0, x1, x2, x3, x4, hz⟩ := hd.get (n := 11) (by decide)
      have c11' : ff 11 = _ := c11
      obtain ⟨y, hy⟩ : ∃ y, ww.cell? ⟨lb, j, none⟩ = some (.int .i64 y) := by
        rcases (by omega : j = 0 ∨ j = 1 ∨ j = 2 ∨ j = 3 ∨ j = 4) with rfl | rfl | rfl | rfl | rfl <;> exact ⟨_, by rw [Lib.cell_of_heap hz]; rfl⟩
      go_big_wp2_with fail
      refine hQ _ _ _ ?_ hI.step (grown_id _ _) ⟨y, rfl⟩
      first | rfl | (simp [upd, c11']; done)
    · intro ff kk ww hkk hI hd QQ' hQ
      try dsimp only
      have hkk2 : kk < 26 := hkk
      go_big_wp2_with fail
      refine hQ _ _ _ ?_ hI.step (grown_id _ _) rfl
      first | rfl | (simp [upd]; done)
    · intro ff kk ww hkk hI hd QQ' hQ
      try dsimp only
      have hkk2 : kk < 26 := hkk
      have c13 : ff 13 = _ := hd.get (n := 13) (by decide)
      obtain ⟨qq, hqq, hrq⟩ := hI.1
      go_big_wp2_with fail
      refine (pick w.heap.size w.heap.size qq 20 ww hrq (by omega) (by omega) (by omega)).mono ?_
      rintro e wp ⟨xp, lp, up, rfl, hrp, hgp, -⟩
      have hI' : IPart w (kk + 1) wp := ⟨⟨_, (by omega), hrp⟩, below_step hI.2 hgp⟩
      clear hrp hrq
      go_big_wp2_with fail
      refine hQ _ _ wp ?_ hI' hgp ⟨xp, lp, up, rfl⟩
      first | rfl | (simp [upd, c13]; done)
    · intro ff kk ww hkk hI hd QQ' hQ
      try dsimp only
      have hkk2 : kk < 26 := hkk
      obtain ⟨x, x0, x1, c14⟩ := hd.get (n := 14) (by decide)
      have c14' : ff 14 = _ := c14
      have ew : IntKind.i64.wrap (1 + x) = 1 + x := IntWalk.i64_in _ (by omega)
      go_big_wp2_with fail
      refine hQ _ _ _ ?_ hI.step (grown_id _ _) ⟨1 + x, rfl⟩
      first | rfl | (simp [upd, c14', ew]; done)
    · intro ff kk ww hkk hI hd QQ' hQ
      try dsimp only
      have hkk2 : kk < 26 := hkk
      obtain ⟨x15, c15⟩ := hd.get (n := 15) (by decide)
      have c15' : ff 15 = _ := c15
      have hgx := World.grownBy_alloc ww (.cells #[.int .i64 x15, .int .i64 10000, .int .i64 1000000, .int .i64 0, .int .i64 2] 3) (some w.heap.size)
      have hI' : IPart w (kk + 1) (ww.alloc (.cells #[.int .i64 x15, .int .i64 10000, .int .i64 1000000, .int .i64 0, .int .i64 2] 3)) := ⟨(RdAt.alloc hI.1 _).mono (by omega), hI.2.alloc hI.2.size _⟩
      have hlt := RdAt.lt hI.1
      go_big_wp2_with fail
      refine hQ _ _ _ ?_ hI' hgx ⟨ww.heap.size, rfl, by omega, _, _, _, _, _, heap_alloc_new ww _⟩
      first | rfl | (simp [upd, c15']; done)
    · intro ff kk ww hkk hI hd QQ' hQ
      try dsimp only
      have hkk2 : kk < 26 := hkk
      go_big_wp2_with fail
      refine hQ _ _ _ ?_ hI.step (grown_id _ _) rfl
      first | rfl | (simp [upd]; done)
    · intro ff kk ww hkk hI hd QQ' hQ
      try dsimp only
      have hkk2 : kk < 26 := hkk
      have c17 : ff 17 = _ := hd.get (n := 17) (by decide)
      obtain ⟨qq, hqq, hrq⟩ := hI.1
      go_big_wp2_with fail
      refine (pick w.heap.size w.heap.size qq 12 ww hrq (by omega) (by omega) (by omega)).mono ?_
      rintro e wp ⟨xp, lp, up, rfl, hrp, hgp, -⟩
      obtain ⟨ip, rfl⟩ := Int.eq_ofNat_of_zero_le lp
      have hI' : IPart w (kk + 1) wp := ⟨⟨_, (by omega), hrp⟩, below_step hI.2 hgp⟩
      clear hrp hrq
      go_big_wp2_with fail
      refine hQ _ _ wp ?_ hI' hgp ⟨ip, by omega, rfl⟩
      first | rfl | (simp [upd, c17]; done)
    · intro ff kk ww hkk hI hd QQ' hQ
      try dsimp only
      have hkk2 : kk < 26 := hkk
      obtain ⟨i, hi, c18⟩ := hd.get (n := 18) (by decide)
      have c18' : ff 18 = _ := c18
      have ew : IntKind.i64.wrap ((i : Int) * 5) = (i : Int) * 5 := IntWalk.i64_in _ (by omega)
      go_big_wp2_with fail
      refine hQ _ _ _ ?_ hI.step (grown_id _ _) ⟨(i : Int) * 5, by omega, by omega, rfl⟩
      first | rfl | (simp [upd, c18', ew]; done)
    · intro ff kk ww hkk hI hd QQ' hQ
      try dsimp only
      have hkk2 : kk < 26 := hkk
      obtain ⟨y, m0, m1, c19⟩ := hd.get (n := 19) (by decide)
      have c19' : ff 19 = _ := c19
      have mt : y.tdiv 12 = y / 12 := Int.tdiv_eq_ediv_of_nonneg m0
      have mw : IntKind.i64.wrap (y / 12) = y / 12 := IntWalk.i64_in _ (by omega)
      have m2 : 0 ≤ y / 12 ∧ y / 12 < 5 := by omega
      go_big_wp2_with fail
      refine hQ _ _ _ ?_ hI.step (grown_id _ _) ⟨y / 12, m2.1, m2.2, rfl⟩
      first | rfl | (simp [upd, c19', mt, mw]; done)
    · intro ff kk ww hkk hI hd QQ' hQ
      try dsimp only
      have hkk2 : kk < 26 := hkk
      obtain ⟨lb, c16, hlb, x0, x1, x2, x3, x4, hz⟩ := hd.get (n := 16) (by decide)
      obtain ⟨jj, hj0, hj1, c20⟩ := hd.get (n := 20) (by decide)
      obtain ⟨j, rfl⟩ := Int.eq_ofNat_of_zero_le hj0
      have hj : j < 5 := by omega
      have c16' : ff 16 = _ := c16
      have c20' : ff 20 = _ := c20
      have k1 : (j : Int) < 5 := by omega
      have k0 : (0 : Int) ≤ j := by omega
      go_big_wp2_with fail
      refine hQ _ _ _ ?_ hI.step (grown_id _ _) ⟨lb, j, hj, rfl, hlb, x0, x1, x2, x3, x4, hz⟩
      first | rfl | (simp [upd, c16', c20']; done)
    · intro ff kk ww hkk hI hd QQ' hQ
      try dsimp only
      have hkk2 : kk < 26 := hkk
      obtain ⟨lb, j, hj, c21, hlb, x0, x1, x2, x3, x4, hz⟩ := hd.get (n := 21) (by decide)
      have c21' : ff 21 = _ := c21
      obtain ⟨y, hy⟩ : ∃ y, ww.cell? ⟨lb, j, none⟩ = some (.int .i64 y) := by
        rcases (by omega : j = 0 ∨ j = 1 ∨ j = 2 ∨ j = 3 ∨ j = 4) with rfl | rfl | rfl | rfl | rfl <;> exact ⟨_, by rw [Lib.cell_of_heap hz]; rfl⟩
      go_big_wp2_with fail
      refine hQ _ _ _ ?_ hI.step (grown_id _ _) ⟨y, rfl⟩
      first | rfl | (simp [upd, c21']; done)
    · intro ff kk ww hkk hI hd QQ' hQ
      try dsimp only
      have hkk2 : kk < 26 := hkk
      obtain ⟨y, c1⟩ := hd.get (n := 1) (by decide)
      have c1' : ff 1 = _ := c1
      go_big_wp2_with fail
      refine hQ _ _ _ ?_ hI.step (grown_id _ _) ⟨y, rfl⟩
      first | rfl | (simp [upd, c1']; done)
    · intro ff kk ww hkk hI hd QQ' hQ
      try dsimp only
      have hkk2 : kk < 26 := hkk
      obtain ⟨y, c12⟩ := hd.get (n := 12) (by decide)
      have c12' : ff 12 = _ := c12
      go_big_wp2_with fail
      refine hQ _ _ _ ?_ hI.step (grown_id _ _) ⟨y, rfl⟩
      first | rfl | (simp [upd, c12']; done)
    · intro ff kk ww hkk hI hd QQ' hQ
      try dsimp only
      have hkk2 : kk < 26 := hkk
      obtain ⟨y, c22⟩ := hd.get (n := 22) (by decide)
      have c22' : ff 22 = _ := c22
      go_big_wp2_with fail
      refine hQ _ _ _ ?_ hI.step (grown_id _ _) ⟨y, rfl⟩
      first | rfl | (simp [upd, c22']; done)
  case hend =>
  intro ff kk ww hI hS
  try dsimp only
  obtain ⟨a, c23⟩ := hS 23 (by decide)
  obtain ⟨n, c24⟩ := hS 24 (by decide)
  obtain ⟨d, c25⟩ := hS 25 (by decide)
  have c23' : ff 23 = _ := c23
  have c24' : ff 24 = _ := c24
  have c25' : ff 25 = _ := c25
  rw [c23', c24', c25']
  go_wp2
  go_ret3
  exact ⟨a, n, d, rfl, hI.2⟩
end Go.Proofs.Ytjbnelbfpglkfaa
