/-
  A leg's lists in memory of their own, marked with numbers by the law, and the marks read (as XLegHolding, XLegDropMath, XLegW and XLegMark, without the program's linked list).
-/
import Derived.Test.YtlfmhhdlandcjaaGreatDoorLegOkI
import Derived.Deep.AppendLies
namespace Go.Proofs.YtlfmhhdlandcjaaGreatDoor
open Go.RowKit
set_option linter.unusedVariables false
set_option linter.unusedSimpArgs false

theorem LegV_eq (d : LegD) (p : LegP) : LegV d p = .agg (LegC d p) := rfl
/-- A slice of ints of its own whose block lies from lo on, ahead of hi. -/
def NumsR (lo hi : Nat) (w : World) (a : Option Addr) (len : Nat) (z : Nat → Int) : Prop :=
  len = 0 ∨ ∃ g, a = some ⟨g, 0, none⟩ ∧ lo ≤ g ∧ g < hi ∧ g < w.heap.size ∧ ∀ i, i < len → w.cell? ⟨g, i, none⟩ = some (.int .i64 (z i)) ∧ w.frozen? ⟨g, i, none⟩ = false
def HoldsR (lo hi : Nat) (w : World) (a : Option Addr) (len : Nat) (t c s : Nat → Int) : Prop :=
  len = 0 ∨ ∃ g, a = some ⟨g, 0, none⟩ ∧ lo ≤ g ∧ g < hi ∧ g < w.heap.size ∧ ∀ i, i < len → (w.cell? ⟨g, i * 3, none⟩ = some (.int .i64 (t i)) ∧ w.cell? ⟨g, i * 3 + 1, none⟩ = some (.int .i64 (c i)) ∧ w.cell? ⟨g, i * 3 + 2, none⟩ = some (.int .i64 (s i))) ∧ ∀ j, j < len * 3 → w.frozen? ⟨g, j, none⟩ = false
theorem NumsR.far {lo hi : Nat} {w w' : World} {a : Option Addr} {len : Nat} {z : Nat → Int} {row : Option Nat} (h : NumsR lo hi w a len z) (hg : w.grownBy w' row) (hr : ∀ k, row = some k → k < lo ∨ hi ≤ k) : NumsR lo hi w' a len z := by
  rcases h with h | ⟨g, h1, h2, h5, h3, h4⟩
  · exact Or.inl h
  · have hne : some g ≠ row := fun e => by have := hr g e.symm; omega
    exact Or.inr ⟨g, h1, h2, h5, Nat.lt_of_lt_of_le h3 hg.size, fun i hi => ⟨(hg.cell_far ⟨g, i, none⟩ h3 hne).trans (h4 i hi).1, (hg.frozen_far ⟨g, i, none⟩ h3 hne).trans (h4 i hi).2⟩⟩
theorem HoldsR.far {lo hi : Nat} {w w' : World} {a : Option Addr} {len : Nat} {t c s : Nat → Int} {row : Option Nat} (h : HoldsR lo hi w a len t c s) (hg : w.grownBy w' row) (hr : ∀ k, row = some k → k < lo ∨ hi ≤ k) : HoldsR lo hi w' a len t c s := by
  rcases h with h | ⟨g, h1, h2, h5, h3, h4⟩
  · exact Or.inl h
  · have hne : some g ≠ row := fun e => by have := hr g e.symm; omega
    exact Or.inr ⟨g, h1, h2, h5, Nat.lt_of_lt_of_le h3 hg.size, fun i hi => ⟨⟨(hg.cell_far ⟨g, i * 3, none⟩ h3 hne).trans (h4 i hi).1.1, (hg.cell_far ⟨g, i * 3 + 1, none⟩ h3 hne).trans (h4 i hi).1.2.1, (hg.cell_far ⟨g, i * 3 + 2, none⟩ h3 hne).trans (h4 i hi).1.2.2⟩, fun j hj => (hg.frozen_far ⟨g, j, none⟩ h3 hne).trans ((h4 i hi).2 j hj)⟩⟩
theorem NumsR.kept {lo hi : Nat} {w w' : World} {a : Option Addr} {len : Nat} {z : Nat → Int} (h : NumsR lo hi w a len z) (hb : Below w.heap.size w w') : NumsR lo hi w' a len z := h.far (toGr hb) (fun k e => by cases e)
theorem HoldsR.kept {lo hi : Nat} {w w' : World} {a : Option Addr} {len : Nat} {t c s : Nat → Int} (h : HoldsR lo hi w a len t c s) (hb : Below w.heap.size w w') : HoldsR lo hi w' a len t c s := h.far (toGr hb) (fun k e => by cases e)
theorem NumsR.nums {lo hi : Nat} {w : World} {a : Option Addr} {len : Nat} {z : Nat → Int} (h : NumsR lo hi w a len z) : Nums w a len z := by
  rcases h with h | ⟨g, h1, -, -, h3, h4⟩
  · exact Or.inl h
  · exact Or.inr ⟨g, 0, h1, h3, fun i hi => by rw [Nat.zero_add]; exact (h4 i hi).1⟩
theorem HoldsR.holds {lo hi : Nat} {w : World} {a : Option Addr} {len : Nat} {t c s : Nat → Int} (h : HoldsR lo hi w a len t c s) : Holds w a len t c s := by
  rcases h with h | ⟨g, h1, -, -, h3, h4⟩
  · exact Or.inl h
  · exact Or.inr ⟨g, 0, h1, h3, fun i hi => by rw [Nat.zero_add]; exact (h4 i hi).1⟩

/-- A leg of its own: each of its lists in a block of its own, from B on. -/
def LegNew (B : Nat) (w : World) (d : LegD) (p : LegP) : Prop :=
  (d.nL ≤ p.cL ∧ d.nS ≤ p.cS ∧ d.nB ≤ p.cB ∧ d.nH ≤ p.cH) ∧ ∃ b1 b2 b3 b4, B ≤ b1 ∧ b1 ≤ b2 ∧ b2 ≤ b3 ∧ b3 ≤ b4 ∧ b4 ≤ w.heap.size ∧ NumsR B b1 w p.aL d.nL d.L ∧ NumsR b1 b2 w p.aS d.nS d.S ∧ NumsR b2 b3 w p.aB d.nB d.B ∧ HoldsR b3 b4 w p.aH d.nH d.t d.c d.s
theorem LegNew.leg {B : Nat} {w : World} {d : LegD} {p : LegP} (h : LegNew B w d p) : LegIn w d p := by
  obtain ⟨-, b1, b2, b3, b4, -, -, -, -, -, h1, h2, h3, h4⟩ := h
  exact ⟨h1.nums, h2.nums, h3.nums, h4.holds⟩
theorem LegNew.kept {B : Nat} {w w' : World} {d : LegD} {p : LegP} (h : LegNew B w d p) (hb : Below w.heap.size w w') : LegNew B w' d p := by
  obtain ⟨hc, b1, b2, b3, b4, q1, q2, q3, q4, q5, h1, h2, h3, h4⟩ := h
  exact ⟨hc, b1, b2, b3, b4, q1, q2, q3, q4, Nat.le_trans q5 hb.size, h1.kept hb, h2.kept hb, h3.kept hb, h4.kept hb⟩
theorem LegNew.far {B : Nat} {w w' : World} {d : LegD} {p : LegP} {row : Option Nat} (h : LegNew B w d p) (hg : w.grownBy w' row) (hr : ∀ k, row = some k → k < B) : LegNew B w' d p := by
  obtain ⟨hc, b1, b2, b3, b4, q1, q2, q3, q4, q5, h1, h2, h3, h4⟩ := h
  exact ⟨hc, b1, b2, b3, b4, q1, q2, q3, q4, Nat.le_trans q5 hg.size, h1.far hg (fun k e => by have := hr k e; omega), h2.far hg (fun k e => by have := hr k e; omega), h3.far hg (fun k e => by have := hr k e; omega), h4.far hg (fun k e => by have := hr k e; omega)⟩

theorem own_nums {W : World} {base len : Nat} {v : Value} {xs : List Value} {z : Nat → Int} (h : W.ownsRow base 3 1 v len xs) (hz : ∀ i, i < len → xs[i]? = some (.int .i64 (z i))) :
    ∃ a cap, v = .slice a len cap ∧ len ≤ cap ∧ NumsR base W.heap.size W a len z := by
  rcases h.2 with ⟨rfl, h0⟩ | ⟨g, cap, cur, rfl, hb, hg, hc, -⟩
  · exact ⟨none, 0, by rw [h0], by omega, .inl h0⟩
  · exact ⟨some ⟨g, 0, none⟩, cap, rfl, hc, .inr ⟨g, rfl, hb, lt_heap hg, lt_heap hg, fun i hi => ⟨(h.cellAt i (by omega)).trans (hz i hi), h.frozenAt i⟩⟩⟩
def LegNewT (B T : Nat) (w : World) (d : LegD) (p : LegP) : Prop :=
  (d.nL ≤ p.cL ∧ d.nS ≤ p.cS ∧ d.nB ≤ p.cB ∧ d.nH ≤ p.cH) ∧ ∃ b1 b2 b3 b4, B ≤ b1 ∧ b1 ≤ b2 ∧ b2 ≤ b3 ∧ b3 ≤ b4 ∧ b4 ≤ T ∧ T ≤ w.heap.size ∧ NumsR B b1 w p.aL d.nL d.L ∧ NumsR b1 b2 w p.aS d.nS d.S ∧ NumsR b2 b3 w p.aB d.nB d.B ∧ HoldsR b3 b4 w p.aH d.nH d.t d.c d.s
theorem LegNew.toT {B : Nat} {w : World} {d : LegD} {p : LegP} (h : LegNew B w d p) : LegNewT B w.heap.size w d p := by
  obtain ⟨hc, b1, b2, b3, b4, q1, q2, q3, q4, q5, h1, h2, h3, h4⟩ := h
  exact ⟨hc, b1, b2, b3, b4, q1, q2, q3, q4, q5, Nat.le_refl _, h1, h2, h3, h4⟩
theorem LegNewT.new {B T : Nat} {w : World} {d : LegD} {p : LegP} (h : LegNewT B T w d p) : LegNew B w d p := by
  obtain ⟨hc, b1, b2, b3, b4, q1, q2, q3, q4, q5, q6, h1, h2, h3, h4⟩ := h
  exact ⟨hc, b1, b2, b3, b4, q1, q2, q3, q4, Nat.le_trans q5 q6, h1, h2, h3, h4⟩
theorem LegNewT.far {B T : Nat} {w w' : World} {d : LegD} {p : LegP} {row : Option Nat} (h : LegNewT B T w d p) (hg : w.grownBy w' row) (hr : ∀ k, row = some k → k < B ∨ T ≤ k) : LegNewT B T w' d p := by
  obtain ⟨hc, b1, b2, b3, b4, q1, q2, q3, q4, q5, q6, h1, h2, h3, h4⟩ := h
  exact ⟨hc, b1, b2, b3, b4, q1, q2, q3, q4, q5, Nat.le_trans q6 hg.size, h1.far hg (fun k e => by have := hr k e; omega), h2.far hg (fun k e => by have := hr k e; omega), h3.far hg (fun k e => by have := hr k e; omega), h4.far hg (fun k e => by have := hr k e; omega)⟩
theorem LegNewT.kept {B T : Nat} {w w' : World} {d : LegD} {p : LegP} (h : LegNewT B T w d p) (hb : Below w.heap.size w w') : LegNewT B T w' d p := h.far (toGr hb) (fun k e => by cases e)

def zeroD : LegD := ⟨⟨#[]⟩, ⟨#[]⟩, ⟨#[]⟩, 0, 0, 0, 0, fun _ => 0, 0, fun _ => 0, 0, fun _ => 0, 0, fun _ => 0, fun _ => 0, fun _ => 0⟩
def zeroP : LegP := ⟨none, 0, none, 0, none, 0, none, 0⟩
theorem zero_new (w : World) : LegNew w.heap.size w zeroD zeroP := ⟨⟨Nat.le_refl _, Nat.le_refl _, Nat.le_refl _, Nat.le_refl _⟩, _, _, _, _, Nat.le_refl _, Nat.le_refl _, Nat.le_refl _, Nat.le_refl _, Nat.le_refl _, .inl rfl, .inl rfl, .inl rfl, .inl rfl⟩

theorem NumsW.R {B : Nat} {w : World} {a : Option Addr} {len : Nat} {z : Nat → Int} (h : NumsW B w a len z) : NumsR B w.heap.size w a len z := by
  rcases h with h | ⟨g, h1, h2, h3, h4⟩
  · exact .inl h
  · exact .inr ⟨g, h1, h2, h3, h3, h4⟩
set_option maxHeartbeats 1000000 in
theorem markIntsB (B : Nat) (a : Option Addr) (len cap : Nat) (z : Nat → Int) (k0 : Int) (w : World) (h : NumsW B w a len z) (hl : len ≤ 1048576) (h0 : 0 ≤ k0) (h1 : k0 ≤ 100000000) :
    Calls Tryz.prog 25 #[.slice a len cap, .int .i64 k0] w (MarkN a len k0 w) := by
  rcases h with h | ⟨g, rfl, hB, hg, hc⟩
  · have hle : len ≤ 0 := by omega
    have hpost : MarkN a len k0 w (.returned (.int .i64 k0)) w := ⟨by rw [h]; simp, Or.inl ⟨h, rfl⟩⟩
    have HP := Lib.hid hpost
    clear h hpost
    go_enter Tryz.func25, Tryz.ntmps25
    go_wp2_with fail
    go_loopw [5, 1] (fun i v wr => i = .int .i64 0 ∧ v = .int .i64 k0 ∧ wr = w) (fun i _ _ => 0)
    case atStart => exact ⟨rfl, rfl, rfl⟩
    case round =>
      obtain ⟨rfl, rfl, rfl⟩ := hrel
      go_wp2
      go_ret
      exact HP.out
  · have Hc := Lib.hid hc
    clear hc
    go_enter Tryz.func25, Tryz.ntmps25
    go_wp2_with fail
    go_loopw [5, 1] (fun i v wr => ∃ k : Nat, k ≤ len ∧ i = .int .i64 k ∧ v = .int .i64 (k0 + k) ∧ w.grownBy wr (some g) ∧ wr.heap.size = w.heap.size ∧ Hid (∀ i, i < len → (∃ u, wr.cell? ⟨g, i, none⟩ = some u) ∧ wr.frozen? ⟨g, i, none⟩ = false) ∧ Hid (∀ i, i < k → wr.cell? ⟨g, i, none⟩ = some (.int .i64 (k0 + i)))) (fun i _ _ => len - (intOf i).toNat)
    case atStart => exact ⟨0, Nat.zero_le _, rfl, by go_num, grownN w 0 _, rfl, fun i hi => ⟨⟨_, (Hc.out i hi).1⟩, (Hc.out i hi).2⟩, fun i hi => by omega⟩
    case round =>
      obtain ⟨k, hk, rfl, rfl, hgr, hsz, hf, hm⟩ := hrel
      rcases Nat.lt_or_ge k len with hlt | hge
      · obtain ⟨⟨u, c1⟩, f1⟩ := hf.out k hlt
        go_wp2
        go_roundw
        case rel =>
          refine ⟨k + 1, by omega, by go_num, by go_num, grown_trans hgr (grown_set wr ⟨g, k, none⟩ _), by simpa using hsz, fun i hi => ?_, fun i hi => ?_⟩
          · obtain ⟨⟨u', c'⟩, f'⟩ := hf.out i hi
            refine ⟨?_, by simpa [go_sem] using f'⟩
            by_cases e : i = k
            · subst e; exact ⟨.int .i64 (k0 + i), by simp [go_sem, c1]⟩
            · exact ⟨u', by simp [go_sem, c']; try omega⟩
          · by_cases e : i = k
            · subst e; simp [go_sem, c1]
            · have := hm.out i (by omega)
              simp [go_sem, this]; try omega
        case measure => simp [intOf]; omega
      · obtain rfl : k = len := by omega
        go_wp2
        go_ret
        exact ⟨rfl, Or.inr ⟨g, rfl, hgr, hsz, hm.out⟩⟩

set_option maxHeartbeats 1000000 in
theorem heldIntsB (a : Option Addr) (len cap : Nat) (k0 : Int) (w : World) (h : Nums w a len (fun i => k0 + i)) (hl : len ≤ 1048576) (h0 : 0 ≤ k0) (h1 : k0 ≤ 100000000) :
    Calls Tryz.prog 27 #[.slice a len cap, .int .i64 k0] w fun e w' => e = .returned (.int .i64 (k0 + len)) ∧ Drew w w' := by
  go_enter Tryz.func27, Tryz.ntmps27
  go_wp2_with fail
  go_loopw [5, 1] (fun i v wr => ∃ k : Nat, k ≤ len ∧ i = .int .i64 k ∧ v = .int .i64 (k0 + k) ∧ ∃ q, wr = w.drewN q) (fun i _ _ => len - (intOf i).toNat)
  case atStart => exact ⟨0, Nat.zero_le _, rfl, by go_num, 0, rfl⟩
  case round =>
    obtain ⟨k, hk, rfl, rfl, q, rfl⟩ := hrel
    rcases Nat.lt_or_ge k len with hlt | hge
    · rcases h with hc | ⟨b, off, rfl, hbl, hcell⟩
      · omega
      have c1 : w.cell? ⟨b, off + k, none⟩ = some (.int .i64 (k0 + k)) := hcell k hlt
      clear hcell
      have k1 : (k : Int) < len := by omega
      have k0' : (0 : Int) ≤ k := by omega
      go_wp2
      go_roundw
      case rel => exact ⟨k + 1, by omega, by go_num, by go_num, q, rfl⟩
      case measure => simp [intOf]; omega
    · obtain rfl : k = len := by omega
      go_wp2
      go_ret
      exact ⟨rfl, q, rfl⟩

def MarkH (a : Option Addr) (len : Nat) (k0 : Int) (w : World) (e : Ending) (w' : World) : Prop :=
  e = .returned (.int .i64 (k0 + 3 * len)) ∧ (len = 0 ∧ w' = w ∨ ∃ g, a = some ⟨g, 0, none⟩ ∧ w.grownBy w' (some g) ∧ w'.heap.size = w.heap.size ∧ ∀ i, i < len → w'.cell? ⟨g, i * 3, none⟩ = some (.int .i64 (k0 + 3 * i)) ∧ w'.cell? ⟨g, i * 3 + 1, none⟩ = some (.int .i64 (k0 + 3 * i + 1)) ∧ w'.cell? ⟨g, i * 3 + 2, none⟩ = some (.int .i64 (k0 + 3 * i + 2)))

set_option maxHeartbeats 4000000 in
theorem markHoldsB (lo hi : Nat) (a : Option Addr) (len cap : Nat) (t c s : Nat → Int) (k0 : Int) (w : World) (h : HoldsR lo hi w a len t c s) (hl : len ≤ 1048576) (h0 : 0 ≤ k0) (h1 : k0 ≤ 100000000) :
    Calls Tryz.prog 26 #[.slice a len cap, .int .i64 k0] w (MarkH a len k0 w) := by
  rcases h with h | ⟨g, rfl, hB, hg, hsz, hc⟩
  · have hpost : MarkH a len k0 w (.returned (.int .i64 k0)) w := ⟨by rw [h]; simp, Or.inl ⟨h, rfl⟩⟩
    have HP := Lib.hid hpost
    have hle : len ≤ 0 := by omega
    clear h hpost
    go_enter Tryz.func26, Tryz.ntmps26
    go_wp2_with fail
    go_loopw [5, 1] (fun i v wr => i = .int .i64 0 ∧ v = .int .i64 k0 ∧ wr = w) (fun i _ _ => 0)
    case atStart => exact ⟨rfl, rfl, rfl⟩
    case round =>
      obtain ⟨rfl, rfl, rfl⟩ := hrel
      go_wp2
      go_ret
      exact HP.out
  · have Hc := Lib.hid hc
    clear hc
    go_enter Tryz.func26, Tryz.ntmps26
    go_wp2_with fail
    go_loopw [5, 1] (fun i v wr => ∃ k : Nat, k ≤ len ∧ i = .int .i64 k ∧ v = .int .i64 (k0 + 3 * k) ∧ w.grownBy wr (some g) ∧ wr.heap.size = w.heap.size ∧ Hid (∀ j, j < len * 3 → (∃ u, wr.cell? ⟨g, j, none⟩ = some u) ∧ wr.frozen? ⟨g, j, none⟩ = false) ∧ Hid (∀ i, i < k → wr.cell? ⟨g, i * 3, none⟩ = some (.int .i64 (k0 + 3 * i)) ∧ wr.cell? ⟨g, i * 3 + 1, none⟩ = some (.int .i64 (k0 + 3 * i + 1)) ∧ wr.cell? ⟨g, i * 3 + 2, none⟩ = some (.int .i64 (k0 + 3 * i + 2)))) (fun i _ _ => len - (intOf i).toNat)
    case atStart =>
      refine ⟨0, Nat.zero_le _, rfl, by go_num, grownN w 0 _, rfl, fun j hj => ?_, fun i hi => by omega⟩
      have := (Hc.out (j / 3) (by omega))
      refine ⟨?_, this.2 j hj⟩
      rcases (by omega : j = j / 3 * 3 ∨ j = j / 3 * 3 + 1 ∨ j = j / 3 * 3 + 2) with q | q | q
      · rw [q]; exact ⟨_, this.1.1⟩
      · rw [q]; exact ⟨_, this.1.2.1⟩
      · rw [q]; exact ⟨_, this.1.2.2⟩
    case round =>
      obtain ⟨k, hk, rfl, rfl, hgr, hsz2, hf, hm⟩ := hrel
      rcases Nat.lt_or_ge k len with hlt | hge
      · obtain ⟨⟨u0, c0⟩, f0⟩ := hf.out (k * 3) (by omega)
        obtain ⟨⟨u1, c1⟩, f1⟩ := hf.out (k * 3 + 1) (by omega)
        obtain ⟨⟨u2, c2⟩, f2⟩ := hf.out (k * 3 + 2) (by omega)
        have e1 : IntKind.i64.wrap (k0 + 3 * (k : Int) + 1) = k0 + 3 * k + 1 := IntWalk.i64_in _ (by omega)
        have e2 : IntKind.i64.wrap (k0 + 3 * (k : Int) + 1 + 1) = k0 + 3 * k + 2 := by rw [IntWalk.i64_in _ (by omega)]; omega
        have e3 : IntKind.i64.wrap (k0 + 3 * (k : Int) + 2 + 1) = k0 + 3 * k + 3 := by rw [IntWalk.i64_in _ (by omega)]; omega
        go_wp2
        go_roundw
        case rel =>
          refine ⟨k + 1, by omega, by go_num, by first | (congr 1; push_cast; omega) | (go_num; done) | (simp; omega), ?_, by simpa using hsz2, fun j hj => ?_, fun i hi => ?_⟩
          · exact grown_trans (grown_trans (grown_trans hgr (grown_set wr ⟨g, k * 3, none⟩ _)) (grown_set _ ⟨g, k * 3 + 1, none⟩ _)) (grown_set _ ⟨g, k * 3 + 2, none⟩ _)
          · obtain ⟨⟨u', c'⟩, f'⟩ := hf.out j hj
            refine ⟨?_, by simpa [go_sem] using f'⟩
            by_cases q0 : j = k * 3
            · subst q0; exact ⟨_, by simp [go_sem, c0]; rfl⟩
            · by_cases q1 : j = k * 3 + 1
              · subst q1; exact ⟨_, by simp [go_sem, c1]; rfl⟩
              · by_cases q2 : j = k * 3 + 2
                · subst q2; exact ⟨_, by simp [go_sem, c2]; rfl⟩
                · exact ⟨u', by simp [go_sem, c', q0, q1, q2]⟩
          · by_cases q : i = k
            · subst q
              refine ⟨?_, ?_, ?_⟩ <;> simp [go_sem, c0, c1, c2]
            · have := hm.out i (by omega)
              refine ⟨?_, ?_, ?_⟩
              · simp [go_sem, this.1]
              · simp [go_sem, this.2.1]
              · simp [go_sem, this.2.2]
        case measure => simp [intOf]; omega
      · obtain rfl : k = len := by omega
        go_wp2
        go_ret
        exact ⟨rfl, Or.inr ⟨g, rfl, hgr, hsz2, hm.out⟩⟩

set_option maxHeartbeats 4000000 in
theorem heldHoldsB (a : Option Addr) (len cap : Nat) (k0 : Int) (w : World) (h : Holds w a len (fun i => k0 + 3 * i) (fun i => k0 + 3 * i + 1) (fun i => k0 + 3 * i + 2)) (hl : len ≤ 1048576) (h0 : 0 ≤ k0) (h1 : k0 ≤ 100000000) :
    Calls Tryz.prog 28 #[.slice a len cap, .int .i64 k0] w fun e w' => e = .returned (.int .i64 (k0 + 3 * len)) ∧ w = w' := by
  go_enter Tryz.func28, Tryz.ntmps28
  go_wp2_with fail
  go_loopw [5, 1] (fun i v wr => ∃ k : Nat, k ≤ len ∧ i = .int .i64 k ∧ v = .int .i64 (k0 + 3 * k) ∧ w = wr) (fun i _ _ => len - (intOf i).toNat)
  case atStart => exact ⟨0, Nat.zero_le _, rfl, by go_num, rfl⟩
  case round =>
    obtain ⟨k, hk, rfl, rfl, rfl⟩ := hrel
    rcases Nat.lt_or_ge k len with hlt | hge
    · obtain ⟨b, off, rfl, hbl, hcell⟩ := h.cells (by omega)
      obtain ⟨c0, c1, c2⟩ := hcell k hlt
      clear hcell
      have k1 : (k : Int) < len := by omega
      have k0' : (0 : Int) ≤ k := by omega
      have e1 : IntKind.i64.wrap (k0 + 3 * (k : Int) + 1) = k0 + 3 * k + 1 := IntWalk.i64_in _ (by omega)
      have e2 : IntKind.i64.wrap (k0 + 3 * (k : Int) + 1 + 1) = k0 + 3 * k + 2 := by rw [IntWalk.i64_in _ (by omega)]; omega
      have e3 : IntKind.i64.wrap (k0 + 3 * (k : Int) + 2 + 1) = k0 + 3 * k + 3 := by rw [IntWalk.i64_in _ (by omega)]; omega
      go_wp2
      go_roundw
      case rel => exact ⟨k + 1, by omega, by go_num, by first | (congr 1; push_cast; omega) | (go_num; done) | (simp; omega), (by first | rfl | trivial)⟩
      case measure => simp [intOf]; omega
    · obtain rfl : k = len := by omega
      go_wp2
      go_ret
      exact ⟨rfl, rfl⟩

/-- All blocks but those from B on, ahead of T, are as they were. -/
structure KeepsOut (B T : Nat) (w w' : World) : Prop where
  os : w'.os = w.os
  tape : w'.tape = w.tape
  output : w'.output = w.output
  size : w.heap.size ≤ w'.heap.size
  block : ∀ b, b < w.heap.size → (b < B ∨ T ≤ b) → w'.heap[b]? = w.heap[b]?
theorem KeepsOut.refl (B T : Nat) (w : World) : KeepsOut B T w w := ⟨rfl, rfl, rfl, Nat.le_refl _, fun _ _ _ => rfl⟩
theorem KeepsOut.trans {B T : Nat} {a b c : World} (h : KeepsOut B T a b) (k : KeepsOut B T b c) : KeepsOut B T a c :=
  ⟨k.os.trans h.os, k.tape.trans h.tape, k.output.trans h.output, Nat.le_trans h.size k.size, fun x hx hr => (k.block x (Nat.lt_of_lt_of_le hx h.size) hr).trans (h.block x hx hr)⟩
theorem KeepsOut.of_below {B T : Nat} {w w' : World} (h : Below w.heap.size w w') : KeepsOut B T w w' := ⟨h.os, h.tape, h.output, h.size, fun b hb _ => h.block b hb⟩
theorem KeepsOut.of_grown {B T g : Nat} {w w' : World} (h : w.grownBy w' (some g)) (h1 : B ≤ g) (h2 : g < T) : KeepsOut B T w w' :=
  ⟨h.os, h.tape, h.output, h.size, fun b hb hr => h.block b hb (fun e => by cases e; omega)⟩
theorem KeepsOut.wide {B T B' T' : Nat} {w w' : World} (h : KeepsOut B T w w') (h1 : B' ≤ B) (h2 : T ≤ T') : KeepsOut B' T' w w' :=
  ⟨h.os, h.tape, h.output, h.size, fun b hb hr => h.block b hb (by omega)⟩
theorem KeepsOut.below {B T : Nat} {w w' : World} (h : KeepsOut B T w w') (hB : B ≤ w.heap.size) : Below B w w' := ⟨h.os, h.tape, h.output, h.size, fun b hb => h.block b (by omega) (Or.inl hb)⟩
theorem NumsR.out {lo hi B T : Nat} {w w' : World} {a : Option Addr} {len : Nat} {z : Nat → Int} (h : NumsR lo hi w a len z) (k : KeepsOut B T w w') (hr : hi ≤ B ∨ T ≤ lo) : NumsR lo hi w' a len z := by
  rcases h with h | ⟨g, h1, h2, h3, h4, h5⟩
  · exact .inl h
  · have e := k.block g h4 (by omega)
    exact .inr ⟨g, h1, h2, h3, Nat.lt_of_lt_of_le h4 k.size, fun i hi => ⟨(World.cell?_of_block e).trans (h5 i hi).1, (World.frozen?_of_block e).trans (h5 i hi).2⟩⟩
theorem HoldsR.out {lo hi B T : Nat} {w w' : World} {a : Option Addr} {len : Nat} {t c s : Nat → Int} (h : HoldsR lo hi w a len t c s) (k : KeepsOut B T w w') (hr : hi ≤ B ∨ T ≤ lo) : HoldsR lo hi w' a len t c s := by
  rcases h with h | ⟨g, h1, h2, h3, h4, h5⟩
  · exact .inl h
  · have e := k.block g h4 (by omega)
    exact .inr ⟨g, h1, h2, h3, Nat.lt_of_lt_of_le h4 k.size, fun i hi => ⟨⟨(World.cell?_of_block e).trans (h5 i hi).1.1, (World.cell?_of_block e).trans (h5 i hi).1.2.1, (World.cell?_of_block e).trans (h5 i hi).1.2.2⟩, fun j hj => (World.frozen?_of_block e).trans ((h5 i hi).2 j hj)⟩⟩
theorem LegNewT.out {B T B' T' : Nat} {w w' : World} {d : LegD} {p : LegP} (h : LegNewT B' T' w d p) (k : KeepsOut B T w w') (hr : T' ≤ B ∨ T ≤ B') : LegNewT B' T' w' d p := by
  obtain ⟨hc, b1, b2, b3, b4, q1, q2, q3, q4, q5, q6, h1, h2, h3, h4⟩ := h
  exact ⟨hc, b1, b2, b3, b4, q1, q2, q3, q4, q5, Nat.le_trans q6 k.size, h1.out k (by omega), h2.out k (by omega), h3.out k (by omega), h4.out k (by omega)⟩
/-- A slice of ints in a block from lo on, ahead of hi: to be read. -/
def NumsQ (lo hi : Nat) (w : World) (a : Option Addr) (len : Nat) (z : Nat → Int) : Prop :=
  len = 0 ∨ ∃ g, a = some ⟨g, 0, none⟩ ∧ lo ≤ g ∧ g < hi ∧ g < w.heap.size ∧ ∀ i, i < len → w.cell? ⟨g, i, none⟩ = some (.int .i64 (z i))
theorem NumsQ.out {lo hi B T : Nat} {w w' : World} {a : Option Addr} {len : Nat} {z : Nat → Int} (h : NumsQ lo hi w a len z) (k : KeepsOut B T w w') (hr : hi ≤ B ∨ T ≤ lo) : NumsQ lo hi w' a len z := by
  rcases h with h | ⟨g, h1, h2, h3, h4, h5⟩
  · exact .inl h
  · have e := k.block g h4 (by omega)
    exact .inr ⟨g, h1, h2, h3, Nat.lt_of_lt_of_le h4 k.size, fun i hi => (World.cell?_of_block e).trans (h5 i hi)⟩
theorem NumsQ.nums {lo hi : Nat} {w : World} {a : Option Addr} {len : Nat} {z : Nat → Int} (h : NumsQ lo hi w a len z) : Nums w a len z := by
  rcases h with h | ⟨g, h1, h2, h3, h4, h5⟩
  · exact .inl h
  · exact .inr ⟨g, 0, h1, h4, fun i hi => by rw [Nat.zero_add]; exact h5 i hi⟩
theorem NumsR.W {lo hi : Nat} {w : World} {a : Option Addr} {len : Nat} {z : Nat → Int} (h : NumsR lo hi w a len z) : NumsW lo w a len z := by
  rcases h with h | ⟨g, h1, h2, h3, h4, h5⟩
  · exact .inl h
  · exact .inr ⟨g, h1, h2, h4, h5⟩
set_option maxHeartbeats 1000000 in
theorem mark0 (a : Option Addr) (cap : Nat) (k0 : Int) (w : World) :
    Calls Tryz.prog 25 #[.slice a 0 cap, .int .i64 k0] w fun e w' => e = .returned (.int .i64 k0) ∧ w' = w := by
  go_enter Tryz.func25, Tryz.ntmps25
  go_wp2_with fail
  go_loopw [5, 1] (fun i v wr => i = .int .i64 0 ∧ v = .int .i64 k0 ∧ wr = w) (fun i _ _ => 0)
  case atStart => exact ⟨rfl, rfl, rfl⟩
  case round =>
    obtain ⟨rfl, rfl, rfl⟩ := hrel
    go_wp2
    go_ret
    exact ⟨rfl, rfl⟩
set_option maxHeartbeats 1000000 in
theorem markH0 (a : Option Addr) (cap : Nat) (k0 : Int) (w : World) :
    Calls Tryz.prog 26 #[.slice a 0 cap, .int .i64 k0] w fun e w' => e = .returned (.int .i64 k0) ∧ w' = w := by
  go_enter Tryz.func26, Tryz.ntmps26
  go_wp2_with fail
  go_loopw [5, 1] (fun i v wr => i = .int .i64 0 ∧ v = .int .i64 k0 ∧ wr = w) (fun i _ _ => 0)
  case atStart => exact ⟨rfl, rfl, rfl⟩
  case round =>
    obtain ⟨rfl, rfl, rfl⟩ := hrel
    go_wp2
    go_ret
    exact ⟨rfl, rfl⟩
def HoldsQ (w : World) (a : Option Addr) (len : Nat) (k0 : Int) : Prop := Holds w a len (fun i => k0 + 3 * i) (fun i => k0 + 3 * i + 1) (fun i => k0 + 3 * i + 2)
theorem markR (lo hi : Nat) (a : Option Addr) (len cap : Nat) (z : Nat → Int) (k0 : Int) (w : World) (h : NumsR lo hi w a len z) (hl : len ≤ 1048576) (h0 : 0 ≤ k0) (h1 : k0 ≤ 100000000) :
    Calls Tryz.prog 25 #[.slice a len cap, .int .i64 k0] w fun e w' => e = .returned (.int .i64 (k0 + len)) ∧ KeepsOut lo hi w w' ∧ NumsQ lo hi w' a len (fun i => k0 + i) := by
  rcases Nat.eq_zero_or_pos len with q | q
  · subst q
    exact (mark0 a cap k0 w).mono fun e w' hh => ⟨by rw [hh.1]; simp, by rw [hh.2]; exact KeepsOut.refl _ _ _, .inl rfl⟩
  · refine (markIntsB lo a len cap z k0 w h.W hl h0 h1).mono fun e w' hh => ⟨hh.1, ?_⟩
    rcases hh.2 with ⟨q0, -⟩ | ⟨g, hg, hgr, hs, hc⟩
    · omega
    · rcases h with q0 | ⟨g', e1, e2, e3, e4, -⟩
      · omega
      · rw [hg] at e1
        cases e1
        exact ⟨KeepsOut.of_grown hgr e2 e3, .inr ⟨g, hg, e2, e3, by omega, hc⟩⟩
theorem markHR (lo hi : Nat) (a : Option Addr) (len cap : Nat) (t c s : Nat → Int) (k0 : Int) (w : World) (h : HoldsR lo hi w a len t c s) (hl : len ≤ 1048576) (h0 : 0 ≤ k0) (h1 : k0 ≤ 100000000) :
    Calls Tryz.prog 26 #[.slice a len cap, .int .i64 k0] w fun e w' => e = .returned (.int .i64 (k0 + 3 * len)) ∧ KeepsOut lo hi w w' ∧ HoldsQ w' a len k0 := by
  rcases Nat.eq_zero_or_pos len with q | q
  · subst q
    exact (markH0 a cap k0 w).mono fun e w' hh => ⟨by rw [hh.1]; simp, by rw [hh.2]; exact KeepsOut.refl _ _ _, .inl rfl⟩
  · refine (markHoldsB lo hi a len cap t c s k0 w h hl h0 h1).mono fun e w' hh => ⟨hh.1, ?_⟩
    rcases hh.2 with ⟨q0, -⟩ | ⟨g, hg, hgr, hs, hc⟩
    · omega
    · rcases h with q0 | ⟨g', e1, e2, e3, e4, -⟩
      · omega
      · rw [hg] at e1
        cases e1
        exact ⟨KeepsOut.of_grown hgr e2 e3, .inr ⟨g, 0, hg, by omega, fun i hi => by rw [Nat.zero_add]; exact hc i hi⟩⟩

/-- The leg as it reads when it is marked from k on. -/
def markD (d : LegD) (k : Int) : LegD := { d with L := fun i => k + i, S := fun i => k + d.nL + i, B := fun i => k + d.nL + d.nS + i, t := fun i => k + d.nL + d.nS + d.nB + 3 * i, c := fun i => k + d.nL + d.nS + d.nB + 3 * i + 1, s := fun i => k + d.nL + d.nS + d.nB + 3 * i + 2 }
def markN (d : LegD) (k : Int) : Int := k + d.nL + d.nS + d.nB + 3 * d.nH
set_option maxHeartbeats 4000000 in
theorem markLegI (B T : Nat) (d : LegD) (p : LegP) (k : Int) (w : World) (h : LegNewT B T w d p) (hf : Fits d) (h0 : 0 ≤ k) (h1 : k ≤ 1000) :
    Calls Tryz.prog 8 #[LegV d p, .int .i64 k] w fun e w' => e = .returned (.int .i64 (markN d k)) ∧ KeepsOut B T w w' ∧ LegIn w' (markD d k) p := by
  have hbA : Below w.heap.size w (w.alloc (.cells (LegC d p) 25)) := (Below.refl _ _).alloc (Nat.le_refl _) _
  have hA := LegBox.new w d p
  have ht := h.kept hbA
  have hKA : Hid (KeepsOut B T w (w.alloc (.cells (LegC d p) 25))) := KeepsOut.of_below hbA
  obtain ⟨-, b1, b2, b3, b4, q1, q2, q3, q4, q5, q6, n1, n2, n3, n4⟩ := ht
  have hT := h.2
  obtain ⟨-, -, -, -, -, -, -, -, -, hTw, -⟩ := hT
  obtain ⟨-, -, -, f4, f5, f6, f7⟩ := hf
  have N1 := Lib.hid n1
  have N2 := Lib.hid n2
  have N3 := Lib.hid n3
  have N4 := Lib.hid n4
  have X0 := Lib.hid hA
  have c6 := hA.c6
  have e1 : IntKind.i64.wrap k = k := IntWalk.i64_in _ (by omega)
  rw [LegV_eq]
  generalize hLC : LegC d p = LC at *
  clear hbA hA h n1 n2 n3 n4 hLC
  go_enter Tryz.func8, Tryz.ntmps8
  go_wp2_with fail
  generalize w.alloc (.cells LC 25) = W0 at *
  refine (markR B b1 p.aL d.nL p.cL d.L k W0 N1.out f4 h0 (by omega)).mono ?_
  rintro e w1 ⟨rfl, k1, m1⟩
  have X1 : LegBox w1 w.heap.size d p := (k1.block _ (lt_heap X0.out) (Or.inr (by omega))).trans X0.out
  have M1 := Lib.hid m1
  have K1 := Lib.hid k1
  have N2a := Lib.hid (N2.out.out k1 (Or.inr (Nat.le_refl _)))
  have N3a := Lib.hid (N3.out.out k1 (Or.inr q2))
  have N4a := Lib.hid (N4.out.out k1 (Or.inr (by omega)))
  have c7 := X1.c7
  have X1h := Lib.hid X1
  clear c6 k1 m1 X1
  go_wp2_with fail
  refine (markR b1 b2 p.aS d.nS p.cS d.S (k + d.nL) w1 N2a.out f5 (by omega) (by omega)).mono ?_
  rintro e w2 ⟨rfl, k2, m2⟩
  have X2 : LegBox w2 w.heap.size d p := (k2.block _ (lt_heap X1h.out) (Or.inr (by omega))).trans X1h.out
  have M2 := Lib.hid m2
  have K2 := Lib.hid k2
  have N3b := Lib.hid (N3a.out.out k2 (Or.inr (Nat.le_refl _)))
  have N4b := Lib.hid (N4a.out.out k2 (Or.inr q3))
  have M1b := Lib.hid (M1.out.out k2 (Or.inl (Nat.le_refl _)))
  have c8 := X2.c8
  have X2h := Lib.hid X2
  clear c7 k2 m2 X2
  go_wp2_with fail
  refine (markR b2 b3 p.aB d.nB p.cB d.B (k + d.nL + d.nS) w2 N3b.out f6 (by omega) (by omega)).mono ?_
  rintro e w3 ⟨rfl, k3, m3⟩
  have X3 : LegBox w3 w.heap.size d p := (k3.block _ (lt_heap X2h.out) (Or.inr (by omega))).trans X2h.out
  have M3 := Lib.hid m3
  have K3 := Lib.hid k3
  have N4c := Lib.hid (N4b.out.out k3 (Or.inr (Nat.le_refl _)))
  have M1c := Lib.hid (M1b.out.out k3 (Or.inl q2))
  have M2c := Lib.hid (M2.out.out k3 (Or.inl (Nat.le_refl _)))
  have c9 := X3.c9
  clear c8 k3 m3 X3
  go_wp2_with fail
  refine (markHR b3 b4 p.aH d.nH p.cH d.t d.c d.s (k + d.nL + d.nS + d.nB) w3 N4c.out f7 (by omega) (by omega)).mono ?_
  rintro e w4 ⟨rfl, k4, m4⟩
  have M4 := Lib.hid m4
  have M1d := Lib.hid (M1c.out.out k4 (Or.inl (by omega)))
  have M2d := Lib.hid (M2c.out.out k4 (Or.inl q3))
  have M3d := Lib.hid (M3.out.out k4 (Or.inl (Nat.le_refl _)))
  have K4 := Lib.hid k4
  clear c9 k4 m4
  go_wp2
  go_ret
  refine ⟨rfl, ?_, M1d.out.nums, M2d.out.nums, M3d.out.nums, M4.out⟩
  exact (((hKA.out.trans (K1.out.wide (Nat.le_refl _) (by omega))).trans (K2.out.wide (by omega) (by omega))).trans (K3.out.wide (by omega) (by omega))).trans (K4.out.wide (by omega) q5)

set_option maxHeartbeats 4000000 in
theorem heldLegI (d : LegD) (p : LegP) (k : Int) (w : World) (h : LegIn w (markD d k) p) (hf : Fits d) (h0 : 0 ≤ k) (h1 : k ≤ 1000) :
    Calls Tryz.prog 9 #[LegV d p, .int .i64 k] w fun e w' => e = .returned (.int .i64 (markN d k)) ∧ Below w.heap.size w w' := by
  have hbA : Below w.heap.size w (w.alloc (.cells (LegC d p) 25)) := (Below.refl _ _).alloc (Nat.le_refl _) _
  have hA := LegBox.new w d p
  have HI := Lib.hid (h.kept hbA)
  have HbA := Lib.hid hbA
  obtain ⟨-, -, -, f4, f5, f6, f7⟩ := hf
  have c6 := hA.c6
  have c7 := hA.c7
  have c8 := hA.c8
  have c9 := hA.c9
  rw [LegV_eq]
  generalize hLC : LegC d p = LC at *
  clear hbA hA h hLC
  go_enter Tryz.func9, Tryz.ntmps9
  go_wp2_with fail
  generalize w.alloc (.cells LC 25) = W at *
  refine (heldIntsB p.aL d.nL p.cL k W HI.out.1 f4 h0 (by omega)).mono ?_
  rintro e w1 ⟨rfl, d1, rfl⟩
  have z1 : decide (k + (d.nL : Int) < 0) = false := decide_eq_false (by omega)
  go_wp2_with fail
  refine (heldIntsB p.aS d.nS p.cS (k + d.nL) _ (HI.out.2.1.kept (belowN (Below.refl _ _) _)) f5 (by omega) (by omega)).mono ?_
  rintro e w2 ⟨rfl, d2, rfl⟩
  have z2 : decide (k + (d.nL : Int) + (d.nS : Int) < 0) = false := decide_eq_false (by omega)
  go_wp2_with fail
  refine (heldIntsB p.aB d.nB p.cB (k + d.nL + d.nS) _ (HI.out.2.2.1.kept (belowN (Below.refl _ _) _)) f6 (by omega) (by omega)).mono ?_
  rintro e w3 ⟨rfl, d3, rfl⟩
  have z3 : decide (k + (d.nL : Int) + (d.nS : Int) + (d.nB : Int) < 0) = false := decide_eq_false (by omega)
  go_wp2_with fail
  refine (heldHoldsB p.aH d.nH p.cH (k + d.nL + d.nS + d.nB) _ (HI.out.2.2.2.kept (belowN (Below.refl _ _) _)) f7 (by omega) (by omega)).mono ?_
  rintro e w4 ⟨rfl, rfl⟩
  have z4 : decide (k + (d.nL : Int) + (d.nS : Int) + (d.nB : Int) + 3 * (d.nH : Int) < 0) = false := decide_eq_false (by omega)
  go_wp2
  go_ret
  exact ⟨rfl, belowN HbA.out _⟩
end Go.Proofs.YtlfmhhdlandcjaaGreatDoor
