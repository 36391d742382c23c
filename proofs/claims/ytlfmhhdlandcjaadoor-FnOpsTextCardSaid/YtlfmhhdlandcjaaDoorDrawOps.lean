/-
  The ops that the laws draw: at most three, small ones.
-/
import Derived.Test.YtlfmhhdlandcjaaDoorOpsReadM
import Derived.Test.YtlfmhhdlandcjaaDoorOpsCount
import Derived.Test.YtlfmhhdlandcjaaDoorOf
namespace Go.Proofs.YtlfmhhdlandcjaaDoor
open Go.RowKit
set_option linter.unusedVariables false
set_option linter.unusedSimpArgs false

def legTexts : List ByteArray := [⟨#[108, 97]⟩, ⟨#[108, 98]⟩, ⟨#[108, 99]⟩, ⟨#[108, 100]⟩]
def legAt (i : Nat) : ByteArray := legTexts.getD i ByteArray.empty
def stAt (i : Nat) : Int := [1, 2, -1, 0, 5].getD i 0
theorem legAt_size (i : Nat) (h : i < 4) : (legAt i).size ≤ 8 := by
  have : ∀ i, i < 4 → (legAt i).size ≤ 8 := by decide
  exact this i h
theorem stAt_in (i : Nat) (h : i < 5) : -1 ≤ stAt i ∧ stAt i ≤ 5 := by
  have : ∀ i, i < 5 → -1 ≤ stAt i ∧ stAt i ≤ 5 := by decide
  exact this i h
theorem sts_at {w : World} (i : Nat) (hi : i < 5) : (w.alloc (.cells #[.int .i64 1, .int .i64 2, .int .i64 (-1), .int .i64 0, .int .i64 5] 3)).cell? ⟨w.heap.size, i, none⟩ = some (.int .i64 (stAt i)) := by
  have h : (w.alloc (.cells #[.int .i64 1, .int .i64 2, .int .i64 (-1), .int .i64 0, .int .i64 5] 3)).heap[w.heap.size]? = some (.cells #[.int .i64 1, .int .i64 2, .int .i64 (-1), .int .i64 0, .int .i64 5] 3 (0, 0)) := heap_alloc_new w _
  rw [Lib.cell_of_heap h]
  match i, hi with
  | 0, _ | 1, _ | 2, _ | 3, _ | 4, _ => rfl
theorem drawnOp_of {l : ByteArray} {c s h : Int} (h1 : l.size ≤ 8) (h2 : 0 ≤ c) (h3 : c < 3) (h4 : -1 ≤ s ∧ s ≤ 5) (h5 : 0 ≤ h) (h6 : h < 500) : DrawnOp ⟨l, c, s, h⟩ := by
  refine ⟨h1, ⟨h2, ?_⟩, h4, ⟨?_, ?_⟩⟩
  · show c ≤ 2; omega
  · show -1 ≤ h; omega
  · show h ≤ 500; omega
/-- What holds while ops are drawn: the reader goes on, what lies there stays. -/
def IDr (B : Nat) (w : World) (a : Option Addr) (c : Nat) (acc : List OpD) (p kk : Nat) (W : World) : Prop :=
  (∃ q, Rd B W B q ∧ q ≤ p + kk) ∧ W.ownsRow (B + 1) 55 4 (.slice a acc.length c) acc.length (cellsO acc) ∧ Below B w W
theorem own_ne {W : World} {B s n : Nat} {e : TypeId} {v : Value} {xs : List Value} (h : W.ownsRow (B + 1) e s v n xs) : v.ownBlock = none ∨ v.ownBlock ≠ some B := by
  refine Or.inr fun e => ?_
  have := (h.lt B e).1
  omega
theorem IDr.next {B : Nat} {w W : World} {a : Option Addr} {c : Nat} {acc : List OpD} {p kk : Nat} (h : IDr B w a c acc p kk W) : IDr B w a c acc p (kk + 1) W := by
  obtain ⟨⟨q, h1, h2⟩, h3, h4⟩ := h
  exact ⟨⟨q, h1, by omega⟩, h3, h4⟩
theorem IDr.grown {B : Nat} {w W W' : World} {a : Option Addr} {c : Nat} {acc : List OpD} {p kk q : Nat} (h : IDr B w a c acc p kk W) (hr : Rd B W' B q) (hq : q ≤ p + (kk + 1)) (hg : W.grownBy W' (some B)) : IDr B w a c acc p (kk + 1) W' := by
  obtain ⟨⟨q0, h1, h2⟩, h3, h4⟩ := h
  exact ⟨⟨q, hr, hq⟩, h3.kept hg (own_ne h3), h4.grown hg (Nat.le_of_lt h1.le.2) (fun k e => by cases e; exact Nat.le_refl _)⟩
theorem IDr.alloc {B : Nat} {w W : World} {a : Option Addr} {c : Nat} {acc : List OpD} {p kk : Nat} (h : IDr B w a c acc p kk W) (o : Obj) : IDr B w a c acc p (kk + 1) (W.alloc o) := by
  obtain ⟨⟨q0, h1, h2⟩, h3, h4⟩ := h
  exact ⟨⟨q0, rd_alloc h1 o, by omega⟩, h3.alloc o, h4.alloc (Nat.le_of_lt h1.le.2) o⟩
def SDr (B : Nat) (ov : Value) (i : Nat) (W : World) (v : Value) : Prop := match i with
  | 0 => v = ov
  | 1 => v = .pointer (some ⟨B, 0, none⟩)
  | 2 => ∃ lb : Nat, v = .slice (some ⟨lb, 0, none⟩) 4 4 ∧ lb ≠ B ∧ ∀ i, i < 4 → W.cell? ⟨lb, i, none⟩ = some (.string (legAt i))
  | 3 => ∃ i : Nat, i < 4 ∧ v = .string (legAt i)
  | 4 => v = .pointer (some ⟨B, 0, none⟩)
  | 5 => ∃ x : Int, 0 ≤ x ∧ x < 3 ∧ v = .int .i64 x
  | 6 => ∃ lb : Nat, v = .slice (some ⟨lb, 0, none⟩) 5 5 ∧ lb ≠ B ∧ ∀ i, i < 5 → W.cell? ⟨lb, i, none⟩ = some (.int .i64 (stAt i))
  | 7 => v = .pointer (some ⟨B, 0, none⟩)
  | 8 => ∃ x : Int, 0 ≤ x ∧ x < 12 ∧ v = .int .i64 x
  | 9 => ∃ x : Int, 0 ≤ x ∧ x < 60 ∧ v = .int .i64 x
  | 10 => ∃ x : Int, 0 ≤ x ∧ x < 5 ∧ v = .int .i64 x
  | 11 => ∃ lb i : Nat, i < 5 ∧ lb ≠ B ∧ v = .pointer (some ⟨lb, i, none⟩) ∧ W.cell? ⟨lb, i, none⟩ = some (.int .i64 (stAt i))
  | 12 => ∃ i : Nat, i < 5 ∧ v = .int .i64 (stAt i)
  | 13 => v = .pointer (some ⟨B, 0, none⟩)
  | 14 => ∃ x : Int, 0 ≤ x ∧ x < 500 ∧ v = .int .i64 x
  | 15 => ∃ d : OpD, DrawnOp d ∧ v = .agg #[.string d.leg, .int .i64 d.cls, .int .i64 d.st, .int .i64 d.sh]
  | 16 => ∃ (gx : Nat) (d : OpD), DrawnOp d ∧ v = .slice (some ⟨gx, 0, none⟩) 1 1 ∧ W.heap[gx]? = some (.cells #[.string d.leg, .int .i64 d.cls, .int .i64 d.st, .int .i64 d.sh] 55 (0, 0)) ∧ gx ≠ B
  | _ => True
theorem SDr.kept {B : Nat} {ov : Value} {i : Nat} {W W' : World} {v : Value} (h : SDr B ov i W v) (hg : W.grownBy W' (some B)) : SDr B ov i W' v := by
  match i, h with
  | 0, h | 1, h | 3, h | 4, h | 5, h | 7, h | 8, h | 9, h | 10, h | 12, h | 13, h | 14, h | 15, h => exact h
  | 2, ⟨lb, e, hn, hc⟩ => exact ⟨lb, e, hn, fun i hi => hg.cell (hc i hi) (by simpa using hn)⟩
  | 6, ⟨lb, e, hn, hc⟩ => exact ⟨lb, e, hn, fun i hi => hg.cell (hc i hi) (by simpa using hn)⟩
  | 11, ⟨lb, i, hi, hn, e, hc⟩ => exact ⟨lb, i, hi, hn, e, hg.cell hc (by simpa using hn)⟩
  | 16, ⟨gx, d, hd, e, hz, hn⟩ => exact ⟨gx, d, hd, e, (hg.block gx (lt_heap hz) (fun e => hn (Option.some.inj e))).trans hz, hn⟩
  | n + 17, _ => exact True.intro
def DrawOpsPost (w : World) (e : Ending) (w' : World) : Prop :=
  ∃ (acc : List OpD) (a : Option Addr) (c : Nat), acc.length ≤ 3 ∧ Hid (∀ d ∈ acc, DrawnOp d) ∧ e = .returned (.slice a acc.length c) ∧ w'.ownsRow (w.heap.size + 1) 55 4 (.slice a acc.length c) acc.length (cellsO acc) ∧ Below w.heap.size w w'
set_option maxRecDepth 100000 in
set_option maxHeartbeats 16000000 in
theorem drawOps (a0 : Option Addr) (len cap : Nat) (z : List Int) (w : World) (w0 : IsRow .u8 w a0 len cap z) :
    Calls Tryd.prog 10 #[.slice a0 len cap] w (DrawOpsPost w) := by
  obtain ⟨it0, hi, hz0, hz1, hz2⟩ := info_parts infoOp
  go_enter Tryd.func10, Tryd.ntmps10
  go_wp2_with fail
  refine (opened a0 len cap z _ w0).mono ?_
  rintro e w1 ⟨rfl, hr1, hb1, -⟩
  clear w0
  have hown1 : (w1.alloc (.cells #[] 55)).ownsRow (w.heap.size + 1) 55 4 (.slice (some ⟨w1.heap.size, 0, none⟩) 0 0) 0 [] := World.ownsRow_made _ _ _ (by have := hr1.le; omega) (by unfold maxLen; omega) rfl
  have hbB : Below w.heap.size w (w1.alloc (.cells #[] 55)) := hb1.alloc hb1.size _
  have hrA := rd_alloc hr1 (.cells #[] 55)
  go_wp2_with fail
  refine (pick w.heap.size w.heap.size 0 4 _ hrA (by omega) (by omega) (by omega)).mono ?_
  rintro e w2 ⟨x1, l1, u1, rfl, hr2, hg2, -⟩
  have hb2 : Below w.heap.size w w2 := hbB.grown hg2 hbB.size (fun k e => by cases e; exact Nat.le_refl _)
  have hown2 := hown1.kept hg2 (own_ne hown1)
  obtain ⟨m0, rfl⟩ := Int.eq_ofNat_of_zero_le l1
  clear hown1 hbB hrA hr1 hb1 hg2
  go_wp2_with fail
  go_loopw [4, 5] (fun v n wr => ∃ (k p : Nat) (acc : List OpD) (a : Option Addr) (c : Nat), n = .int .i64 k ∧ acc.length + k ≤ 3 ∧ p + 20 * k ≤ 100 ∧ v = .slice a acc.length c ∧ wr.ownsRow (w.heap.size + 1) 55 4 (.slice a acc.length c) acc.length (cellsO acc) ∧ Hid (∀ d ∈ acc, DrawnOp d) ∧ Rd w.heap.size wr w.heap.size p ∧ Below w.heap.size w wr) (fun _ n _ => (intOf n).toNat)
  case atStart => exact ⟨m0, 1, [], _, _, rfl, by simp; omega, by omega, rfl, hown2, Lib.hid (by simp), hr2, hb2⟩
  case round =>
    clear hown2 hr2 hb2
    obtain ⟨k, p, acc, ao, co, rfl, hk3, hpk, rfl, hown, hds, hr, hb⟩ := hrel
    have HO := Lib.hid hown
    have HD := Lib.hid hds
    have HR := Lib.hid hr
    have HB := Lib.hid hb
    clear hown hds hr hb
    rcases Nat.eq_zero_or_pos k with hk | hk
    · subst hk
      rcases Nat.eq_zero_or_pos acc.length with h0 | h0
      · have g1 : decide ((0 : Int) < (acc.length : Int)) = false := decide_eq_false (by omega)
        have g1n : decide (0 < acc.length) = false := decide_eq_false (by omega)
        clear h0
        go_wp2
        go_ret
        exact ⟨acc, ao, co, by omega, HD.out, rfl, HO.out, HB.out⟩
      · have g1 : decide ((0 : Int) < (acc.length : Int)) = true := decide_eq_true (by omega)
        have g1n : decide (0 < acc.length) = true := decide_eq_true h0
        have i1 : (0 : Int) < (acc.length : Int) := by omega
        have KP := Lib.hid (pick w.heap.size w.heap.size p 10 _ HR.out (by omega) (by omega) (by omega))
        obtain ⟨d, r, rfl⟩ : ∃ d r, acc = d :: r := by
          cases acc with
          | nil => simp at h0
          | cons d r => exact ⟨d, r, rfl⟩
        clear h0
        go_wp2_with fail
        refine KP.out.mono ?_
        rintro e w3 ⟨x2, l2, u2, rfl, hr3, hg3, -⟩
        have hown3 := HO.out.kept hg3 (own_ne HO.out)
        have hb3 : Below w.heap.size w w3 := HB.out.grown hg3 HB.out.size (fun k e => by cases e; exact Nat.le_refl _)
        obtain ⟨g, c', e1, hgl, hgs⟩ := hown3.form (by simp)
        have ea : ao = some ⟨g, 0, none⟩ := by simp at e1; exact e1.1
        subst ea
        have HO3 := Lib.hid hown3
        have HB3 := Lib.hid hb3
        clear KP hr3 hg3 hb3 e1
        cases hx : (x2 == 0) with
        | true =>
          have y3 := hown3.cellAt 3 (by simp; omega)
          have hy3 : (cellsO (d :: r))[3]? = some (.int .i64 d.sh) := rfl
          rw [hy3] at y3
          have fz := hown3.frozenAt 3
          have hst := (hown3.stored 3 (.int .i64 (-1))).1
          have hset : (cellsO (d :: r)).set 3 (.int .i64 (-1)) = cellsO ({d with sh := -1} :: r) := rfl
          rw [hset] at hst
          have HS := Lib.hid hst
          have HB4 := Lib.hid (HB3.out.setCell (p := ⟨g, 3, none⟩) (show w.heap.size ≤ g by omega) (.int .i64 (-1)))
          clear hown3 hst hy3 hset
          go_wp2
          go_ret
          refine ⟨{d with sh := -1} :: r, some ⟨g, 0, none⟩, co, by simpa using hk3, Lib.hid ?_, rfl, HS.out, HB4.out⟩
          intro x hx
          rcases List.mem_cons.1 hx with rfl | hx
          · obtain ⟨q1, q2, q3, q4⟩ := HD.out.out d (by simp)
            exact ⟨q1, q2, q3, by show -1 ≤ (-1 : Int) ∧ (-1 : Int) ≤ 500; omega⟩
          · exact HD.out.out x (by simp [hx])
        | false =>
          clear hown3
          go_wp2
          go_ret
          exact ⟨d :: r, some ⟨g, 0, none⟩, co, by simpa using hk3, HD.out, rfl, HO3.out, HB3.out⟩
    · have k0 : decide ((0 : Int) < (k : Int)) = true := decide_eq_true (by omega)
      have HI0 : Hid (IDr w.heap.size w ao co acc p 0 wr.drew) := by
        have h : IDr w.heap.size w ao co acc p 0 wr := ⟨⟨p, HR.out, by omega⟩, HO.out, HB.out⟩
        obtain ⟨⟨q, h1, h2⟩, h3, h4⟩ := h
        exact ⟨⟨q, h1.kept (Below.refl _ _).drew rfl, h2⟩, h3.drew, h4.drew⟩
      have e1k : IntKind.i64.wrap ((k : Int) - 1) = ((k - 1 : Nat) : Int) := by rw [IntWalk.i64_in _ (by omega)]; omega
      have hal : acc.length ≤ 3 := by omega
      have hp80 : p ≤ 80 := by omega
      go_upto_region 6 with fail
      refine wp_region_invK (by kernel_rfl) (fun kk L f W => TX 17 (IDr w.heap.size w ao co acc p) (SDr w.heap.size (.slice ao acc.length co)) (.slice ao acc.length co) (fun v W => ∃ (a : Option Addr) (c : Nat) (d : OpD), DrawnOp d ∧ v = .slice a (acc.length + 1) c ∧ W.ownsRow (w.heap.size + 1) 55 4 v (acc.length + 1) (cellsO (acc ++ [d])) ∧ (∃ q, Rd w.heap.size W w.heap.size q ∧ q ≤ p + 19) ∧ Below w.heap.size w W) kk L f W) (by kernel_rfl) (TX.start rfl (HI0.out)) ?_
      apply Exists.intro
      apply And.intro
      · intro f
        simp only [over, List.set]
        exact rfl
      refine ⟨?hops, ?hend⟩
      case hops =>
        refine EachOp.cons ?_ (EachOp.cons ?_ (EachOp.cons ?_ (EachOp.cons ?_ (EachOp.cons ?_ (EachOp.cons ?_ (EachOp.cons ?_ (EachOp.cons ?_ (EachOp.cons ?_ (EachOp.cons ?_ (EachOp.cons ?_ (EachOp.cons ?_ (EachOp.cons ?_ (EachOp.cons ?_ (EachOp.cons ?_ (EachOp.cons ?_ (EachOp.cons ?_ (EachOp.cons ?_ (EachOp.cons ?_ (EachOp.nil)))))))))))))))))))
        · intro L ff kk ww hkk hJ hcl hLi hwt QQ' hQ
          try dsimp only
          have nm : L 17 = false := by
            cases hx : L 17 with
            | false => rfl
            | true =>
              have h17x := hx
              have h0x : L 0 = true := hcl 17 _ rfl h17x 0 (by decide)
              have h2 : L 0 = false := hLi
              rw [h0x] at h2; cases h2
          have nm1 : L 18 = false := by
            cases hx : L 18 with
            | false => rfl
            | true =>
              have h18x := hx
              have h17x : L 17 = true := hcl 18 _ rfl h18x 17 (by decide)
              have h0x : L 0 = true := hcl 17 _ rfl h17x 0 (by decide)
              have h2 : L 0 = false := hLi
              rw [h0x] at h2; cases h2
          have hI := hJ.inv nm
          have cz : ff 18 = _ := hJ.zero nm1
          go_big_wp2_with fail
          refine hQ _ _ _ ?_ (hJ.pre_op (i := 0) (by decide) nm nm1 (hI.next) (fun j v h => h.kept (grownN ww 0 _)) (rfl))
          first | rfl | (simp [upd, cz]; done)
        · intro L ff kk ww hkk hJ hcl hLi hwt QQ' hQ
          try dsimp only
          have nm : L 17 = false := by
            cases hx : L 17 with
            | false => rfl
            | true =>
              have h17x := hx
              have h16x : L 16 = true := hcl 17 _ rfl h17x 16 (by decide)
              have h15x : L 15 = true := hcl 16 _ rfl h16x 15 (by decide)
              have h3x : L 3 = true := hcl 15 _ rfl h15x 3 (by decide)
              have h1x : L 1 = true := hcl 3 _ rfl h3x 1 (by decide)
              have h2 : L 1 = false := hLi
              rw [h1x] at h2; cases h2
          have nm1 : L 18 = false := by
            cases hx : L 18 with
            | false => rfl
            | true =>
              have h18x := hx
              have h17x : L 17 = true := hcl 18 _ rfl h18x 17 (by decide)
              have h16x : L 16 = true := hcl 17 _ rfl h17x 16 (by decide)
              have h15x : L 15 = true := hcl 16 _ rfl h16x 15 (by decide)
              have h3x : L 3 = true := hcl 15 _ rfl h15x 3 (by decide)
              have h1x : L 1 = true := hcl 3 _ rfl h3x 1 (by decide)
              have h2 : L 1 = false := hLi
              rw [h1x] at h2; cases h2
          have hI := hJ.inv nm
          go_big_wp2_with fail
          refine hQ _ _ _ ?_ (hJ.pre_op (i := 1) (by decide) nm nm1 (hI.next) (fun j v h => h.kept (grownN ww 0 _)) (rfl))
          first | rfl | (simp [upd]; done)
        · intro L ff kk ww hkk hJ hcl hLi hwt QQ' hQ
          try dsimp only
          have nm : L 17 = false := by
            cases hx : L 17 with
            | false => rfl
            | true =>
              have h17x := hx
              have h16x : L 16 = true := hcl 17 _ rfl h17x 16 (by decide)
              have h15x : L 15 = true := hcl 16 _ rfl h16x 15 (by decide)
              have h3x : L 3 = true := hcl 15 _ rfl h15x 3 (by decide)
              have h2x : L 2 = true := hcl 3 _ rfl h3x 2 (by decide)
              have h2 : L 2 = false := hLi
              rw [h2x] at h2; cases h2
          have nm1 : L 18 = false := by
            cases hx : L 18 with
            | false => rfl
            | true =>
              have h18x := hx
              have h17x : L 17 = true := hcl 18 _ rfl h18x 17 (by decide)
              have h16x : L 16 = true := hcl 17 _ rfl h17x 16 (by decide)
              have h15x : L 15 = true := hcl 16 _ rfl h16x 15 (by decide)
              have h3x : L 3 = true := hcl 15 _ rfl h15x 3 (by decide)
              have h2x : L 2 = true := hcl 3 _ rfl h3x 2 (by decide)
              have h2 : L 2 = false := hLi
              rw [h2x] at h2; cases h2
          have hI := hJ.inv nm
          have hkk2 : kk < 19 := hkk
          obtain ⟨q0, hr0, hq0⟩ := hI.1
          have hbl := hr0.le.2
          go_big_wp2_with fail
          refine hQ _ _ (ww.alloc (.cells #[.string ⟨#[108, 97]⟩, .string ⟨#[108, 98]⟩, .string ⟨#[108, 99]⟩, .string ⟨#[108, 100]⟩] 9)) ?_ (hJ.pre_op (i := 2) (by decide) nm nm1 (hI.alloc _) (fun j v h => h.kept (grown_new _ _ _)) (⟨ww.heap.size, rfl, by omega, fun i hi => lits_at _ _ rfl legTexts rfl i hi⟩))
          first | rfl | (simp [upd]; done)
        · intro L ff kk ww hkk hJ hcl hLi hwt QQ' hQ
          try dsimp only
          have nm : L 17 = false := by
            cases hx : L 17 with
            | false => rfl
            | true =>
              have h17x := hx
              have h16x : L 16 = true := hcl 17 _ rfl h17x 16 (by decide)
              have h15x : L 15 = true := hcl 16 _ rfl h16x 15 (by decide)
              have h3x : L 3 = true := hcl 15 _ rfl h15x 3 (by decide)
              have h2 : L 3 = false := hLi
              rw [h3x] at h2; cases h2
          have nm1 : L 18 = false := by
            cases hx : L 18 with
            | false => rfl
            | true =>
              have h18x := hx
              have h17x : L 17 = true := hcl 18 _ rfl h18x 17 (by decide)
              have h16x : L 16 = true := hcl 17 _ rfl h17x 16 (by decide)
              have h15x : L 15 = true := hcl 16 _ rfl h16x 15 (by decide)
              have h3x : L 3 = true := hcl 15 _ rfl h15x 3 (by decide)
              have h2 : L 3 = false := hLi
              rw [h3x] at h2; cases h2
          have hI := hJ.inv nm
          have hkk2 : kk < 19 := hkk
          obtain ⟨q0, hr0, hq0⟩ := hI.1
          obtain ⟨lb, e2, hlb, hlc⟩ := hJ.pre 2 (by decide) (hwt 2 (by decide)) nm
          have c2' : ff 2 = _ := e2
          have c1' : ff 1 = _ := hJ.pre 1 (by decide) (hwt 1 (by decide)) nm
          go_big_wp2_with fail
          refine (pickOf w.heap.size w.heap.size q0 4 lb 4 legAt ww hr0 (by omega) (by omega) (by omega) hlc hlb).mono ?_
          rintro e wa ⟨i, hi4, rfl, hra, hga, -⟩
          go_big_wp2_with fail
          refine hQ _ _ wa ?_ (hJ.pre_op (i := 3) (by decide) nm nm1 (hI.grown hra (by omega) hga) (fun j v h => h.kept (hga)) (⟨i, hi4, rfl⟩))
          first | rfl | (simp [upd, c1', c2']; done)
        · intro L ff kk ww hkk hJ hcl hLi hwt QQ' hQ
          try dsimp only
          have nm : L 17 = false := by
            cases hx : L 17 with
            | false => rfl
            | true =>
              have h17x := hx
              have h16x : L 16 = true := hcl 17 _ rfl h17x 16 (by decide)
              have h15x : L 15 = true := hcl 16 _ rfl h16x 15 (by decide)
              have h5x : L 5 = true := hcl 15 _ rfl h15x 5 (by decide)
              have h4x : L 4 = true := hcl 5 _ rfl h5x 4 (by decide)
              have h2 : L 4 = false := hLi
              rw [h4x] at h2; cases h2
          have nm1 : L 18 = false := by
            cases hx : L 18 with
            | false => rfl
            | true =>
              have h18x := hx
              have h17x : L 17 = true := hcl 18 _ rfl h18x 17 (by decide)
              have h16x : L 16 = true := hcl 17 _ rfl h17x 16 (by decide)
              have h15x : L 15 = true := hcl 16 _ rfl h16x 15 (by decide)
              have h5x : L 5 = true := hcl 15 _ rfl h15x 5 (by decide)
              have h4x : L 4 = true := hcl 5 _ rfl h5x 4 (by decide)
              have h2 : L 4 = false := hLi
              rw [h4x] at h2; cases h2
          have hI := hJ.inv nm
          go_big_wp2_with fail
          refine hQ _ _ _ ?_ (hJ.pre_op (i := 4) (by decide) nm nm1 (hI.next) (fun j v h => h.kept (grownN ww 0 _)) (rfl))
          first | rfl | (simp [upd]; done)
        · intro L ff kk ww hkk hJ hcl hLi hwt QQ' hQ
          try dsimp only
          have nm : L 17 = false := by
            cases hx : L 17 with
            | false => rfl
            | true =>
              have h17x := hx
              have h16x : L 16 = true := hcl 17 _ rfl h17x 16 (by decide)
              have h15x : L 15 = true := hcl 16 _ rfl h16x 15 (by decide)
              have h5x : L 5 = true := hcl 15 _ rfl h15x 5 (by decide)
              have h2 : L 5 = false := hLi
              rw [h5x] at h2; cases h2
          have nm1 : L 18 = false := by
            cases hx : L 18 with
            | false => rfl
            | true =>
              have h18x := hx
              have h17x : L 17 = true := hcl 18 _ rfl h18x 17 (by decide)
              have h16x : L 16 = true := hcl 17 _ rfl h17x 16 (by decide)
              have h15x : L 15 = true := hcl 16 _ rfl h16x 15 (by decide)
              have h5x : L 5 = true := hcl 15 _ rfl h15x 5 (by decide)
              have h2 : L 5 = false := hLi
              rw [h5x] at h2; cases h2
          have hI := hJ.inv nm
          have hkk2 : kk < 19 := hkk
          obtain ⟨q0, hr0, hq0⟩ := hI.1
          have c4' : ff 4 = _ := hJ.pre 4 (by decide) (hwt 4 (by decide)) nm
          go_big_wp2_with fail
          refine (pick w.heap.size w.heap.size q0 3 ww hr0 (by omega) (by omega) (by omega)).mono ?_
          rintro e wa ⟨x, x0, x1, rfl, hra, hga, -⟩
          go_big_wp2_with fail
          refine hQ _ _ wa ?_ (hJ.pre_op (i := 5) (by decide) nm nm1 (hI.grown hra (by omega) hga) (fun j v h => h.kept (hga)) (⟨x, x0, x1, rfl⟩))
          first | rfl | (simp [upd, c4']; done)
        · intro L ff kk ww hkk hJ hcl hLi hwt QQ' hQ
          try dsimp only
          have nm : L 17 = false := by
            cases hx : L 17 with
            | false => rfl
            | true =>
              have h17x := hx
              have h16x : L 16 = true := hcl 17 _ rfl h17x 16 (by decide)
              have h15x : L 15 = true := hcl 16 _ rfl h16x 15 (by decide)
              have h12x : L 12 = true := hcl 15 _ rfl h15x 12 (by decide)
              have h11x : L 11 = true := hcl 12 _ rfl h12x 11 (by decide)
              have h6x : L 6 = true := hcl 11 _ rfl h11x 6 (by decide)
              have h2 : L 6 = false := hLi
              rw [h6x] at h2; cases h2
          have nm1 : L 18 = false := by
            cases hx : L 18 with
            | false => rfl
            | true =>
              have h18x := hx
              have h17x : L 17 = true := hcl 18 _ rfl h18x 17 (by decide)
              have h16x : L 16 = true := hcl 17 _ rfl h17x 16 (by decide)
              have h15x : L 15 = true := hcl 16 _ rfl h16x 15 (by decide)
              have h12x : L 12 = true := hcl 15 _ rfl h15x 12 (by decide)
              have h11x : L 11 = true := hcl 12 _ rfl h12x 11 (by decide)
              have h6x : L 6 = true := hcl 11 _ rfl h11x 6 (by decide)
              have h2 : L 6 = false := hLi
              rw [h6x] at h2; cases h2
          have hI := hJ.inv nm
          have hkk2 : kk < 19 := hkk
          obtain ⟨q0, hr0, hq0⟩ := hI.1
          have hbl := hr0.le.2
          go_big_wp2_with fail
          refine hQ _ _ (ww.alloc (.cells #[.int .i64 1, .int .i64 2, .int .i64 (-1), .int .i64 0, .int .i64 5] 3)) ?_ (hJ.pre_op (i := 6) (by decide) nm nm1 (hI.alloc _) (fun j v h => h.kept (grown_new _ _ _)) (⟨ww.heap.size, rfl, by omega, fun i hi => sts_at i hi⟩))
          first | rfl | (simp [upd]; done)
        · intro L ff kk ww hkk hJ hcl hLi hwt QQ' hQ
          try dsimp only
          have nm : L 17 = false := by
            cases hx : L 17 with
            | false => rfl
            | true =>
              have h17x := hx
              have h16x : L 16 = true := hcl 17 _ rfl h17x 16 (by decide)
              have h15x : L 15 = true := hcl 16 _ rfl h16x 15 (by decide)
              have h12x : L 12 = true := hcl 15 _ rfl h15x 12 (by decide)
              have h11x : L 11 = true := hcl 12 _ rfl h12x 11 (by decide)
              have h10x : L 10 = true := hcl 11 _ rfl h11x 10 (by decide)
              have h9x : L 9 = true := hcl 10 _ rfl h10x 9 (by decide)
              have h8x : L 8 = true := hcl 9 _ rfl h9x 8 (by decide)
              have h7x : L 7 = true := hcl 8 _ rfl h8x 7 (by decide)
              have h2 : L 7 = false := hLi
              rw [h7x] at h2; cases h2
          have nm1 : L 18 = false := by
            cases hx : L 18 with
            | false => rfl
            | true =>
              have h18x := hx
              have h17x : L 17 = true := hcl 18 _ rfl h18x 17 (by decide)
              have h16x : L 16 = true := hcl 17 _ rfl h17x 16 (by decide)
              have h15x : L 15 = true := hcl 16 _ rfl h16x 15 (by decide)
              have h12x : L 12 = true := hcl 15 _ rfl h15x 12 (by decide)
              have h11x : L 11 = true := hcl 12 _ rfl h12x 11 (by decide)
              have h10x : L 10 = true := hcl 11 _ rfl h11x 10 (by decide)
              have h9x : L 9 = true := hcl 10 _ rfl h10x 9 (by decide)
              have h8x : L 8 = true := hcl 9 _ rfl h9x 8 (by decide)
              have h7x : L 7 = true := hcl 8 _ rfl h8x 7 (by decide)
              have h2 : L 7 = false := hLi
              rw [h7x] at h2; cases h2
          have hI := hJ.inv nm
          go_big_wp2_with fail
          refine hQ _ _ _ ?_ (hJ.pre_op (i := 7) (by decide) nm nm1 (hI.next) (fun j v h => h.kept (grownN ww 0 _)) (rfl))
          first | rfl | (simp [upd]; done)
        · intro L ff kk ww hkk hJ hcl hLi hwt QQ' hQ
          try dsimp only
          have nm : L 17 = false := by
            cases hx : L 17 with
            | false => rfl
            | true =>
              have h17x := hx
              have h16x : L 16 = true := hcl 17 _ rfl h17x 16 (by decide)
              have h15x : L 15 = true := hcl 16 _ rfl h16x 15 (by decide)
              have h12x : L 12 = true := hcl 15 _ rfl h15x 12 (by decide)
              have h11x : L 11 = true := hcl 12 _ rfl h12x 11 (by decide)
              have h10x : L 10 = true := hcl 11 _ rfl h11x 10 (by decide)
              have h9x : L 9 = true := hcl 10 _ rfl h10x 9 (by decide)
              have h8x : L 8 = true := hcl 9 _ rfl h9x 8 (by decide)
              have h2 : L 8 = false := hLi
              rw [h8x] at h2; cases h2
          have nm1 : L 18 = false := by
            cases hx : L 18 with
            | false => rfl
            | true =>
              have h18x := hx
              have h17x : L 17 = true := hcl 18 _ rfl h18x 17 (by decide)
              have h16x : L 16 = true := hcl 17 _ rfl h17x 16 (by decide)
              have h15x : L 15 = true := hcl 16 _ rfl h16x 15 (by decide)
              have h12x : L 12 = true := hcl 15 _ rfl h15x 12 (by decide)
              have h11x : L 11 = true := hcl 12 _ rfl h12x 11 (by decide)
              have h10x : L 10 = true := hcl 11 _ rfl h11x 10 (by decide)
              have h9x : L 9 = true := hcl 10 _ rfl h10x 9 (by decide)
              have h8x : L 8 = true := hcl 9 _ rfl h9x 8 (by decide)
              have h2 : L 8 = false := hLi
              rw [h8x] at h2; cases h2
          have hI := hJ.inv nm
          have hkk2 : kk < 19 := hkk
          obtain ⟨q0, hr0, hq0⟩ := hI.1
          have c7' : ff 7 = _ := hJ.pre 7 (by decide) (hwt 7 (by decide)) nm
          go_big_wp2_with fail
          refine (pick w.heap.size w.heap.size q0 12 ww hr0 (by omega) (by omega) (by omega)).mono ?_
          rintro e wa ⟨x, x0, x1, rfl, hra, hga, -⟩
          go_big_wp2_with fail
          refine hQ _ _ wa ?_ (hJ.pre_op (i := 8) (by decide) nm nm1 (hI.grown hra (by omega) hga) (fun j v h => h.kept (hga)) (⟨x, x0, x1, rfl⟩))
          first | rfl | (simp [upd, c7']; done)
        · intro L ff kk ww hkk hJ hcl hLi hwt QQ' hQ
          try dsimp only
          have nm : L 17 = false := by
            cases hx : L 17 with
            | false => rfl
            | true =>
              have h17x := hx
              have h16x : L 16 = true := hcl 17 _ rfl h17x 16 (by decide)
              have h15x : L 15 = true := hcl 16 _ rfl h16x 15 (by decide)
              have h12x : L 12 = true := hcl 15 _ rfl h15x 12 (by decide)
              have h11x : L 11 = true := hcl 12 _ rfl h12x 11 (by decide)
              have h10x : L 10 = true := hcl 11 _ rfl h11x 10 (by decide)
              have h9x : L 9 = true := hcl 10 _ rfl h10x 9 (by decide)
              have h2 : L 9 = false := hLi
              rw [h9x] at h2; cases h2
          have nm1 : L 18 = false := by
            cases hx : L 18 with
            | false => rfl
            | true =>
              have h18x := hx
              have h17x : L 17 = true := hcl 18 _ rfl h18x 17 (by decide)
              have h16x : L 16 = true := hcl 17 _ rfl h17x 16 (by decide)
              have h15x : L 15 = true := hcl 16 _ rfl h16x 15 (by decide)
              have h12x : L 12 = true := hcl 15 _ rfl h15x 12 (by decide)
              have h11x : L 11 = true := hcl 12 _ rfl h12x 11 (by decide)
              have h10x : L 10 = true := hcl 11 _ rfl h11x 10 (by decide)
              have h9x : L 9 = true := hcl 10 _ rfl h10x 9 (by decide)
              have h2 : L 9 = false := hLi
              rw [h9x] at h2; cases h2
          have hI := hJ.inv nm
          obtain ⟨x, x0, x1, e8⟩ := hJ.pre 8 (by decide) (hwt 8 (by decide)) nm
          have c8' : ff 8 = _ := e8
          have wr1 : IntKind.i64.wrap (x * 5) = x * 5 := IntWalk.i64_in _ (by omega)
          go_big_wp2_with fail
          refine hQ _ _ _ ?_ (hJ.pre_op (i := 9) (by decide) nm nm1 (hI.next) (fun j v h => h.kept (grownN ww 0 _)) (⟨x * 5, by omega, by omega, rfl⟩))
          first | rfl | (simp [upd, c8']; done)
        · intro L ff kk ww hkk hJ hcl hLi hwt QQ' hQ
          try dsimp only
          have nm : L 17 = false := by
            cases hx : L 17 with
            | false => rfl
            | true =>
              have h17x := hx
              have h16x : L 16 = true := hcl 17 _ rfl h17x 16 (by decide)
              have h15x : L 15 = true := hcl 16 _ rfl h16x 15 (by decide)
              have h12x : L 12 = true := hcl 15 _ rfl h15x 12 (by decide)
              have h11x : L 11 = true := hcl 12 _ rfl h12x 11 (by decide)
              have h10x : L 10 = true := hcl 11 _ rfl h11x 10 (by decide)
              have h2 : L 10 = false := hLi
              rw [h10x] at h2; cases h2
          have nm1 : L 18 = false := by
            cases hx : L 18 with
            | false => rfl
            | true =>
              have h18x := hx
              have h17x : L 17 = true := hcl 18 _ rfl h18x 17 (by decide)
              have h16x : L 16 = true := hcl 17 _ rfl h17x 16 (by decide)
              have h15x : L 15 = true := hcl 16 _ rfl h16x 15 (by decide)
              have h12x : L 12 = true := hcl 15 _ rfl h15x 12 (by decide)
              have h11x : L 11 = true := hcl 12 _ rfl h12x 11 (by decide)
              have h10x : L 10 = true := hcl 11 _ rfl h11x 10 (by decide)
              have h2 : L 10 = false := hLi
              rw [h10x] at h2; cases h2
          have hI := hJ.inv nm
          obtain ⟨x, x0, x1, e9⟩ := hJ.pre 9 (by decide) (hwt 9 (by decide)) nm
          have c9' : ff 9 = _ := e9
          have mt : x.tdiv 12 = x / 12 := Int.tdiv_eq_ediv_of_nonneg x0
          have mw : IntKind.i64.wrap (x / 12) = x / 12 := IntWalk.i64_in _ (by omega)
          go_big_wp2_with fail
          refine hQ _ (.int .i64 (x / 12)) _ ?_ (hJ.pre_op (i := 10) (by decide) nm nm1 (hI.next) (fun j v h => h.kept (grownN ww 0 _)) (⟨x / 12, by omega, by omega, rfl⟩))
          first | rfl | (simp [upd, c9', mt, mw]; done)
        · intro L ff kk ww hkk hJ hcl hLi hwt QQ' hQ
          try dsimp only
          have nm : L 17 = false := by
            cases hx : L 17 with
            | false => rfl
            | true =>
              have h17x := hx
              have h16x : L 16 = true := hcl 17 _ rfl h17x 16 (by decide)
              have h15x : L 15 = true := hcl 16 _ rfl h16x 15 (by decide)
              have h12x : L 12 = true := hcl 15 _ rfl h15x 12 (by decide)
              have h11x : L 11 = true := hcl 12 _ rfl h12x 11 (by decide)
              have h2 : L 11 = false := hLi
              rw [h11x] at h2; cases h2
          have nm1 : L 18 = false := by
            cases hx : L 18 with
            | false => rfl
            | true =>
              have h18x := hx
              have h17x : L 17 = true := hcl 18 _ rfl h18x 17 (by decide)
              have h16x : L 16 = true := hcl 17 _ rfl h17x 16 (by decide)
              have h15x : L 15 = true := hcl 16 _ rfl h16x 15 (by decide)
              have h12x : L 12 = true := hcl 15 _ rfl h15x 12 (by decide)
              have h11x : L 11 = true := hcl 12 _ rfl h12x 11 (by decide)
              have h2 : L 11 = false := hLi
              rw [h11x] at h2; cases h2
          have hI := hJ.inv nm
          obtain ⟨lb, e6, hlb, hlc⟩ := hJ.pre 6 (by decide) (hwt 6 (by decide)) nm
          obtain ⟨x, x0, x1, e10⟩ := hJ.pre 10 (by decide) (hwt 10 (by decide)) nm
          obtain ⟨i, rfl⟩ := Int.eq_ofNat_of_zero_le x0
          have hi5 : i < 5 := by omega
          have c6' : ff 6 = _ := e6
          have c10' : ff 10 = _ := e10
          go_big_wp2_with fail
          refine hQ _ (.pointer (some ⟨lb, i, none⟩)) _ ?_ (hJ.pre_op (i := 11) (by decide) nm nm1 (hI.next) (fun j v h => h.kept (grownN ww 0 _)) (⟨lb, i, hi5, hlb, rfl, hlc i hi5⟩))
          first | rfl | (simp [upd, c6', c10']; done)
        · intro L ff kk ww hkk hJ hcl hLi hwt QQ' hQ
          try dsimp only
          have nm : L 17 = false := by
            cases hx : L 17 with
            | false => rfl
            | true =>
              have h17x := hx
              have h16x : L 16 = true := hcl 17 _ rfl h17x 16 (by decide)
              have h15x : L 15 = true := hcl 16 _ rfl h16x 15 (by decide)
              have h12x : L 12 = true := hcl 15 _ rfl h15x 12 (by decide)
              have h2 : L 12 = false := hLi
              rw [h12x] at h2; cases h2
          have nm1 : L 18 = false := by
            cases hx : L 18 with
            | false => rfl
            | true =>
              have h18x := hx
              have h17x : L 17 = true := hcl 18 _ rfl h18x 17 (by decide)
              have h16x : L 16 = true := hcl 17 _ rfl h17x 16 (by decide)
              have h15x : L 15 = true := hcl 16 _ rfl h16x 15 (by decide)
              have h12x : L 12 = true := hcl 15 _ rfl h15x 12 (by decide)
              have h2 : L 12 = false := hLi
              rw [h12x] at h2; cases h2
          have hI := hJ.inv nm
          obtain ⟨lb, i, hi5, hlb, e11, hlc⟩ := hJ.pre 11 (by decide) (hwt 11 (by decide)) nm
          have c11' : ff 11 = _ := e11
          go_big_wp2_with fail
          refine hQ _ _ _ ?_ (hJ.pre_op (i := 12) (by decide) nm nm1 (hI.next) (fun j v h => h.kept (grownN ww 0 _)) (⟨i, hi5, rfl⟩))
          first | rfl | (simp [upd, c11']; done)
        · intro L ff kk ww hkk hJ hcl hLi hwt QQ' hQ
          try dsimp only
          have nm : L 17 = false := by
            cases hx : L 17 with
            | false => rfl
            | true =>
              have h17x := hx
              have h16x : L 16 = true := hcl 17 _ rfl h17x 16 (by decide)
              have h15x : L 15 = true := hcl 16 _ rfl h16x 15 (by decide)
              have h14x : L 14 = true := hcl 15 _ rfl h15x 14 (by decide)
              have h13x : L 13 = true := hcl 14 _ rfl h14x 13 (by decide)
              have h2 : L 13 = false := hLi
              rw [h13x] at h2; cases h2
          have nm1 : L 18 = false := by
            cases hx : L 18 with
            | false => rfl
            | true =>
              have h18x := hx
              have h17x : L 17 = true := hcl 18 _ rfl h18x 17 (by decide)
              have h16x : L 16 = true := hcl 17 _ rfl h17x 16 (by decide)
              have h15x : L 15 = true := hcl 16 _ rfl h16x 15 (by decide)
              have h14x : L 14 = true := hcl 15 _ rfl h15x 14 (by decide)
              have h13x : L 13 = true := hcl 14 _ rfl h14x 13 (by decide)
              have h2 : L 13 = false := hLi
              rw [h13x] at h2; cases h2
          have hI := hJ.inv nm
          go_big_wp2_with fail
          refine hQ _ _ _ ?_ (hJ.pre_op (i := 13) (by decide) nm nm1 (hI.next) (fun j v h => h.kept (grownN ww 0 _)) (rfl))
          first | rfl | (simp [upd]; done)
        · intro L ff kk ww hkk hJ hcl hLi hwt QQ' hQ
          try dsimp only
          have nm : L 17 = false := by
            cases hx : L 17 with
            | false => rfl
            | true =>
              have h17x := hx
              have h16x : L 16 = true := hcl 17 _ rfl h17x 16 (by decide)
              have h15x : L 15 = true := hcl 16 _ rfl h16x 15 (by decide)
              have h14x : L 14 = true := hcl 15 _ rfl h15x 14 (by decide)
              have h2 : L 14 = false := hLi
              rw [h14x] at h2; cases h2
          have nm1 : L 18 = false := by
            cases hx : L 18 with
            | false => rfl
            | true =>
              have h18x := hx
              have h17x : L 17 = true := hcl 18 _ rfl h18x 17 (by decide)
              have h16x : L 16 = true := hcl 17 _ rfl h17x 16 (by decide)
              have h15x : L 15 = true := hcl 16 _ rfl h16x 15 (by decide)
              have h14x : L 14 = true := hcl 15 _ rfl h15x 14 (by decide)
              have h2 : L 14 = false := hLi
              rw [h14x] at h2; cases h2
          have hI := hJ.inv nm
          have hkk2 : kk < 19 := hkk
          obtain ⟨q0, hr0, hq0⟩ := hI.1
          have c13' : ff 13 = _ := hJ.pre 13 (by decide) (hwt 13 (by decide)) nm
          go_big_wp2_with fail
          refine (pick w.heap.size w.heap.size q0 500 ww hr0 (by omega) (by omega) (by omega)).mono ?_
          rintro e wa ⟨x, x0, x1, rfl, hra, hga, -⟩
          go_big_wp2_with fail
          refine hQ _ _ wa ?_ (hJ.pre_op (i := 14) (by decide) nm nm1 (hI.grown hra (by omega) hga) (fun j v h => h.kept (hga)) (⟨x, x0, x1, rfl⟩))
          first | rfl | (simp [upd, c13']; done)
        · intro L ff kk ww hkk hJ hcl hLi hwt QQ' hQ
          try dsimp only
          have nm : L 17 = false := by
            cases hx : L 17 with
            | false => rfl
            | true =>
              have h17x := hx
              have h16x : L 16 = true := hcl 17 _ rfl h17x 16 (by decide)
              have h15x : L 15 = true := hcl 16 _ rfl h16x 15 (by decide)
              have h2 : L 15 = false := hLi
              rw [h15x] at h2; cases h2
          have nm1 : L 18 = false := by
            cases hx : L 18 with
            | false => rfl
            | true =>
              have h18x := hx
              have h17x : L 17 = true := hcl 18 _ rfl h18x 17 (by decide)
              have h16x : L 16 = true := hcl 17 _ rfl h17x 16 (by decide)
              have h15x : L 15 = true := hcl 16 _ rfl h16x 15 (by decide)
              have h2 : L 15 = false := hLi
              rw [h15x] at h2; cases h2
          have hI := hJ.inv nm
          obtain ⟨i3, h3, e3⟩ := hJ.pre 3 (by decide) (hwt 3 (by decide)) nm
          obtain ⟨x5, l5, u5, e5⟩ := hJ.pre 5 (by decide) (hwt 5 (by decide)) nm
          obtain ⟨i12, h12, e12⟩ := hJ.pre 12 (by decide) (hwt 12 (by decide)) nm
          obtain ⟨x14, l14, u14, e14⟩ := hJ.pre 14 (by decide) (hwt 14 (by decide)) nm
          have c3' : ff 3 = _ := e3
          have c5' : ff 5 = _ := e5
          have c12' : ff 12 = _ := e12
          have c14' : ff 14 = _ := e14
          have hst := stAt_in i12 h12
          have hls := legAt_size i3 h3
          go_big_wp2_with fail
          refine hQ _ _ _ ?_ (hJ.pre_op (i := 15) (by decide) nm nm1 (hI.next) (fun j v h => h.kept (grownN ww 0 _)) (⟨⟨legAt i3, x5, stAt i12, x14⟩, drawnOp_of hls l5 u5 hst l14 u14, rfl⟩))
          first | rfl | (simp [upd, c3', c5', c12', c14']; done)
        · intro L ff kk ww hkk hJ hcl hLi hwt QQ' hQ
          try dsimp only
          have nm : L 17 = false := by
            cases hx : L 17 with
            | false => rfl
            | true =>
              have h17x := hx
              have h16x : L 16 = true := hcl 17 _ rfl h17x 16 (by decide)
              have h2 : L 16 = false := hLi
              rw [h16x] at h2; cases h2
          have nm1 : L 18 = false := by
            cases hx : L 18 with
            | false => rfl
            | true =>
              have h18x := hx
              have h17x : L 17 = true := hcl 18 _ rfl h18x 17 (by decide)
              have h16x : L 16 = true := hcl 17 _ rfl h17x 16 (by decide)
              have h2 : L 16 = false := hLi
              rw [h16x] at h2; cases h2
          have hI := hJ.inv nm
          have hkk2 : kk < 19 := hkk
          obtain ⟨q0, hr0, hq0⟩ := hI.1
          have hbl := hr0.le.2
          obtain ⟨d, hd, e15⟩ := hJ.pre 15 (by decide) (hwt 15 (by decide)) nm
          have c15' : ff 15 = _ := e15
          go_big_wp2_with fail
          refine hQ _ _ (ww.alloc (.cells #[.string d.leg, .int .i64 d.cls, .int .i64 d.st, .int .i64 d.sh] 55)) ?_ (hJ.pre_op (i := 16) (by decide) nm nm1 (hI.alloc _) (fun j v h => h.kept (grown_new _ _ _)) (⟨ww.heap.size, d, hd, rfl, heap_alloc_new ww _, by omega⟩))
          first | rfl | (simp [upd, c15']; done)
        · intro L ff kk ww hkk hJ hcl hLi hwt QQ' hQ
          try dsimp only
          have nm : L 17 = false := hLi
          have nm1 : L 18 = false := by
            cases hx : L 18 with
            | false => rfl
            | true =>
              have h18x := hx
              have h17x : L 17 = true := hcl 18 _ rfl h18x 17 (by decide)
              have h2 : L 17 = false := hLi
              rw [h17x] at h2; cases h2
          have hI := hJ.inv nm
          have hkk2 : kk < 19 := hkk
          have c0 : ff 0 = _ := hJ.pre 0 (by decide) (hwt 0 (by decide)) nm
          obtain ⟨gx, d, hd, cl, hz5, hgl⟩ := hJ.pre 16 (by decide) (hwt 16 (by decide)) nm
          have cl' : ff 16 = _ := cl
          obtain ⟨⟨q0, hr0, hq0⟩, hO, hbw⟩ := hI
          have hbl := hr0.le.2
          refine wpList_append_lies ww rfl _ _ 24 rfl (w.heap.size + 1) 55 it0 (.agg #[.string ⟨#[]⟩, .int .i64 0, .int .i64 0, .int .i64 0]) 4 40 Tryd.underlying24 hi hz0 hz1 hz2 rfl (by decide) (.slice ao acc.length co) acc.length (cellsO acc) c0 hO ⟨gx, 0, none⟩ 1 1 [.string d.leg, .int .i64 d.cls, .int .i64 d.st, .int .i64 d.sh] cl' rfl (World.news_of_block hz5) (by intro u hu; simp at hu; rcases hu with rfl | rfl | rfl | rfl <;> rfl) (by decide) (by unfold maxLen; omega) (by omega) hbl ww.heap.size rfl ?_
          intro g2 cp2 wz ho hg hat hlt
          simp only [Act.put, List.setIfInBounds_toArray, List.set_cons_succ, List.set_cons_zero]
          refine hQ _ _ wz rfl (hJ.app_op nm1 ⟨some ⟨g2, 0, none⟩, cp2, d, hd, rfl, ?_, ⟨q0, ?_, by omega⟩, ?_⟩)
          · rw [cellsO_snoc]; exact ho
          · refine hr0.kept ((Below.refl _ _).grown hg (Nat.le_of_lt hbl) (fun y e => by have := (hO.lt y e).1; omega)) (hg.block _ hbl (fun e => ?_))
            have := (hO.lt _ e.symm).1
            omega
          · exact hbw.grown hg (Nat.le_of_lt hbl) (fun y e => by have := (hO.lt y e).1; omega)

        · intro L ff kk ww hkk hJ hcl hLi hwt QQ' hQ
          try dsimp only
          have hm : L 17 = true := hwt 17 (by decide)
          go_big_wp2_with fail
          refine hQ _ _ _ ?_ (hJ.fin_op hm rfl)
          first | rfl | (simp [upd]; done)
      case hend =>
      intro L ff kk w9 hkb hL hJ
      try dsimp only
      have hfin := hJ.fin (hL 18 (by decide))
      clear hJ hL
      obtain ⟨a9, c9, d9, hd9, e9, ho9, ⟨q9, hr9, hq9⟩, hb9⟩ := hfin
      rw [e9] at ho9 ⊢

      have HO9 := Lib.hid ho9
      have HR9 := Lib.hid hr9
      have HB9 := Lib.hid hb9
      have HDn := Lib.hid hd9
      clear ho9 hr9 hb9 e9 hd9
      go_wp2
      go_roundw
      case rel => exact ⟨k - 1, q9, acc ++ [d9], a9, c9, by go_num, by simp; omega, by omega, by simp, by simpa using HO9.out, Lib.hid (by intro x hx; rcases List.mem_append.1 hx with hx | hx; exact HD.out.out x hx; simp at hx; subst hx; exact HDn.out), HR9.out, HB9.out⟩
      case measure => simp [intOf]; omega

end Go.Proofs.YtlfmhhdlandcjaaDoor
