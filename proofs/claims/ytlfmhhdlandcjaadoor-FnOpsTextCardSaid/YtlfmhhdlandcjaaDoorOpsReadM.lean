/-
  The model's OpsRead.
-/
import Derived.Test.YtlfmhhdlandcjaaDoorOpsPieces
import Derived.Test.YtlfmhhdlandcjaaDoorTX
import Derived.Deep.CutRange
namespace Go.Proofs.YtlfmhhdlandcjaaDoor
open Go.RowKit
set_option linter.unusedVariables false
set_option linter.unusedSimpArgs false

def SPc (ov : Value) (gp cp gw : Nat) (x0 x1 x2 x3 : ByteArray) (i : Nat) (W : World) (v : Value) : Prop := match i with
  | 0 => v = ov
  | 1 => v = .slice (some ⟨gp, 0, none⟩) 4 cp
  | 2 => v = .pointer (some ⟨gp, 0, none⟩)
  | 3 => v = .string x0
  | 4 => v = .slice (some ⟨gp, 0, none⟩) 4 cp
  | 5 => v = .pointer (some ⟨gp, 1, none⟩)
  | 6 => v = .string x1
  | 7 => v = .int .i64 (numV x1.data.toList)
  | 8 => v = .int .i64 (intV x2.data.toList)
  | 9 => v = .slice (some ⟨gp, 0, none⟩) 4 cp
  | 10 => v = .pointer (some ⟨gp, 3, none⟩)
  | 11 => v = .string x3
  | 12 => v = .int .i64 (numV x3.data.toList)
  | 13 => v = .agg #[.string x0, .int .i64 (numV x1.data.toList), .int .i64 (intV x2.data.toList), .int .i64 (numV x3.data.toList)]
  | 14 => ∃ gx : Nat, v = .slice (some ⟨gx, 0, none⟩) 1 1 ∧ W.heap[gx]? = some (.cells #[.string x0, .int .i64 (numV x1.data.toList), .int .i64 (intV x2.data.toList), .int .i64 (numV x3.data.toList)] 55 (0, 0)) ∧ gw ≤ gx
  | _ => True
theorem SPc.kept {ov : Value} {gp cp gw : Nat} {x0 x1 x2 x3 : ByteArray} {i : Nat} {W W' : World} {v : Value} (h : SPc ov gp cp gw x0 x1 x2 x3 i W v) (hb : Below W.heap.size W W') : SPc ov gp cp gw x0 x1 x2 x3 i W' v := by
  match i, h with
  | 0, h | 1, h | 2, h | 3, h | 4, h | 5, h | 6, h | 7, h | 8, h | 9, h | 10, h | 11, h | 12, h | 13, h => exact h
  | 14, ⟨gx, h1, h2, h3⟩ => exact ⟨gx, h1, (hb.block gx (lt_heap h2)).trans h2, h3⟩
  | n + 15, _ => exact True.intro
def SReadPost (s : ByteArray) (w : World) (e : Ending) (w' : World) : Prop :=
  Below w.heap.size w w' ∧ ((Hid (¬ IsOpsM s) ∧ ∃ (a : Option Addr) (cap : Nat), e = .returned (.tuple #[.slice a 0 cap, .bool false])) ∨ ∃ (n cap : Nat) (a : Option Addr) (ds : Nat → OpD), Hid (OpsGood n ds ∧ opsB ds n = s) ∧ e = .returned (.tuple #[.slice a n cap, .bool true]) ∧ Ops w' a n ds)
theorem own_addr {a : Option Addr} {n c g : Nat} (h : (Value.slice a n c).ownBlock = some g) : ∃ o sp, a = some ⟨g, o, sp⟩ := by
  cases a with
  | none => simp [Value.ownBlock] at h
  | some x => obtain ⟨b, o, sp⟩ := x; simp [Value.ownBlock] at h; subst h; exact ⟨o, sp, rfl⟩
theorem ops_own' {w : World} {B cap : Nat} {a : Option Addr} {l : List OpD} (h : w.ownsRow B 55 4 (.slice a l.length cap) l.length (cellsO l)) : Ops w a l.length (dsL l) := by
  rcases Nat.eq_zero_or_pos l.length with h0 | h0
  · exact Or.inl h0
  · obtain ⟨g, c, e, _, _⟩ := h.form h0
    obtain ⟨rfl, -, rfl⟩ : a = some ⟨g, 0, none⟩ ∧ l.length = l.length ∧ cap = c := by simpa using e
    exact ops_own h
set_option maxRecDepth 100000 in
set_option maxHeartbeats 16000000 in
theorem readMO (s : ByteArray) (w : World) (hs : s.size ≤ 1048575) :
    Calls Tryd.prog 7 #[.string s] w (SReadPost s w) := by
  obtain ⟨it0, hi, hz0, hz1, hz2⟩ := info_parts infoOp
  go_enter Tryd.func7, Tryd.ntmps7
  go_wp2_with fail
  refine (cut3C 44 44 rfl s w (by omega)).mono ?_
  rintro e w1 ⟨ws, gw, cw, hws, hl1, hl2, hwsz, rfl, hown, hb⟩
  have HW := Lib.hid hown
  have HWS : Hid (ws.map (·.data.toList) = splitB 44 s.data.toList) := hws
  have HWZ : Hid (∀ x ∈ ws, x.size ≤ s.size) := hwsz
  have HB := Lib.hid hb
  have hzw1 : w.heap.size ≤ w1.heap.size := hb.size
  have hgw := (hown.lt gw rfl).2
  have hown0 : (w1.alloc (.cells #[] 55)).ownsRow w.heap.size 55 4 (.slice (some ⟨w1.heap.size, 0, none⟩) 0 0) 0 [] := World.ownsRow_made w1 #[] 0 hzw1 (by unfold maxLen; omega) rfl
  have hbA : Below w.heap.size w (w1.alloc (.cells #[] 55)) := hb.alloc hzw1 _
  have hwA := hown.alloc (.cells #[] 55)
  clear hws hwsz hown hb
  go_wp2_with fail
  go_loopw [5, 6] (fun vo vi wr => ∃ (acc : List OpD) (ao : Option Addr) (co : Nat), acc.length ≤ 4 ∧ acc.length ≤ ws.length ∧ vi = .int .i64 acc.length ∧ vo = .slice ao acc.length co ∧ wr.ownsRow w.heap.size 55 4 (.slice ao acc.length co) acc.length (cellsO acc) ∧ wr.ownsRow w.heap.size 9 1 (.slice (some ⟨gw, 0, none⟩) ws.length cw) ws.length (ws.map Value.string) ∧ Hid (∀ g o sp, ao = some ⟨g, o, sp⟩ → g ≠ gw) ∧ Hid (Pieces ws acc) ∧ Hid (∀ d ∈ acc, d.leg.size ≤ s.size) ∧ Below w.heap.size w wr) (fun _ vi _ => 5 - (intOf vi).toNat)
  case atStart => exact ⟨[], _, _, by simp, by simp, rfl, rfl, hown0, hwA, Lib.hid (by intro g o sp e; cases e; exact Nat.ne_of_gt hgw), Lib.hid (by intro i hi; simp at hi), Lib.hid (by simp), hbA⟩
  case round =>
    clear hown0 hwA hbA
    obtain ⟨acc, ao, co, ha4, haw, rfl, rfl, hown, hwr, hne0, hps, hlg, hb⟩ := hrel
    have HLG := Lib.hid hlg
    have HOW0 := Lib.hid hown
    have HWR0 := Lib.hid hwr
    have HNE := Lib.hid hne0
    have HPS := Lib.hid hps
    have HBW0 := Lib.hid hb
    have hzr : w.heap.size ≤ wr.heap.size := hb.size
    clear hown hwr hne0 hps hlg hb
    by_cases hk : acc.length < ws.length ∧ acc.length ≤ 3
    · obtain ⟨k1, k2⟩ := hk
      have g1 : decide ((acc.length : Int) < (ws.length : Int)) = true := decide_eq_true (by omega)
      have g1n : decide (acc.length < ws.length) = true := decide_eq_true k1
      have g2 : decide ((acc.length : Int) ≤ 3) = true := decide_eq_true (by omega)
      have g2n : decide (acc.length ≤ 3) = true := decide_eq_true k2
      have i1 : (acc.length : Int) < (ws.length : Int) := by omega
      have i0 : (0 : Int) ≤ (acc.length : Int) := by omega
      have y0 : wr.cell? ⟨gw, acc.length, none⟩ = some (.string (ws[acc.length]'k1)) := by
        rw [HWR0.out.cellAt acc.length (by omega)]; simp [k1]
      have HX : Hid (ws[acc.length]? = some (ws[acc.length]'k1)) := List.getElem?_eq_getElem k1
      have hxz : (ws[acc.length]'k1).size ≤ s.size := HWZ.out _ (List.getElem_mem k1)
      generalize ws[acc.length]'k1 = x at *
      go_wp2_with fail
      refine (cut3C 58 58 rfl x wr (by omega)).mono ?_
      rintro e w2 ⟨ps, gp, cp, hps, hp1, hp2, hpz, rfl, hpo, hb2⟩
      have HPP : Hid (ps.map (·.data.toList) = splitB 58 x.data.toList) := hps
      have HPZ : Hid (∀ y ∈ ps, y.size ≤ x.size) := hpz
      have HPR0 := Lib.hid hpo
      have HOW := Lib.hid (HOW0.out.kept (row := none) (grown_of hb2) (Classical.em _))
      have HWR := Lib.hid (HWR0.out.kept (row := none) (grown_of hb2) (Classical.em _))
      have HBW := Lib.hid (HBW0.out.trans (hb2.mono hzr))
      have hzw : w.heap.size ≤ w2.heap.size := Nat.le_trans hzr hb2.size
      clear hps hpz hpo hb2 y0 HOW0 HWR0 HBW0
      by_cases h4 : ps.length = 4
      · obtain ⟨x0, x1, x2, x3, rfl⟩ : ∃ x0 x1 x2 x3, ps = [x0, x1, x2, x3] := by
          match ps, h4 with
          | [x0, x1, x2, x3], _ => exact ⟨x0, x1, x2, x3, rfl⟩
        have HX1 : Hid (x1.size ≤ maxLen) := by have := HPZ.out x1 (by simp); show _ ≤ _; unfold maxLen; omega
        have HX0z : Hid (x0.size ≤ s.size) := by have := HPZ.out x0 (by simp); show _ ≤ _; omega
        have HX2 : Hid (x2.size ≤ maxLen) := by have := HPZ.out x2 (by simp); show _ ≤ _; unfold maxLen; omega
        have HX3 : Hid (x3.size ≤ maxLen) := by have := HPZ.out x3 (by simp); show _ ≤ _; unfold maxLen; omega
        have HPR : Hid (w2.ownsRow wr.heap.size 9 1 (.slice (some ⟨gp, 0, none⟩) 4 cp) 4 [.string x0, .string x1, .string x2, .string x3]) := HPR0.out
        have HPO : Hid (pieceOp x.data.toList = some (⟨x0, numV x1.data.toList, intV x2.data.toList, numV x3.data.toList⟩ : OpD)) := by
          show _ = _
          unfold pieceOp
          rw [← HPP.out]; rfl
        have y2 := HPR.out.cellAt 2 (by omega)
        simp only [List.getElem?_cons_zero, List.getElem?_cons_succ] at y2
        have KI := Lib.hid (intC x2 w2 HX2.out)
        clear h4 HPP HPZ HPR0 hp1 hp2
        go_wp2_with fail
        refine KI.out.mono ?_
        rintro e w3 ⟨n2, b2, rfl, hn2, -, -, rfl⟩
        obtain rfl := hn2.out
        clear hn2 y2 KI
        go_upto_region 10 with fail
        refine wp_region_invK (by kernel_rfl) (fun kk L f W => TX 15 (fun _ W => Below w2.heap.size w2 W) (SPc (.slice ao acc.length co) gp cp w2.heap.size x0 x1 x2 x3) (.slice ao acc.length co) (fun v W => ∃ (a : Option Addr) (c : Nat), v = .slice a (acc.length + 1) c ∧ W.ownsRow w.heap.size 55 4 v (acc.length + 1) (cellsO (acc ++ [(⟨x0, numV x1.data.toList, intV x2.data.toList, numV x3.data.toList⟩ : OpD)])) ∧ Below w.heap.size w W ∧ (∃ g, a = some ⟨g, 0, none⟩ ∧ g ≠ gw) ∧ W.ownsRow w.heap.size 9 1 (.slice (some ⟨gw, 0, none⟩) ws.length cw) ws.length (ws.map Value.string)) kk L f W) (by kernel_rfl) (TX.start rfl ((Below.refl _ _).drew)) ?_
        apply Exists.intro
        apply And.intro
        · intro f
          simp only [over, List.set]
          exact rfl
        refine ⟨?hops, ?hend⟩
        case hops =>
          refine EachOp.cons ?_ (EachOp.cons ?_ (EachOp.cons ?_ (EachOp.cons ?_ (EachOp.cons ?_ (EachOp.cons ?_ (EachOp.cons ?_ (EachOp.cons ?_ (EachOp.cons ?_ (EachOp.cons ?_ (EachOp.cons ?_ (EachOp.cons ?_ (EachOp.cons ?_ (EachOp.cons ?_ (EachOp.cons ?_ (EachOp.cons ?_ (EachOp.cons ?_ (EachOp.nil)))))))))))))))))
          · intro L ff kk ww hkk hJ hcl hLi hwt QQ' hQ
            try dsimp only
            have nm : L 15 = false := by
              cases hx : L 15 with
              | false => rfl
              | true =>
                have h15x := hx
                have h0x : L 0 = true := hcl 15 _ rfl h15x 0 (by decide)
                have h2 : L 0 = false := hLi
                rw [h0x] at h2; cases h2
            have nm1 : L 16 = false := by
              cases hx : L 16 with
              | false => rfl
              | true =>
                have h16x := hx
                have h15x : L 15 = true := hcl 16 _ rfl h16x 15 (by decide)
                have h0x : L 0 = true := hcl 15 _ rfl h15x 0 (by decide)
                have h2 : L 0 = false := hLi
                rw [h0x] at h2; cases h2
            have hI := hJ.inv nm
            have cz : ff 16 = _ := hJ.zero nm1
            go_big_wp2_with fail
            refine hQ _ _ _ ?_ (hJ.pre_op (i := 0) (by decide) nm nm1 (hI) (fun j v h => h.kept (Below.refl _ _)) (rfl))
            first | rfl | (simp [upd, cz]; done)
          · intro L ff kk ww hkk hJ hcl hLi hwt QQ' hQ
            try dsimp only
            have nm : L 15 = false := by
              cases hx : L 15 with
              | false => rfl
              | true =>
                have h15x := hx
                have h14x : L 14 = true := hcl 15 _ rfl h15x 14 (by decide)
                have h13x : L 13 = true := hcl 14 _ rfl h14x 13 (by decide)
                have h3x : L 3 = true := hcl 13 _ rfl h13x 3 (by decide)
                have h2x : L 2 = true := hcl 3 _ rfl h3x 2 (by decide)
                have h1x : L 1 = true := hcl 2 _ rfl h2x 1 (by decide)
                have h2 : L 1 = false := hLi
                rw [h1x] at h2; cases h2
            have nm1 : L 16 = false := by
              cases hx : L 16 with
              | false => rfl
              | true =>
                have h16x := hx
                have h15x : L 15 = true := hcl 16 _ rfl h16x 15 (by decide)
                have h14x : L 14 = true := hcl 15 _ rfl h15x 14 (by decide)
                have h13x : L 13 = true := hcl 14 _ rfl h14x 13 (by decide)
                have h3x : L 3 = true := hcl 13 _ rfl h13x 3 (by decide)
                have h2x : L 2 = true := hcl 3 _ rfl h3x 2 (by decide)
                have h1x : L 1 = true := hcl 2 _ rfl h2x 1 (by decide)
                have h2 : L 1 = false := hLi
                rw [h1x] at h2; cases h2
            have hI := hJ.inv nm
            go_big_wp2_with fail
            refine hQ _ _ _ ?_ (hJ.pre_op (i := 1) (by decide) nm nm1 (hI) (fun j v h => h.kept (Below.refl _ _)) (rfl))
            first | rfl | (simp [upd]; done)
          · intro L ff kk ww hkk hJ hcl hLi hwt QQ' hQ
            try dsimp only
            have nm : L 15 = false := by
              cases hx : L 15 with
              | false => rfl
              | true =>
                have h15x := hx
                have h14x : L 14 = true := hcl 15 _ rfl h15x 14 (by decide)
                have h13x : L 13 = true := hcl 14 _ rfl h14x 13 (by decide)
                have h3x : L 3 = true := hcl 13 _ rfl h13x 3 (by decide)
                have h2x : L 2 = true := hcl 3 _ rfl h3x 2 (by decide)
                have h2 : L 2 = false := hLi
                rw [h2x] at h2; cases h2
            have nm1 : L 16 = false := by
              cases hx : L 16 with
              | false => rfl
              | true =>
                have h16x := hx
                have h15x : L 15 = true := hcl 16 _ rfl h16x 15 (by decide)
                have h14x : L 14 = true := hcl 15 _ rfl h15x 14 (by decide)
                have h13x : L 13 = true := hcl 14 _ rfl h14x 13 (by decide)
                have h3x : L 3 = true := hcl 13 _ rfl h13x 3 (by decide)
                have h2x : L 2 = true := hcl 3 _ rfl h3x 2 (by decide)
                have h2 : L 2 = false := hLi
                rw [h2x] at h2; cases h2
            have hI := hJ.inv nm
            have c1' : ff 1 = _ := hJ.pre 1 (by decide) (hwt 1 (by decide)) nm
            go_big_wp2_with fail
            refine hQ _ _ _ ?_ (hJ.pre_op (i := 2) (by decide) nm nm1 (hI) (fun j v h => h.kept (Below.refl _ _)) (rfl))
            first | rfl | (simp [upd, c1']; done)
          · intro L ff kk ww hkk hJ hcl hLi hwt QQ' hQ
            try dsimp only
            have nm : L 15 = false := by
              cases hx : L 15 with
              | false => rfl
              | true =>
                have h15x := hx
                have h14x : L 14 = true := hcl 15 _ rfl h15x 14 (by decide)
                have h13x : L 13 = true := hcl 14 _ rfl h14x 13 (by decide)
                have h3x : L 3 = true := hcl 13 _ rfl h13x 3 (by decide)
                have h2 : L 3 = false := hLi
                rw [h3x] at h2; cases h2
            have nm1 : L 16 = false := by
              cases hx : L 16 with
              | false => rfl
              | true =>
                have h16x := hx
                have h15x : L 15 = true := hcl 16 _ rfl h16x 15 (by decide)
                have h14x : L 14 = true := hcl 15 _ rfl h15x 14 (by decide)
                have h13x : L 13 = true := hcl 14 _ rfl h14x 13 (by decide)
                have h3x : L 3 = true := hcl 13 _ rfl h13x 3 (by decide)
                have h2 : L 3 = false := hLi
                rw [h3x] at h2; cases h2
            have hI := hJ.inv nm
            have hpc := HPR.out.kept (grown_of hI) (Or.inr (by simp [Value.ownBlock]))
            have y0 := hpc.cellAt 0 (by omega)
            have y1 := hpc.cellAt 1 (by omega)
            have y3 := hpc.cellAt 3 (by omega)
            simp only [List.getElem?_cons_zero, List.getElem?_cons_succ] at y0 y1 y3
            clear hpc
            have c2' : ff 2 = _ := hJ.pre 2 (by decide) (hwt 2 (by decide)) nm
            go_big_wp2_with fail
            refine hQ _ _ _ ?_ (hJ.pre_op (i := 3) (by decide) nm nm1 (hI) (fun j v h => h.kept (Below.refl _ _)) (rfl))
            first | rfl | (simp [upd, c2']; done)
          · intro L ff kk ww hkk hJ hcl hLi hwt QQ' hQ
            try dsimp only
            have nm : L 15 = false := by
              cases hx : L 15 with
              | false => rfl
              | true =>
                have h15x := hx
                have h14x : L 14 = true := hcl 15 _ rfl h15x 14 (by decide)
                have h13x : L 13 = true := hcl 14 _ rfl h14x 13 (by decide)
                have h7x : L 7 = true := hcl 13 _ rfl h13x 7 (by decide)
                have h6x : L 6 = true := hcl 7 _ rfl h7x 6 (by decide)
                have h5x : L 5 = true := hcl 6 _ rfl h6x 5 (by decide)
                have h4x : L 4 = true := hcl 5 _ rfl h5x 4 (by decide)
                have h2 : L 4 = false := hLi
                rw [h4x] at h2; cases h2
            have nm1 : L 16 = false := by
              cases hx : L 16 with
              | false => rfl
              | true =>
                have h16x := hx
                have h15x : L 15 = true := hcl 16 _ rfl h16x 15 (by decide)
                have h14x : L 14 = true := hcl 15 _ rfl h15x 14 (by decide)
                have h13x : L 13 = true := hcl 14 _ rfl h14x 13 (by decide)
                have h7x : L 7 = true := hcl 13 _ rfl h13x 7 (by decide)
                have h6x : L 6 = true := hcl 7 _ rfl h7x 6 (by decide)
                have h5x : L 5 = true := hcl 6 _ rfl h6x 5 (by decide)
                have h4x : L 4 = true := hcl 5 _ rfl h5x 4 (by decide)
                have h2 : L 4 = false := hLi
                rw [h4x] at h2; cases h2
            have hI := hJ.inv nm
            go_big_wp2_with fail
            refine hQ _ _ _ ?_ (hJ.pre_op (i := 4) (by decide) nm nm1 (hI) (fun j v h => h.kept (Below.refl _ _)) (rfl))
            first | rfl | (simp [upd]; done)
          · intro L ff kk ww hkk hJ hcl hLi hwt QQ' hQ
            try dsimp only
            have nm : L 15 = false := by
              cases hx : L 15 with
              | false => rfl
              | true =>
                have h15x := hx
                have h14x : L 14 = true := hcl 15 _ rfl h15x 14 (by decide)
                have h13x : L 13 = true := hcl 14 _ rfl h14x 13 (by decide)
                have h7x : L 7 = true := hcl 13 _ rfl h13x 7 (by decide)
                have h6x : L 6 = true := hcl 7 _ rfl h7x 6 (by decide)
                have h5x : L 5 = true := hcl 6 _ rfl h6x 5 (by decide)
                have h2 : L 5 = false := hLi
                rw [h5x] at h2; cases h2
            have nm1 : L 16 = false := by
              cases hx : L 16 with
              | false => rfl
              | true =>
                have h16x := hx
                have h15x : L 15 = true := hcl 16 _ rfl h16x 15 (by decide)
                have h14x : L 14 = true := hcl 15 _ rfl h15x 14 (by decide)
                have h13x : L 13 = true := hcl 14 _ rfl h14x 13 (by decide)
                have h7x : L 7 = true := hcl 13 _ rfl h13x 7 (by decide)
                have h6x : L 6 = true := hcl 7 _ rfl h7x 6 (by decide)
                have h5x : L 5 = true := hcl 6 _ rfl h6x 5 (by decide)
                have h2 : L 5 = false := hLi
                rw [h5x] at h2; cases h2
            have hI := hJ.inv nm
            have c4' : ff 4 = _ := hJ.pre 4 (by decide) (hwt 4 (by decide)) nm
            go_big_wp2_with fail
            refine hQ _ _ _ ?_ (hJ.pre_op (i := 5) (by decide) nm nm1 (hI) (fun j v h => h.kept (Below.refl _ _)) (rfl))
            first | rfl | (simp [upd, c4']; done)
          · intro L ff kk ww hkk hJ hcl hLi hwt QQ' hQ
            try dsimp only
            have nm : L 15 = false := by
              cases hx : L 15 with
              | false => rfl
              | true =>
                have h15x := hx
                have h14x : L 14 = true := hcl 15 _ rfl h15x 14 (by decide)
                have h13x : L 13 = true := hcl 14 _ rfl h14x 13 (by decide)
                have h7x : L 7 = true := hcl 13 _ rfl h13x 7 (by decide)
                have h6x : L 6 = true := hcl 7 _ rfl h7x 6 (by decide)
                have h2 : L 6 = false := hLi
                rw [h6x] at h2; cases h2
            have nm1 : L 16 = false := by
              cases hx : L 16 with
              | false => rfl
              | true =>
                have h16x := hx
                have h15x : L 15 = true := hcl 16 _ rfl h16x 15 (by decide)
                have h14x : L 14 = true := hcl 15 _ rfl h15x 14 (by decide)
                have h13x : L 13 = true := hcl 14 _ rfl h14x 13 (by decide)
                have h7x : L 7 = true := hcl 13 _ rfl h13x 7 (by decide)
                have h6x : L 6 = true := hcl 7 _ rfl h7x 6 (by decide)
                have h2 : L 6 = false := hLi
                rw [h6x] at h2; cases h2
            have hI := hJ.inv nm
            have hpc := HPR.out.kept (grown_of hI) (Or.inr (by simp [Value.ownBlock]))
            have y0 := hpc.cellAt 0 (by omega)
            have y1 := hpc.cellAt 1 (by omega)
            have y3 := hpc.cellAt 3 (by omega)
            simp only [List.getElem?_cons_zero, List.getElem?_cons_succ] at y0 y1 y3
            clear hpc
            have c5' : ff 5 = _ := hJ.pre 5 (by decide) (hwt 5 (by decide)) nm
            go_big_wp2_with fail
            refine hQ _ _ _ ?_ (hJ.pre_op (i := 6) (by decide) nm nm1 (hI) (fun j v h => h.kept (Below.refl _ _)) (rfl))
            first | rfl | (simp [upd, c5']; done)
          · intro L ff kk ww hkk hJ hcl hLi hwt QQ' hQ
            try dsimp only
            have nm : L 15 = false := by
              cases hx : L 15 with
              | false => rfl
              | true =>
                have h15x := hx
                have h14x : L 14 = true := hcl 15 _ rfl h15x 14 (by decide)
                have h13x : L 13 = true := hcl 14 _ rfl h14x 13 (by decide)
                have h7x : L 7 = true := hcl 13 _ rfl h13x 7 (by decide)
                have h2 : L 7 = false := hLi
                rw [h7x] at h2; cases h2
            have nm1 : L 16 = false := by
              cases hx : L 16 with
              | false => rfl
              | true =>
                have h16x := hx
                have h15x : L 15 = true := hcl 16 _ rfl h16x 15 (by decide)
                have h14x : L 14 = true := hcl 15 _ rfl h15x 14 (by decide)
                have h13x : L 13 = true := hcl 14 _ rfl h14x 13 (by decide)
                have h7x : L 7 = true := hcl 13 _ rfl h13x 7 (by decide)
                have h2 : L 7 = false := hLi
                rw [h7x] at h2; cases h2
            have hI := hJ.inv nm
            have c6' : ff 6 = _ := hJ.pre 6 (by decide) (hwt 6 (by decide)) nm
            go_big_wp2_with fail
            refine (numAt x1 ww (HX1.out)).mono ?_
            rintro e wa ⟨n', rfl, hn', -, -, rfl⟩
            have hn2 := hn'.out
            clear hn'
            subst hn2
            go_big_wp2_with fail
            refine hQ _ _ ww ?_ (hJ.pre_op (i := 7) (by decide) nm nm1 (hI) (fun j v h => h.kept (Below.refl _ _)) (rfl))
            first | rfl | (simp [upd, c6']; done)
          · intro L ff kk ww hkk hJ hcl hLi hwt QQ' hQ
            try dsimp only
            have nm : L 15 = false := by
              cases hx : L 15 with
              | false => rfl
              | true =>
                have h15x := hx
                have h14x : L 14 = true := hcl 15 _ rfl h15x 14 (by decide)
                have h13x : L 13 = true := hcl 14 _ rfl h14x 13 (by decide)
                have h8x : L 8 = true := hcl 13 _ rfl h13x 8 (by decide)
                have h2 : L 8 = false := hLi
                rw [h8x] at h2; cases h2
            have nm1 : L 16 = false := by
              cases hx : L 16 with
              | false => rfl
              | true =>
                have h16x := hx
                have h15x : L 15 = true := hcl 16 _ rfl h16x 15 (by decide)
                have h14x : L 14 = true := hcl 15 _ rfl h15x 14 (by decide)
                have h13x : L 13 = true := hcl 14 _ rfl h14x 13 (by decide)
                have h8x : L 8 = true := hcl 13 _ rfl h13x 8 (by decide)
                have h2 : L 8 = false := hLi
                rw [h8x] at h2; cases h2
            have hI := hJ.inv nm
            go_big_wp2_with fail
            refine hQ _ _ _ ?_ (hJ.pre_op (i := 8) (by decide) nm nm1 (hI) (fun j v h => h.kept (Below.refl _ _)) (rfl))
            first | rfl | (simp [upd]; done)
          · intro L ff kk ww hkk hJ hcl hLi hwt QQ' hQ
            try dsimp only
            have nm : L 15 = false := by
              cases hx : L 15 with
              | false => rfl
              | true =>
                have h15x := hx
                have h14x : L 14 = true := hcl 15 _ rfl h15x 14 (by decide)
                have h13x : L 13 = true := hcl 14 _ rfl h14x 13 (by decide)
                have h12x : L 12 = true := hcl 13 _ rfl h13x 12 (by decide)
                have h11x : L 11 = true := hcl 12 _ rfl h12x 11 (by decide)
                have h10x : L 10 = true := hcl 11 _ rfl h11x 10 (by decide)
                have h9x : L 9 = true := hcl 10 _ rfl h10x 9 (by decide)
                have h2 : L 9 = false := hLi
                rw [h9x] at h2; cases h2
            have nm1 : L 16 = false := by
              cases hx : L 16 with
              | false => rfl
              | true =>
                have h16x := hx
                have h15x : L 15 = true := hcl 16 _ rfl h16x 15 (by decide)
                have h14x : L 14 = true := hcl 15 _ rfl h15x 14 (by decide)
                have h13x : L 13 = true := hcl 14 _ rfl h14x 13 (by decide)
                have h12x : L 12 = true := hcl 13 _ rfl h13x 12 (by decide)
                have h11x : L 11 = true := hcl 12 _ rfl h12x 11 (by decide)
                have h10x : L 10 = true := hcl 11 _ rfl h11x 10 (by decide)
                have h9x : L 9 = true := hcl 10 _ rfl h10x 9 (by decide)
                have h2 : L 9 = false := hLi
                rw [h9x] at h2; cases h2
            have hI := hJ.inv nm
            go_big_wp2_with fail
            refine hQ _ _ _ ?_ (hJ.pre_op (i := 9) (by decide) nm nm1 (hI) (fun j v h => h.kept (Below.refl _ _)) (rfl))
            first | rfl | (simp [upd]; done)
          · intro L ff kk ww hkk hJ hcl hLi hwt QQ' hQ
            try dsimp only
            have nm : L 15 = false := by
              cases hx : L 15 with
              | false => rfl
              | true =>
                have h15x := hx
                have h14x : L 14 = true := hcl 15 _ rfl h15x 14 (by decide)
                have h13x : L 13 = true := hcl 14 _ rfl h14x 13 (by decide)
                have h12x : L 12 = true := hcl 13 _ rfl h13x 12 (by decide)
                have h11x : L 11 = true := hcl 12 _ rfl h12x 11 (by decide)
                have h10x : L 10 = true := hcl 11 _ rfl h11x 10 (by decide)
                have h2 : L 10 = false := hLi
                rw [h10x] at h2; cases h2
            have nm1 : L 16 = false := by
              cases hx : L 16 with
              | false => rfl
              | true =>
                have h16x := hx
                have h15x : L 15 = true := hcl 16 _ rfl h16x 15 (by decide)
                have h14x : L 14 = true := hcl 15 _ rfl h15x 14 (by decide)
                have h13x : L 13 = true := hcl 14 _ rfl h14x 13 (by decide)
                have h12x : L 12 = true := hcl 13 _ rfl h13x 12 (by decide)
                have h11x : L 11 = true := hcl 12 _ rfl h12x 11 (by decide)
                have h10x : L 10 = true := hcl 11 _ rfl h11x 10 (by decide)
                have h2 : L 10 = false := hLi
                rw [h10x] at h2; cases h2
            have hI := hJ.inv nm
            have c9' : ff 9 = _ := hJ.pre 9 (by decide) (hwt 9 (by decide)) nm
            go_big_wp2_with fail
            refine hQ _ _ _ ?_ (hJ.pre_op (i := 10) (by decide) nm nm1 (hI) (fun j v h => h.kept (Below.refl _ _)) (rfl))
            first | rfl | (simp [upd, c9']; done)
          · intro L ff kk ww hkk hJ hcl hLi hwt QQ' hQ
            try dsimp only
            have nm : L 15 = false := by
              cases hx : L 15 with
              | false => rfl
              | true =>
                have h15x := hx
                have h14x : L 14 = true := hcl 15 _ rfl h15x 14 (by decide)
                have h13x : L 13 = true := hcl 14 _ rfl h14x 13 (by decide)
                have h12x : L 12 = true := hcl 13 _ rfl h13x 12 (by decide)
                have h11x : L 11 = true := hcl 12 _ rfl h12x 11 (by decide)
                have h2 : L 11 = false := hLi
                rw [h11x] at h2; cases h2
            have nm1 : L 16 = false := by
              cases hx : L 16 with
              | false => rfl
              | true =>
                have h16x := hx
                have h15x : L 15 = true := hcl 16 _ rfl h16x 15 (by decide)
                have h14x : L 14 = true := hcl 15 _ rfl h15x 14 (by decide)
                have h13x : L 13 = true := hcl 14 _ rfl h14x 13 (by decide)
                have h12x : L 12 = true := hcl 13 _ rfl h13x 12 (by decide)
                have h11x : L 11 = true := hcl 12 _ rfl h12x 11 (by decide)
                have h2 : L 11 = false := hLi
                rw [h11x] at h2; cases h2
            have hI := hJ.inv nm
            have hpc := HPR.out.kept (grown_of hI) (Or.inr (by simp [Value.ownBlock]))
            have y0 := hpc.cellAt 0 (by omega)
            have y1 := hpc.cellAt 1 (by omega)
            have y3 := hpc.cellAt 3 (by omega)
            simp only [List.getElem?_cons_zero, List.getElem?_cons_succ] at y0 y1 y3
            clear hpc
            have c10' : ff 10 = _ := hJ.pre 10 (by decide) (hwt 10 (by decide)) nm
            go_big_wp2_with fail
            refine hQ _ _ _ ?_ (hJ.pre_op (i := 11) (by decide) nm nm1 (hI) (fun j v h => h.kept (Below.refl _ _)) (rfl))
            first | rfl | (simp [upd, c10']; done)
          · intro L ff kk ww hkk hJ hcl hLi hwt QQ' hQ
            try dsimp only
            have nm : L 15 = false := by
              cases hx : L 15 with
              | false => rfl
              | true =>
                have h15x := hx
                have h14x : L 14 = true := hcl 15 _ rfl h15x 14 (by decide)
                have h13x : L 13 = true := hcl 14 _ rfl h14x 13 (by decide)
                have h12x : L 12 = true := hcl 13 _ rfl h13x 12 (by decide)
                have h2 : L 12 = false := hLi
                rw [h12x] at h2; cases h2
            have nm1 : L 16 = false := by
              cases hx : L 16 with
              | false => rfl
              | true =>
                have h16x := hx
                have h15x : L 15 = true := hcl 16 _ rfl h16x 15 (by decide)
                have h14x : L 14 = true := hcl 15 _ rfl h15x 14 (by decide)
                have h13x : L 13 = true := hcl 14 _ rfl h14x 13 (by decide)
                have h12x : L 12 = true := hcl 13 _ rfl h13x 12 (by decide)
                have h2 : L 12 = false := hLi
                rw [h12x] at h2; cases h2
            have hI := hJ.inv nm
            have c11' : ff 11 = _ := hJ.pre 11 (by decide) (hwt 11 (by decide)) nm
            go_big_wp2_with fail
            refine (numAt x3 ww (HX3.out)).mono ?_
            rintro e wa ⟨n', rfl, hn', -, -, rfl⟩
            have hn2 := hn'.out
            clear hn'
            subst hn2
            go_big_wp2_with fail
            refine hQ _ _ ww ?_ (hJ.pre_op (i := 12) (by decide) nm nm1 (hI) (fun j v h => h.kept (Below.refl _ _)) (rfl))
            first | rfl | (simp [upd, c11']; done)
          · intro L ff kk ww hkk hJ hcl hLi hwt QQ' hQ
            try dsimp only
            have nm : L 15 = false := by
              cases hx : L 15 with
              | false => rfl
              | true =>
                have h15x := hx
                have h14x : L 14 = true := hcl 15 _ rfl h15x 14 (by decide)
                have h13x : L 13 = true := hcl 14 _ rfl h14x 13 (by decide)
                have h2 : L 13 = false := hLi
                rw [h13x] at h2; cases h2
            have nm1 : L 16 = false := by
              cases hx : L 16 with
              | false => rfl
              | true =>
                have h16x := hx
                have h15x : L 15 = true := hcl 16 _ rfl h16x 15 (by decide)
                have h14x : L 14 = true := hcl 15 _ rfl h15x 14 (by decide)
                have h13x : L 13 = true := hcl 14 _ rfl h14x 13 (by decide)
                have h2 : L 13 = false := hLi
                rw [h13x] at h2; cases h2
            have hI := hJ.inv nm
            have c3' : ff 3 = _ := hJ.pre 3 (by decide) (hwt 3 (by decide)) nm
            have c7' : ff 7 = _ := hJ.pre 7 (by decide) (hwt 7 (by decide)) nm
            have c8' : ff 8 = _ := hJ.pre 8 (by decide) (hwt 8 (by decide)) nm
            have c12' : ff 12 = _ := hJ.pre 12 (by decide) (hwt 12 (by decide)) nm
            go_big_wp2_with fail
            refine hQ _ _ _ ?_ (hJ.pre_op (i := 13) (by decide) nm nm1 (hI) (fun j v h => h.kept (Below.refl _ _)) (rfl))
            first | rfl | (simp [upd, c3', c7', c8', c12']; done)
          · intro L ff kk ww hkk hJ hcl hLi hwt QQ' hQ
            try dsimp only
            have nm : L 15 = false := by
              cases hx : L 15 with
              | false => rfl
              | true =>
                have h15x := hx
                have h14x : L 14 = true := hcl 15 _ rfl h15x 14 (by decide)
                have h2 : L 14 = false := hLi
                rw [h14x] at h2; cases h2
            have nm1 : L 16 = false := by
              cases hx : L 16 with
              | false => rfl
              | true =>
                have h16x := hx
                have h15x : L 15 = true := hcl 16 _ rfl h16x 15 (by decide)
                have h14x : L 14 = true := hcl 15 _ rfl h15x 14 (by decide)
                have h2 : L 14 = false := hLi
                rw [h14x] at h2; cases h2
            have hI := hJ.inv nm
            have c13' : ff 13 = _ := hJ.pre 13 (by decide) (hwt 13 (by decide)) nm
            go_big_wp2_with fail
            refine hQ _ _ (ww.alloc (.cells #[.string x0, .int .i64 (numV x1.data.toList), .int .i64 (intV x2.data.toList), .int .i64 (numV x3.data.toList)] 55)) ?_ (hJ.pre_op (i := 14) (by decide) nm nm1 (hI.alloc hI.size _) (fun j v h => h.kept ((Below.refl _ _).alloc (Nat.le_refl _) _)) (⟨ww.heap.size, rfl, heap_alloc_new ww _, hI.size⟩))
            first | rfl | (simp [upd, c13']; done)
          · intro L ff kk ww hkk hJ hcl hLi hwt QQ' hQ
            try dsimp only
            have nm : L 15 = false := hLi
            have nm1 : L 16 = false := by
              cases hx : L 16 with
              | false => rfl
              | true =>
                have h16x := hx
                have h15x : L 15 = true := hcl 16 _ rfl h16x 15 (by decide)
                have h2 : L 15 = false := hLi
                rw [h15x] at h2; cases h2
            have hI := hJ.inv nm
            have c0 : ff 0 = _ := hJ.pre 0 (by decide) (hwt 0 (by decide)) nm
            obtain ⟨gx, cl, hz5, hgl⟩ := hJ.pre 14 (by decide) (hwt 14 (by decide)) nm
            have cl' : ff 14 = _ := cl
            have hO : ww.ownsRow w.heap.size 55 4 (.slice ao acc.length co) acc.length (cellsO acc) := HOW.out.kept (row := none) (grown_of hI) (Classical.em _)
            have hW3 : ww.ownsRow w.heap.size 9 1 (.slice (some ⟨gw, 0, none⟩) ws.length cw) ws.length (ws.map Value.string) := HWR.out.kept (row := none) (grown_of hI) (Classical.em _)
            have hgwl := (hW3.lt gw rfl).2
            have hwz : w.heap.size ≤ ww.heap.size := Nat.le_trans hzw hI.size
            refine wpList_append_lies ww rfl _ _ 24 rfl w.heap.size 55 it0 (.agg #[.string ⟨#[]⟩, .int .i64 0, .int .i64 0, .int .i64 0]) 4 40 Tryd.underlying24 hi hz0 hz1 hz2 rfl (by decide) (.slice ao acc.length co) acc.length (cellsO acc) c0 hO ⟨gx, 0, none⟩ 1 1 [.string x0, .int .i64 (numV x1.data.toList), .int .i64 (intV x2.data.toList), .int .i64 (numV x3.data.toList)] cl' rfl (World.news_of_block hz5) (by intro u hu; simp at hu; rcases hu with rfl | rfl | rfl | rfl <;> rfl) (by decide) (by unfold maxLen; omega) (by omega) hwz ww.heap.size rfl ?_
            intro g2 cp2 wz ho hg hat hlt
            simp only [Act.put, List.setIfInBounds_toArray, List.set_cons_succ, List.set_cons_zero]
            refine hQ _ _ wz rfl (hJ.app_op nm1 ⟨some ⟨g2, 0, none⟩, cp2, rfl, ?_, ?_, ⟨g2, rfl, ?_⟩, ?_⟩)
            · rw [cellsO_snoc]; exact ho
            · exact (HBW.out.trans (hI.mono hzw)).grown hg hwz (fun y e => (hO.lt y e).1)
            · rcases hat with h | h
              · obtain ⟨o', sp', e⟩ := own_addr h; exact HNE.out.out g2 o' sp' e
              · omega
            · refine hW3.kept hg (Or.inr ?_)
              intro e
              obtain ⟨o', sp', e'⟩ := own_addr e.symm
              exact HNE.out.out gw o' sp' e' rfl

          · intro L ff kk ww hkk hJ hcl hLi hwt QQ' hQ
            try dsimp only
            have hm : L 15 = true := hwt 15 (by decide)
            go_big_wp2_with fail
            refine hQ _ _ _ ?_ (hJ.fin_op hm rfl)
            first | rfl | (simp [upd]; done)
        case hend =>
        intro L ff kk w9 hkb hL hJ
        try dsimp only
        have hfin := hJ.fin (hL 16 (by decide))
        clear hJ hL
        obtain ⟨a9, c9, e9, ho9, hb9, ⟨g9, ea9, hn9⟩, hw9⟩ := hfin
        rw [e9] at ho9 ⊢


        have HO9 := Lib.hid ho9
        have HB9 := Lib.hid hb9
        have HW9 := Lib.hid hw9
        have HE9 : Hid (∀ g o sp, a9 = some ⟨g, o, sp⟩ → g ≠ gw) := by intro g o sp e; rw [ea9] at e; cases e; exact hn9
        have e0 : IntKind.i64.wrap ((acc.length : Int) + 1) = (acc.length : Int) + 1 := IntWalk.i64_in _ (by omega)
        clear ho9 hb9 hw9 ea9 hn9 e9
        go_wp2
        go_roundw
        case rel => exact ⟨acc ++ [(⟨x0, numV x1.data.toList, intV x2.data.toList, numV x3.data.toList⟩ : OpD)], a9, c9, by simp; omega, by simp; omega, by simp, by simp, by simpa using HO9.out, HW9.out, HE9, Lib.hid (pieces_snoc HPS.out.out HX.out HPO.out), Lib.hid (by intro d hd; rcases List.mem_append.1 hd with hd | hd; exact HLG.out.out d hd; simp at hd; subst hd; exact HX0z.out), HB9.out⟩
        case measure => simp [intOf]; omega
      · have z4 : ((ps.length : Int) == 4) = false := by simp; omega
        have z4n : (ps.length == 4) = false := by simp; omega
        have HPO : Hid (pieceOp x.data.toList = none) := pieces_none HPP.out h4
        have HNO := Lib.hid (isM_no HWS.out k2 HX.out HPO.out)
        have HBE := Lib.hid (HBW.out.alloc hzw (.cells #[] 55))
        clear h4
        go_wp2
        go_ret2
        exact ⟨HBE.out, Or.inl ⟨HNO.out, _, _, rfl⟩⟩
    · have hl : acc.length = ws.length ∨ acc.length = 4 := by omega
      have HGU : Hid ((acc.length : Int) < (ws.length : Int) → ¬ (acc.length : Int) ≤ 3) := by intro u v; omega
      have hl2 : acc.length ≤ ws.length := haw
      clear hk
      rcases Nat.lt_or_ge acc.length ws.length with c | c
      · have g1 : decide ((acc.length : Int) < (ws.length : Int)) = true := decide_eq_true (by omega)
        have g1n : decide (acc.length < ws.length) = true := decide_eq_true c
        have g2 : decide ((acc.length : Int) ≤ 3) = false := decide_eq_false (by omega)
        have g2n : decide (acc.length ≤ 3) = false := decide_eq_false (by omega)
        have HBE := Lib.hid (HBW0.out.alloc hzr (.cells #[] 55))
        by_cases h0 : s.toList = []
        · have HNO : Hid (¬ IsOpsM s) := isM_empty (by rw [Lib.toList_data] at h0; simpa using congrArg List.length h0)
          clear HGU
          go_wp2
          go_ret2
          exact ⟨HBE.out, Or.inl ⟨HNO.out, _, _, rfl⟩⟩
        · have HZ0 : Hid (s.size ≠ 0) := by
            intro e
            apply h0
            rw [Lib.toList_data]
            exact List.eq_nil_of_length_eq_zero (by simpa using e)
          have KW := Lib.hid (writeS ao acc.length co (dsL acc) wr (ops_own' HOW0.out) (fun i hi => by
            have := HLG.out.out (dsL acc i) (by rw [dsL, List.getD_eq_getElem?_getD, List.getElem?_eq_getElem hi]; exact List.getElem_mem hi)
            unfold maxLen; omega) (by omega))
          clear HGU
          go_wp2_with fail
          refine KW.out.mono ?_
          rintro e w5 ⟨o, rfl, ho, d5⟩
          obtain rfl := textO_of ho.out
          have HO5 := Lib.hid ((ops_own' HOW0.out).kept d5)
          have hz5 : w.heap.size ≤ w5.heap.size := Nat.le_trans hzr d5.size
          have HB5 := Lib.hid (HBW0.out.trans (d5.mono hzr))
          have HBE5 := Lib.hid (HB5.out.alloc hz5 (.cells #[] 55))
          clear ho d5 KW
          by_cases hq : (textO acc.length (dsL acc)).toList = s.toList
          · have HR := Lib.hid (isM_right HZ0.out hq)
            have z : (!((textO acc.length (dsL acc)).toList == s.toList)) = false := by simp [hq]
            have hE : s.toList.isEmpty = false := by cases h : s.toList with
              | nil => exact absurd h h0
              | cons x y => rfl
            clear hq h0
            go_wp2
            go_ret2
            exact ⟨HB5.out, Or.inr ⟨acc.length, co, ao, _, HR, rfl, HO5.out⟩⟩
          · have HN := Lib.hid (isM_wrong HWS.out HPS.out.out hl hq)
            have z : (!((textO acc.length (dsL acc)).toList == s.toList)) = true := by simp [hq]
            have hE : s.toList.isEmpty = false := by cases h : s.toList with
              | nil => exact absurd h h0
              | cons x y => rfl
            clear hq h0
            go_wp2
            go_ret2
            exact ⟨HBE5.out, Or.inl ⟨HN.out, _, _, rfl⟩⟩

      · have g1 : decide ((acc.length : Int) < (ws.length : Int)) = false := decide_eq_false (by omega)
        have g1n : decide (acc.length < ws.length) = false := decide_eq_false (by omega)
        have HBE := Lib.hid (HBW0.out.alloc hzr (.cells #[] 55))
        by_cases h0 : s.toList = []
        · have HNO : Hid (¬ IsOpsM s) := isM_empty (by rw [Lib.toList_data] at h0; simpa using congrArg List.length h0)
          clear HGU
          go_wp2
          go_ret2
          exact ⟨HBE.out, Or.inl ⟨HNO.out, _, _, rfl⟩⟩
        · have HZ0 : Hid (s.size ≠ 0) := by
            intro e
            apply h0
            rw [Lib.toList_data]
            exact List.eq_nil_of_length_eq_zero (by simpa using e)
          have KW := Lib.hid (writeS ao acc.length co (dsL acc) wr (ops_own' HOW0.out) (fun i hi => by
            have := HLG.out.out (dsL acc i) (by rw [dsL, List.getD_eq_getElem?_getD, List.getElem?_eq_getElem hi]; exact List.getElem_mem hi)
            unfold maxLen; omega) (by omega))
          clear HGU
          go_wp2_with fail
          refine KW.out.mono ?_
          rintro e w5 ⟨o, rfl, ho, d5⟩
          obtain rfl := textO_of ho.out
          have HO5 := Lib.hid ((ops_own' HOW0.out).kept d5)
          have hz5 : w.heap.size ≤ w5.heap.size := Nat.le_trans hzr d5.size
          have HB5 := Lib.hid (HBW0.out.trans (d5.mono hzr))
          have HBE5 := Lib.hid (HB5.out.alloc hz5 (.cells #[] 55))
          clear ho d5 KW
          by_cases hq : (textO acc.length (dsL acc)).toList = s.toList
          · have HR := Lib.hid (isM_right HZ0.out hq)
            have z : (!((textO acc.length (dsL acc)).toList == s.toList)) = false := by simp [hq]
            have hE : s.toList.isEmpty = false := by cases h : s.toList with
              | nil => exact absurd h h0
              | cons x y => rfl
            clear hq h0
            go_wp2
            go_ret2
            exact ⟨HB5.out, Or.inr ⟨acc.length, co, ao, _, HR, rfl, HO5.out⟩⟩
          · have HN := Lib.hid (isM_wrong HWS.out HPS.out.out hl hq)
            have z : (!((textO acc.length (dsL acc)).toList == s.toList)) = true := by simp [hq]
            have hE : s.toList.isEmpty = false := by cases h : s.toList with
              | nil => exact absurd h h0
              | cons x y => rfl
            clear hq h0
            go_wp2
            go_ret2
            exact ⟨HBE5.out, Or.inl ⟨HN.out, _, _, rfl⟩⟩


end Go.Proofs.YtlfmhhdlandcjaaDoor
