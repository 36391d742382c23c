/-
  Marks as text: the program's answer.
-/
import Derived.Test.YtjhgmmcglonokaaGreatDoorJ15
import Derived.Test.YtjhgmmcglonokaaGreatDoorJ26
import Derived.Deep.AppendLies
import Derived.OwnWalk
namespace Go.Proofs.YtjhgmmcglonokaaGreatDoor
open Go.RowKit
set_option linter.unusedVariables false
set_option linter.unusedSimpArgs false

def SMk (a : Option Addr) (k c bx gw : Nat) (x y : Int) (i : Nat) (W : World) (v : Value) : Prop := match i with
  | 0 => v = .slice a k c
  | 1 => v = .pointer (some ⟨bx, 0, none⟩)
  | 2 => v = .int .i64 x
  | 3 => v = .string (intB x)
  | 4 => v = .string (intB x ++ ⟨#[58]⟩)
  | 5 => v = .pointer (some ⟨bx, 1, none⟩)
  | 6 => v = .int .i64 y
  | 7 => v = .string (intB y)
  | 8 => v = .string (intB x ++ ⟨#[58]⟩ ++ intB y)
  | 9 => ∃ gx : Nat, v = .slice (some ⟨gx, 0, none⟩) 1 1 ∧ W.heap[gx]? = some (.cells #[.string (intB x ++ ⟨#[58]⟩ ++ intB y)] 9 (0, 0)) ∧ gw ≤ gx
  | _ => True
theorem lt_heapM {w : World} {b : Nat} {o : Obj} (h : w.heap[b]? = some o) : b < w.heap.size := (Array.getElem?_eq_some_iff.1 h).1
theorem SMk.kept {a : Option Addr} {k c bx gw : Nat} {x y : Int} {i : Nat} {W W' : World} {v : Value} (h : SMk a k c bx gw x y i W v) (hb : Below W.heap.size W W') : SMk a k c bx gw x y i W' v := by
  match i, h with
  | 0, h | 1, h | 2, h | 3, h | 4, h | 5, h | 6, h | 7, h | 8, h => exact h
  | 9, ⟨gx, h1, h2, h3⟩ => exact ⟨gx, h1, (hb.block gx (lt_heapM h2)).trans h2, h3⟩
  | n + 10, _ => exact True.intro
theorem bttM {a b c : World} (h : Below a.heap.size a b) (k : Below b.heap.size b c) : Below a.heap.size a c := h.trans (k.mono h.size)
def strsL (ms : List (Int × Int)) : List Value := ms.map fun m => .string (markT m)
theorem infoStrM : (Tryz.prog.info? 9).map (fun i => (i.zero, i.size, i.bytes)) = some (some (.string ⟨#[]⟩), 1, 16) := by kernel_rfl
set_option maxRecDepth 100000 in
set_option maxHeartbeats 16000000 in
theorem marksI (sep : UInt8) (ma : Option Addr) (mc : Nat) (ms : List (Int × Int)) (w : World) (h : MarksN All w ma ms.length ms) (hm : MOk (mF ms) (mP ms) ms.length) (hL : Laid w) :
    Calls Tryz.prog 75 #[.slice ma ms.length mc, .string ⟨#[sep]⟩] w fun e w' => e = .returned (.string ⟨(marksT sep ms).toArray⟩) ∧ Below w.heap.size w w' := by
  obtain ⟨it0, hi, hz0, hz1, hz2⟩ := info_parts infoStrM
  have HM := Lib.hid h
  have HMO := Lib.hid hm
  have HL := Lib.hid hL
  have hm5 := (mok_mem hm).1
  have hm1 := hm.1
  clear h hm hL
  go_enter Tryz.func75, Tryz.ntmps75
  go_wp2_with fail
  go_loopw [5, 10] (fun vl vi wr => ∃ (k c : Nat) (a : Option Addr), k ≤ ms.length ∧ vi = .int .i64 k ∧ vl = .slice a k c ∧ wr.ownsRow w.heap.size 9 1 (.slice a k c) k (strsL (ms.take k)) ∧ Below w.heap.size w wr) (fun _ vi _ => ms.length - (intOf vi).toNat)
  case atStart => exact ⟨0, 0, none, Nat.zero_le _, rfl, rfl, World.ownsRow_nil _ _ _ _, Below.refl _ _⟩
  case round =>
    obtain ⟨k, c, a, hk, rfl, rfl, hown, hb⟩ := hrel
    rcases Nat.lt_or_ge k ms.length with hlt | hge
    · have k1 : (k : Int) < ms.length := by omega
      have k0 : (0 : Int) ≤ k := by omega
      obtain ⟨hm5', hmm⟩ := mok_mem HMO.out
      obtain ⟨⟨x0, x1⟩, ⟨x2, x3⟩⟩ := hmm ms[k] (List.getElem_mem _)
      obtain ⟨-, hmc⟩ := HM.out.kept (same_of_below (N := All) hb)
      rcases hmc with hmc | ⟨b, off, rfl, -, hbl, hcell⟩
      · omega
      have hg : ms.getD k (0, 0) = ms[k] := by simp [hlt]
      obtain ⟨c1, c2⟩ := hcell k hlt
      rw [hg] at c1 c2
      have HSN : Hid (strsL (ms.take (k + 1)) = strsL (ms.take k) ++ [.string (intB ms[k].1 ++ ⟨#[58]⟩ ++ intB ms[k].2)]) := by show _ = _; unfold strsL; rw [List.take_succ_eq_append_getElem hlt, List.map_append]; rfl
      generalize ms[k].1 = x at *
      generalize ms[k].2 = y at *
      have HNB : Hid ((-9223372036854775807 ≤ x ∧ x ≤ 9223372036854775807) ∧ (-9223372036854775807 ≤ y ∧ y ≤ 9223372036854775807)) := ⟨⟨by omega, by omega⟩, ⟨by omega, by omega⟩⟩
      have HSZ : Hid ((intB x).size ≤ 21 ∧ (intB y).size ≤ 21) := ⟨intB_size (by omega) (by omega), intB_size (by omega) (by omega)⟩
      have HOW0 := Lib.hid hown
      have HB0 := Lib.hid hb
      clear hcell hbl hmm hg hown hb
      have hXB : Below wr.heap.size wr (wr.alloc (.cells #[.int .i64 x, .int .i64 y] 93)) := (Below.refl _ _).alloc (Nat.le_refl _) _
      have HX : Hid ((wr.alloc (.cells #[.int .i64 x, .int .i64 y] 93)).heap[wr.heap.size]? = some (.cells #[.int .i64 x, .int .i64 y] 93 (0, 0))) := heap_alloc_new wr _
      have HBW := Lib.hid (HB0.out.trans (hXB.mono HB0.out.size))
      have HZW : Hid (w.heap.size ≤ (wr.alloc (.cells #[.int .i64 x, .int .i64 y] 93)).heap.size) := HBW.out.size
      have HOW := Lib.hid (HOW0.out.kept (row := none) (below_grownM hXB) (Classical.em _))
      have HLX := Lib.hid (laid_stays HL.out HBW.out)
      clear hXB
      go_upto_region 5 with fail
      refine wp_region_invK (by kernel_rfl) (fun kk L f W => TX 10 (fun _ W => Below (wr.alloc (.cells #[.int .i64 x, .int .i64 y] 93)).heap.size (wr.alloc (.cells #[.int .i64 x, .int .i64 y] 93)) W) (SMk a k c wr.heap.size (wr.alloc (.cells #[.int .i64 x, .int .i64 y] 93)).heap.size x y) (.slice a k c) (fun v W => ∃ (a : Option Addr) (c : Nat), v = .slice a (k + 1) c ∧ W.ownsRow w.heap.size 9 1 v (k + 1) (strsL (ms.take (k + 1))) ∧ Below w.heap.size w W) kk L f W) (by kernel_rfl) (TX.start rfl ((Below.refl _ _).drew)) ?_
      apply Exists.intro
      apply And.intro
      · intro f
        simp only [over, List.set]
        exact rfl
      refine ⟨?hops, ?hend⟩
      case hops =>
        refine EachOp.cons ?_ (EachOp.cons ?_ (EachOp.cons ?_ (EachOp.cons ?_ (EachOp.cons ?_ (EachOp.cons ?_ (EachOp.cons ?_ (EachOp.cons ?_ (EachOp.cons ?_ (EachOp.cons ?_ (EachOp.cons ?_ (EachOp.cons ?_ (EachOp.nil))))))))))))
        · intro L ff kk ww hkk hJ hcl hLi hwt QQ' hQ
          try dsimp only
          have nm : L 10 = false := by
            cases hx : L 10 with
            | false => rfl
            | true =>
              have h10x := hx
              have h0x : L 0 = true := hcl 10 _ rfl h10x 0 (by decide)
              have h2 : L 0 = false := hLi
              rw [h0x] at h2; cases h2
          have nm1 : L 11 = false := by
            cases hx : L 11 with
            | false => rfl
            | true =>
              have h11x := hx
              have h10x : L 10 = true := hcl 11 _ rfl h11x 10 (by decide)
              have h0x : L 0 = true := hcl 10 _ rfl h10x 0 (by decide)
              have h2 : L 0 = false := hLi
              rw [h0x] at h2; cases h2
          have hI := hJ.inv nm
          have cz : ff 11 = _ := hJ.zero nm1
          go_big_wp2_with fail
          refine hQ _ _ _ ?_ (hJ.pre_op (i := 0) (by decide) nm nm1 (hI) (fun j v h => h.kept (Below.refl _ _)) (rfl))
          first | rfl | (simp [upd, cz]; done)
        · intro L ff kk ww hkk hJ hcl hLi hwt QQ' hQ
          try dsimp only
          have nm : L 10 = false := by
            cases hx : L 10 with
            | false => rfl
            | true =>
              have h10x := hx
              have h9x : L 9 = true := hcl 10 _ rfl h10x 9 (by decide)
              have h8x : L 8 = true := hcl 9 _ rfl h9x 8 (by decide)
              have h4x : L 4 = true := hcl 8 _ rfl h8x 4 (by decide)
              have h3x : L 3 = true := hcl 4 _ rfl h4x 3 (by decide)
              have h2x : L 2 = true := hcl 3 _ rfl h3x 2 (by decide)
              have h1x : L 1 = true := hcl 2 _ rfl h2x 1 (by decide)
              have h2 : L 1 = false := hLi
              rw [h1x] at h2; cases h2
          have nm1 : L 11 = false := by
            cases hx : L 11 with
            | false => rfl
            | true =>
              have h11x := hx
              have h10x : L 10 = true := hcl 11 _ rfl h11x 10 (by decide)
              have h9x : L 9 = true := hcl 10 _ rfl h10x 9 (by decide)
              have h8x : L 8 = true := hcl 9 _ rfl h9x 8 (by decide)
              have h4x : L 4 = true := hcl 8 _ rfl h8x 4 (by decide)
              have h3x : L 3 = true := hcl 4 _ rfl h4x 3 (by decide)
              have h2x : L 2 = true := hcl 3 _ rfl h3x 2 (by decide)
              have h1x : L 1 = true := hcl 2 _ rfl h2x 1 (by decide)
              have h2 : L 1 = false := hLi
              rw [h1x] at h2; cases h2
          have hI := hJ.inv nm
          go_big_wp2_with fail
          refine hQ _ _ _ ?_ (hJ.pre_op (i := 1) (by decide) nm nm1 (hI) (fun j v h => h.kept (Below.refl _ _)) (rfl))
          first | rfl | (simp [upd]; done)
        · intro L ff kk ww hkk hJ hcl hLi hwt QQ' hQ
          try dsimp only
          have nm : L 10 = false := by
            cases hx : L 10 with
            | false => rfl
            | true =>
              have h10x := hx
              have h9x : L 9 = true := hcl 10 _ rfl h10x 9 (by decide)
              have h8x : L 8 = true := hcl 9 _ rfl h9x 8 (by decide)
              have h4x : L 4 = true := hcl 8 _ rfl h8x 4 (by decide)
              have h3x : L 3 = true := hcl 4 _ rfl h4x 3 (by decide)
              have h2x : L 2 = true := hcl 3 _ rfl h3x 2 (by decide)
              have h2 : L 2 = false := hLi
              rw [h2x] at h2; cases h2
          have nm1 : L 11 = false := by
            cases hx : L 11 with
            | false => rfl
            | true =>
              have h11x := hx
              have h10x : L 10 = true := hcl 11 _ rfl h11x 10 (by decide)
              have h9x : L 9 = true := hcl 10 _ rfl h10x 9 (by decide)
              have h8x : L 8 = true := hcl 9 _ rfl h9x 8 (by decide)
              have h4x : L 4 = true := hcl 8 _ rfl h8x 4 (by decide)
              have h3x : L 3 = true := hcl 4 _ rfl h4x 3 (by decide)
              have h2x : L 2 = true := hcl 3 _ rfl h3x 2 (by decide)
              have h2 : L 2 = false := hLi
              rw [h2x] at h2; cases h2
          have hI := hJ.inv nm
          have hbx := (hI.block _ (lt_heapM HX.out)).trans HX.out
          have y0 : ww.cell? ⟨wr.heap.size, 0, none⟩ = some (.int .i64 x) := by rw [Lib.cell_of_heap hbx]; rfl
          have y1 : ww.cell? ⟨wr.heap.size, 1, none⟩ = some (.int .i64 y) := by rw [Lib.cell_of_heap hbx]; rfl
          clear hbx
          have c1' : ff 1 = _ := hJ.pre 1 (by decide) (hwt 1 (by decide)) nm
          go_big_wp2_with fail
          refine hQ _ _ _ ?_ (hJ.pre_op (i := 2) (by decide) nm nm1 (hI) (fun j v h => h.kept (Below.refl _ _)) (rfl))
          first | rfl | (simp [upd, c1']; done)
        · intro L ff kk ww hkk hJ hcl hLi hwt QQ' hQ
          try dsimp only
          have nm : L 10 = false := by
            cases hx : L 10 with
            | false => rfl
            | true =>
              have h10x := hx
              have h9x : L 9 = true := hcl 10 _ rfl h10x 9 (by decide)
              have h8x : L 8 = true := hcl 9 _ rfl h9x 8 (by decide)
              have h4x : L 4 = true := hcl 8 _ rfl h8x 4 (by decide)
              have h3x : L 3 = true := hcl 4 _ rfl h4x 3 (by decide)
              have h2 : L 3 = false := hLi
              rw [h3x] at h2; cases h2
          have nm1 : L 11 = false := by
            cases hx : L 11 with
            | false => rfl
            | true =>
              have h11x := hx
              have h10x : L 10 = true := hcl 11 _ rfl h11x 10 (by decide)
              have h9x : L 9 = true := hcl 10 _ rfl h10x 9 (by decide)
              have h8x : L 8 = true := hcl 9 _ rfl h9x 8 (by decide)
              have h4x : L 4 = true := hcl 8 _ rfl h8x 4 (by decide)
              have h3x : L 3 = true := hcl 4 _ rfl h4x 3 (by decide)
              have h2 : L 3 = false := hLi
              rw [h3x] at h2; cases h2
          have hI := hJ.inv nm
          have c2' : ff 2 = _ := hJ.pre 2 (by decide) (hwt 2 (by decide)) nm
          go_big_wp2_with fail
          refine (itoaZ x ww (laid_stays HLX.out hI) HNB.out.1.1 HNB.out.1.2).mono ?_
          rintro e wa ⟨rfl, da⟩
          go_big_wp2_with fail
          refine hQ _ _ wa ?_ (hJ.pre_op (i := 3) (by decide) nm nm1 ((bttM hI da)) (fun j v h => h.kept (da)) (rfl))
          first | rfl | (simp [upd, c2']; done)
        · intro L ff kk ww hkk hJ hcl hLi hwt QQ' hQ
          try dsimp only
          have nm : L 10 = false := by
            cases hx : L 10 with
            | false => rfl
            | true =>
              have h10x := hx
              have h9x : L 9 = true := hcl 10 _ rfl h10x 9 (by decide)
              have h8x : L 8 = true := hcl 9 _ rfl h9x 8 (by decide)
              have h4x : L 4 = true := hcl 8 _ rfl h8x 4 (by decide)
              have h2 : L 4 = false := hLi
              rw [h4x] at h2; cases h2
          have nm1 : L 11 = false := by
            cases hx : L 11 with
            | false => rfl
            | true =>
              have h11x := hx
              have h10x : L 10 = true := hcl 11 _ rfl h11x 10 (by decide)
              have h9x : L 9 = true := hcl 10 _ rfl h10x 9 (by decide)
              have h8x : L 8 = true := hcl 9 _ rfl h9x 8 (by decide)
              have h4x : L 4 = true := hcl 8 _ rfl h8x 4 (by decide)
              have h2 : L 4 = false := hLi
              rw [h4x] at h2; cases h2
          have hI := hJ.inv nm
          have s1 := HSZ.out.1
          have s2 := HSZ.out.2
          have mm : ¬ 9223372036854775807 < (intB x).size + 1 := by omega
          clear s1 s2
          have c3' : ff 3 = _ := hJ.pre 3 (by decide) (hwt 3 (by decide)) nm
          go_big_wp2_with fail
          refine hQ _ _ _ ?_ (hJ.pre_op (i := 4) (by decide) nm nm1 (hI) (fun j v h => h.kept (Below.refl _ _)) (rfl))
          first | rfl | (simp [upd, c3']; done)
        · intro L ff kk ww hkk hJ hcl hLi hwt QQ' hQ
          try dsimp only
          have nm : L 10 = false := by
            cases hx : L 10 with
            | false => rfl
            | true =>
              have h10x := hx
              have h9x : L 9 = true := hcl 10 _ rfl h10x 9 (by decide)
              have h8x : L 8 = true := hcl 9 _ rfl h9x 8 (by decide)
              have h7x : L 7 = true := hcl 8 _ rfl h8x 7 (by decide)
              have h6x : L 6 = true := hcl 7 _ rfl h7x 6 (by decide)
              have h5x : L 5 = true := hcl 6 _ rfl h6x 5 (by decide)
              have h2 : L 5 = false := hLi
              rw [h5x] at h2; cases h2
          have nm1 : L 11 = false := by
            cases hx : L 11 with
            | false => rfl
            | true =>
              have h11x := hx
              have h10x : L 10 = true := hcl 11 _ rfl h11x 10 (by decide)
              have h9x : L 9 = true := hcl 10 _ rfl h10x 9 (by decide)
              have h8x : L 8 = true := hcl 9 _ rfl h9x 8 (by decide)
              have h7x : L 7 = true := hcl 8 _ rfl h8x 7 (by decide)
              have h6x : L 6 = true := hcl 7 _ rfl h7x 6 (by decide)
              have h5x : L 5 = true := hcl 6 _ rfl h6x 5 (by decide)
              have h2 : L 5 = false := hLi
              rw [h5x] at h2; cases h2
          have hI := hJ.inv nm
          go_big_wp2_with fail
          refine hQ _ _ _ ?_ (hJ.pre_op (i := 5) (by decide) nm nm1 (hI) (fun j v h => h.kept (Below.refl _ _)) (rfl))
          first | rfl | (simp [upd]; done)
        · intro L ff kk ww hkk hJ hcl hLi hwt QQ' hQ
          try dsimp only
          have nm : L 10 = false := by
            cases hx : L 10 with
            | false => rfl
            | true =>
              have h10x := hx
              have h9x : L 9 = true := hcl 10 _ rfl h10x 9 (by decide)
              have h8x : L 8 = true := hcl 9 _ rfl h9x 8 (by decide)
              have h7x : L 7 = true := hcl 8 _ rfl h8x 7 (by decide)
              have h6x : L 6 = true := hcl 7 _ rfl h7x 6 (by decide)
              have h2 : L 6 = false := hLi
              rw [h6x] at h2; cases h2
          have nm1 : L 11 = false := by
            cases hx : L 11 with
            | false => rfl
            | true =>
              have h11x := hx
              have h10x : L 10 = true := hcl 11 _ rfl h11x 10 (by decide)
              have h9x : L 9 = true := hcl 10 _ rfl h10x 9 (by decide)
              have h8x : L 8 = true := hcl 9 _ rfl h9x 8 (by decide)
              have h7x : L 7 = true := hcl 8 _ rfl h8x 7 (by decide)
              have h6x : L 6 = true := hcl 7 _ rfl h7x 6 (by decide)
              have h2 : L 6 = false := hLi
              rw [h6x] at h2; cases h2
          have hI := hJ.inv nm
          have hbx := (hI.block _ (lt_heapM HX.out)).trans HX.out
          have y0 : ww.cell? ⟨wr.heap.size, 0, none⟩ = some (.int .i64 x) := by rw [Lib.cell_of_heap hbx]; rfl
          have y1 : ww.cell? ⟨wr.heap.size, 1, none⟩ = some (.int .i64 y) := by rw [Lib.cell_of_heap hbx]; rfl
          clear hbx
          have c5' : ff 5 = _ := hJ.pre 5 (by decide) (hwt 5 (by decide)) nm
          go_big_wp2_with fail
          refine hQ _ _ _ ?_ (hJ.pre_op (i := 6) (by decide) nm nm1 (hI) (fun j v h => h.kept (Below.refl _ _)) (rfl))
          first | rfl | (simp [upd, c5']; done)
        · intro L ff kk ww hkk hJ hcl hLi hwt QQ' hQ
          try dsimp only
          have nm : L 10 = false := by
            cases hx : L 10 with
            | false => rfl
            | true =>
              have h10x := hx
              have h9x : L 9 = true := hcl 10 _ rfl h10x 9 (by decide)
              have h8x : L 8 = true := hcl 9 _ rfl h9x 8 (by decide)
              have h7x : L 7 = true := hcl 8 _ rfl h8x 7 (by decide)
              have h2 : L 7 = false := hLi
              rw [h7x] at h2; cases h2
          have nm1 : L 11 = false := by
            cases hx : L 11 with
            | false => rfl
            | true =>
              have h11x := hx
              have h10x : L 10 = true := hcl 11 _ rfl h11x 10 (by decide)
              have h9x : L 9 = true := hcl 10 _ rfl h10x 9 (by decide)
              have h8x : L 8 = true := hcl 9 _ rfl h9x 8 (by decide)
              have h7x : L 7 = true := hcl 8 _ rfl h8x 7 (by decide)
              have h2 : L 7 = false := hLi
              rw [h7x] at h2; cases h2
          have hI := hJ.inv nm
          have c6' : ff 6 = _ := hJ.pre 6 (by decide) (hwt 6 (by decide)) nm
          go_big_wp2_with fail
          refine (itoaZ y ww (laid_stays HLX.out hI) HNB.out.2.1 HNB.out.2.2).mono ?_
          rintro e wa ⟨rfl, da⟩
          go_big_wp2_with fail
          refine hQ _ _ wa ?_ (hJ.pre_op (i := 7) (by decide) nm nm1 ((bttM hI da)) (fun j v h => h.kept (da)) (rfl))
          first | rfl | (simp [upd, c6']; done)
        · intro L ff kk ww hkk hJ hcl hLi hwt QQ' hQ
          try dsimp only
          have nm : L 10 = false := by
            cases hx : L 10 with
            | false => rfl
            | true =>
              have h10x := hx
              have h9x : L 9 = true := hcl 10 _ rfl h10x 9 (by decide)
              have h8x : L 8 = true := hcl 9 _ rfl h9x 8 (by decide)
              have h2 : L 8 = false := hLi
              rw [h8x] at h2; cases h2
          have nm1 : L 11 = false := by
            cases hx : L 11 with
            | false => rfl
            | true =>
              have h11x := hx
              have h10x : L 10 = true := hcl 11 _ rfl h11x 10 (by decide)
              have h9x : L 9 = true := hcl 10 _ rfl h10x 9 (by decide)
              have h8x : L 8 = true := hcl 9 _ rfl h9x 8 (by decide)
              have h2 : L 8 = false := hLi
              rw [h8x] at h2; cases h2
          have hI := hJ.inv nm
          have s1 := HSZ.out.1
          have s2 := HSZ.out.2
          have mm : ¬ 9223372036854775807 < (intB x).size + 1 + (intB y).size := by omega
          clear s1 s2
          have c4' : ff 4 = _ := hJ.pre 4 (by decide) (hwt 4 (by decide)) nm
          have c7' : ff 7 = _ := hJ.pre 7 (by decide) (hwt 7 (by decide)) nm
          go_big_wp2_with fail
          refine hQ _ _ _ ?_ (hJ.pre_op (i := 8) (by decide) nm nm1 (hI) (fun j v h => h.kept (Below.refl _ _)) (rfl))
          first | rfl | (simp [upd, c4', c7']; done)
        · intro L ff kk ww hkk hJ hcl hLi hwt QQ' hQ
          try dsimp only
          have nm : L 10 = false := by
            cases hx : L 10 with
            | false => rfl
            | true =>
              have h10x := hx
              have h9x : L 9 = true := hcl 10 _ rfl h10x 9 (by decide)
              have h2 : L 9 = false := hLi
              rw [h9x] at h2; cases h2
          have nm1 : L 11 = false := by
            cases hx : L 11 with
            | false => rfl
            | true =>
              have h11x := hx
              have h10x : L 10 = true := hcl 11 _ rfl h11x 10 (by decide)
              have h9x : L 9 = true := hcl 10 _ rfl h10x 9 (by decide)
              have h2 : L 9 = false := hLi
              rw [h9x] at h2; cases h2
          have hI := hJ.inv nm
          have c8' : ff 8 = _ := hJ.pre 8 (by decide) (hwt 8 (by decide)) nm
          go_big_wp2_with fail
          refine hQ _ _ (ww.alloc (.cells #[.string (intB x ++ ⟨#[58]⟩ ++ intB y)] 9)) ?_ (hJ.pre_op (i := 9) (by decide) nm nm1 (hI.alloc hI.size _) (fun j v h => h.kept ((Below.refl _ _).alloc (Nat.le_refl _) _)) (⟨ww.heap.size, rfl, heap_alloc_new ww _, hI.size⟩))
          first | rfl | (simp [upd, c8']; done)
        · intro L ff kk ww hkk hJ hcl hLi hwt QQ' hQ
          try dsimp only
          have nm : L 10 = false := hLi
          have nm1 : L 11 = false := by
            cases hx : L 11 with
            | false => rfl
            | true =>
              have h11x := hx
              have h10x : L 10 = true := hcl 11 _ rfl h11x 10 (by decide)
              have h2 : L 10 = false := hLi
              rw [h10x] at h2; cases h2
          have hI := hJ.inv nm
          have c0 : ff 0 = _ := hJ.pre 0 (by decide) (hwt 0 (by decide)) nm
          obtain ⟨gx, cl, hz5, hgl⟩ := hJ.pre 9 (by decide) (hwt 9 (by decide)) nm
          have cl' : ff 9 = _ := cl
          have hO : ww.ownsRow w.heap.size 9 1 (.slice a k c) k (strsL (ms.take k)) := HOW.out.kept (row := none) (below_grownM hI) (Classical.em _)
          have hwz : w.heap.size ≤ ww.heap.size := Nat.le_trans HZW.out hI.size
          refine wpList_append_lies ww rfl _ _ 45 rfl w.heap.size 9 it0 (.string ⟨#[]⟩) 1 16 Tryz.underlying45 hi hz0 hz1 hz2 rfl (by decide) (.slice a k c) k (strsL (ms.take k)) c0 hO ⟨gx, 0, none⟩ 1 1 [.string (intB x ++ ⟨#[58]⟩ ++ intB y)] cl' rfl (World.news_of_block hz5) (by intro u hu; simp at hu; subst hu; rfl) (by decide) (by unfold maxLen; omega) (by omega) hwz ww.heap.size rfl ?_
          intro g2 cp2 wz ho hg hat hlt
          simp only [Act.put, List.setIfInBounds_toArray, List.set_cons_succ, List.set_cons_zero]
          refine hQ _ _ wz rfl (hJ.app_op nm1 ⟨some ⟨g2, 0, none⟩, cp2, rfl, ?_, ?_⟩)
          · rw [HSN.out]; exact ho
          · exact (HBW.out.trans (hI.mono HZW.out)).grown hg hwz (fun y e => (hO.lt y e).1)

        · intro L ff kk ww hkk hJ hcl hLi hwt QQ' hQ
          try dsimp only
          have hm : L 10 = true := hwt 10 (by decide)
          go_big_wp2_with fail
          refine hQ _ _ _ ?_ (hJ.fin_op hm rfl)
          first | rfl | (simp [upd]; done)
      case hend =>
      intro L ff kk w9 hkb hL hJ
      try dsimp only
      have hfin := hJ.fin (hL 11 (by decide))
      clear hJ hL
      obtain ⟨a9, c9, e9, ho9, hb9⟩ := hfin
      rw [e9] at ho9 ⊢

      go_wp2
      go_roundw
      case rel => exact ⟨k + 1, c9, a9, by omega, by go_num, rfl, ho9, hb9⟩
      case measure => simp [intOf]; omega
    · obtain rfl : k = ms.length := by omega
      rw [List.take_length] at hown
      obtain ⟨g, cap, cur, hv, hbg, hcur, hnc, hcm, hcs, htk⟩ : ∃ g cap cur, (Value.slice a ms.length c) = .slice (some ⟨g, 0, none⟩) ms.length cap ∧ w.heap.size ≤ g ∧ wr.heap[g]? = some (.cells cur 9 (0, 0)) ∧ ms.length ≤ cap ∧ cap ≤ maxLen ∧ cur.size = cap * 1 ∧ cur.toList.take (ms.length * 1) = strsL ms := by
        obtain ⟨-, h | h⟩ := hown
        · exact absurd h.2 (by omega)
        · exact h
      obtain ⟨rfl, -, rfl⟩ : a = some ⟨g, 0, none⟩ ∧ ms.length = ms.length ∧ c = cap := by simpa using hv
      have hcells : ∀ (j : Nat) x, (ms.map markT)[j]? = some x → wr.cell? ⟨g, 0 + j, none⟩ = some (.string x) := by
        intro j x hj
        have hjk : j < ms.length := by have := (List.getElem?_eq_some_iff.1 hj).1; simpa using this
        rw [Nat.zero_add, hown.cellAt j (by omega)]
        unfold strsL
        rw [List.getElem?_map] at hj ⊢
        cases hq : ms[j]? with
        | none => rw [hq] at hj; cases hj
        | some q => rw [hq] at hj; cases hj; rfl
      have hjl := marksT_len sep HMO.out
      have J := Tryz.strings_Join g 0 c (ms.map markT) ⟨#[sep]⟩ wr hcells (lt_heapM hcur) (by rw [List.length_map]; omega) (by rw [List.length_map]; omega) (by show (marksT sep ms).length ≤ _; omega)
      rw [List.length_map] at J
      have HJ := Lib.hid J
      have HB := Lib.hid hb
      clear J hcells hown hb hcur htk hcs
      go_wp2_with fail
      refine HJ.out.mono ?_
      rintro e wj ⟨rfl, hbj⟩
      go_wp2
      go_ret
      exact ⟨retS (by unfold marksT joinS; rw [List.map_map]), bttM HB.out hbj⟩
end Go.Proofs.YtjhgmmcglonokaaGreatDoor
