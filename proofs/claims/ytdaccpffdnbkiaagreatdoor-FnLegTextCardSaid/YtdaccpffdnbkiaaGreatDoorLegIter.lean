/-
  What is left of each class, one by one, as the program's range over them has them: the iterator's contract.
-/
import Derived.RangeFuncNested
import Derived.RangeFuncBound
import Derived.RangeFuncCalls
import Derived.RangeFuncLeaves
import Derived.RangeFuncBox
import Derived.Maps.AppendAt
import Derived.OwnWalkIn
import Derived.TacticsInMore
import Derived.LoopNIn
import Derived.LoopIn
import Derived.Test.YtdaccpffdnbkiaaGreatDoorJ11
namespace Go.Proofs.YtdaccpffdnbkiaaGreatDoor
open Go.RowKit
set_option linter.unusedVariables false
set_option linter.unusedSimpArgs false
attribute [local go_sem] Oper.semAt_some

def LimOk (d : LegD) : Prop := d.nL = 3 ∧ ∀ i, i < 3 → 0 ≤ d.L i ∧ d.L i ≤ 9
def leftB (d : LegD) (k : Nat) : Int := d.L k - usedB d k
def encL (d : LegD) (x : Fin 3) : Array Value := #[.int .i64 (x.val : Int), .int .i64 (leftB d x.val)]
def three : List (Fin 3) := [0, 1, 2]
theorem three_take (k : Nat) (h : k < 3) : three.take (k + 1) = three.take k ++ [⟨k, h⟩] := by
  rcases (by omega : k = 0 ∨ k = 1 ∨ k = 2) with rfl | rfl | rfl <;> rfl
def LAll (xs : List (Fin 3)) : Prop := xs = three
def LPart (xs : List (Fin 3)) : Prop := ∃ k, k ≤ 3 ∧ xs = three.take k
/-- What a round keeps: all that lay below B, and the block that the iterator reads. -/
def KpL (B Bn : Nat) (W W' : World) : Prop := Below B W W' ∧ ∀ o, W.heap[Bn]? = some o → W'.heap[Bn]? = some o
theorem kpL_t {B Bn : Nat} {A C D : World} (h : KpL B Bn A C) (k : KpL B Bn C D) : KpL B Bn A D := ⟨h.1.trans k.1, fun o ho => k.2 o (h.2 o ho)⟩
theorem kpL_b {B Bn : Nat} {w : World} (hn : B ≤ w.heap.size) (hb : Bn < w.heap.size) (W : World) (l : Nat) (o o' : Obj) (hl : w.heap.size ≤ l) (h : W.heap[l]? = some o) (h1 : o.isCells = false) (h2 : o.isWalk = false) : KpL B Bn W (W.putObj l o') :=
  ⟨belowK_b hn W l o o' hl h h1 h2, fun q hq => (World.putObj_heap_other (fun e => by omega)).trans hq⟩
theorem kpL_of {B Bn : Nat} {W W' : World} (h : Below W.heap.size W W') (hB : B ≤ W.heap.size) : KpL B Bn W W' := ⟨h.mono hB, fun o ho => (h.block _ (lt_heap ho)).trans ho⟩
theorem abide {α : Type} {B : Nat} {J : α → World → Prop} {s : α} {w w' : World} (h : AbidesFrom B J) (hj : J s w) (hb : Below w.heap.size w w') : J s w' :=
  h s w w' none hj ⟨hb.os, hb.tape, hb.output, hb.size, fun k hk _ => hb.block k hk⟩ (fun r e => by cases e)

set_option maxHeartbeats 2000000 in
theorem leftFn (d : LegD) (p : LegP) (w : World) :
    Calls Tryz.prog 69 #[LegV d p] w fun e w' => e = .returned (.func (.func 84) #[] #[.pointer (some ⟨w.heap.size, 0, none⟩)]) ∧ w' = w.alloc (.cells (LegC d p) 25) := by
  unfold LegV LegC
  go_enter Tryz.func69, Tryz.ntmps69
  go_wp2
  go_ret
  exact ⟨rfl, rfl⟩

set_option maxRecDepth 100000 in
set_option maxHeartbeats 4000000 in
theorem left_stops (d : LegD) (p : LegP) (n Bn : Nat) (hn : 1 ≤ n) (w0 w : World) (h : LegIn w0 d p) (hL : LimOk d) (hS : SoldOk d) (hH : HeldOk d) (hc : d.nS ≤ p.cS) (hb0 : Below w0.heap.size w0 w) (hBn : Bn < w.heap.size) (hbx : LegBox w Bn d p) :
    SeqStopsK Fence.wide n Tryz.prog 84 #[.pointer (some ⟨Bn, 0, none⟩)] (encL d) (KpL w0.heap.size Bn) LAll LPart 3 w := fun l J Jx W hW hJ hJx hY h0 => by
  have hbxW : LegBox W Bn d p := (hW.block _ hBn).trans hbx
  have hbW : Below w0.heap.size w0 W := hb0.trans (hW.mono hb0.size)
  have HY := Lib.hid hY
  have HH := Lib.hid h
  have HS := Lib.hid hS
  have HHe := Lib.hid hH
  have HbxW := Lib.hid hbxW
  have HLi := Lib.hid hL.2
  have hnL := hL.1
  obtain ⟨bL, oL, eL, hbL, hcL⟩ := h.1.cells (by omega)
  have HcL := Lib.hid hcL
  clear hY h hS hH hbx hcL
  refine callsIn_of_wp Tryz.func84 rfl trivial ?_ rfl
  simp only [Tryz.ntmps84, List.size_toArray, List.length_cons, List.length_nil, Nat.reduceAdd, Nat.reduceSub, Array.replicate_succ, Array.replicate_zero, List.push_toArray, List.append_toArray, List.nil_append, List.cons_append]
  have c6 := hbxW.c6
  rw [hnL, eL] at c6
  have HeL := Lib.hid eL
  have HnL := Lib.hid hnL
  clear hL hbxW eL hnL
  gi_wp2
  gi_loopw [8] (fun v wr => ∃ k : Nat, k ≤ 3 ∧ v = .int .i64 k ∧ J (three.take k) wr ∧ Below w0.heap.size w0 wr ∧ Hid (LegBox wr Bn d p)) (fun v _ => 3 - (intOf v).toNat)
  case atStart => exact ⟨0, by omega, rfl, h0, hbW, HbxW.out⟩
  case round =>
    obtain ⟨k, hk, rfl, hj, hb, hbox⟩ := hrel
    rcases Nat.lt_or_ge k 3 with hlt | hge
    · have c1 := (hb.cell (p := ⟨bL, oL + k, none⟩) hbL).trans (HcL.out k (by rw [HnL.out]; exact hlt))
      have hx := HLi.out k hlt
      have hu := usedB_box HS.out HHe.out k hlt
      have b0 := hbox.out.c0
      have b1 := hbox.out.c1
      have b2 := hbox.out.c2
      have b3 := hbox.out.c3
      have b4 := hbox.out.c4
      have b5 := hbox.out.c5
      have b6 := hbox.out.c6
      have b7 := hbox.out.c7
      have b8 := hbox.out.c8
      have b9 := hbox.out.c9
      have k1 : (k : Int) < 3 := by omega
      have k0 : (0 : Int) ≤ k := by omega
      have hlb : Hid (leftB d k = d.L k - usedB d k) := rfl
      have HX := Lib.hid hx
      have HU := Lib.hid hu
      have hlen : (three.take k).length < 3 := by rw [List.length_take]; simp [three]; omega
      clear hx hu
      gi_wp2_with fail
      refine ⟨trivial, (callsIn_wide.2 (usedI d p k hlt wr (HH.out.kept hb) HS.out HHe.out hc)).mono ?_⟩
      rintro e w2 ⟨rfl, hb2⟩
      have hj2 := abide hJ hj hb2
      have hbw2 : Below w0.heap.size w0 w2 := hb.trans (hb2.mono hb.size)
      have hbox2 : Hid (LegBox w2 Bn d p) := (hb2.block _ (lt_heap hbox.out)).trans hbox.out
      obtain ⟨fn, tmps, assign, body, hy, hR⟩ := HY.out (three.take k) ⟨k, hlt⟩ w2 hj2 hlen
      have hx := HX.out
      have hu := HU.out
      have hw : IntKind.i64.wrap (d.L k - usedB d k) = leftB d k := by rw [hlb.out]; exact IntWalk.i64_in _ (by omega)
      dsimp only [encL] at hy
      gi_wp2
      refine hR.mono ?_
      rintro e W3 (⟨rfl, hJ3, hk3⟩ | ⟨rfl, hJx3⟩)
      · have hbw3 : Below w0.heap.size w0 W3 := hbw2.trans hk3.1
        gi_wp2
        go_roundw
        case rel => exact ⟨k + 1, by omega, by go_num, by rw [three_take k hlt]; exact hJ3, hbw3, hk3.2 _ hbox2.out⟩
        case measure => simp [intOf]; omega
      · gi_wp2
        refine bodyPost_ret (results_none rfl _ _ _) rfl ?_
        exact ⟨⟨_, rfl⟩, .inr ⟨three.take k ++ [⟨k, hlt⟩], ⟨k + 1, by omega, (three_take k hlt).symm⟩, hJx3⟩⟩
    · obtain rfl : k = 3 := by omega
      gi_wp2
      go_end0
      exact ⟨⟨_, rfl⟩, .inl ⟨three, rfl, hj⟩⟩
end Go.Proofs.YtdaccpffdnbkiaaGreatDoor
