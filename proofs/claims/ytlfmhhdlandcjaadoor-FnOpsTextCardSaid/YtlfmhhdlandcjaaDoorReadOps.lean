/-
  The program's reader of ops: a part, an op, a list of ops.
-/
import Derived.Test.YtlfmhhdlandcjaaDoorReadRun
import Derived.Test.YtlfmhhdlandcjaaDoorOpsParse
namespace Go.Proofs.YtlfmhhdlandcjaaDoor
open Go.RowKit
set_option linter.unusedVariables false
set_option linter.unusedSimpArgs false

def PartPost (b : Nat) (s : ByteArray) (p : Nat) (w : World) (e : Ending) (w' : World) : Prop :=
  w.grownBy w' (some b) ∧ ((Hid (rdPart (restB s p) = none) ∧ e = Fell) ∨ ∃ (v : Int) (q : Nat), p ≤ q ∧ Hid (rdPart (restB s p) = some (v, restB s q)) ∧ e = .returned (.int .i64 v) ∧ RdS w' b s q)
set_option maxHeartbeats 1000000 in
theorem partC (w0 : World) (b : Nat) (s : ByteArray) (p : Nat) (w : World) (h : RdS w b s p) (hs : s.size ≤ 1048576) (hL : LaidE w0) (hB : Below w0.heap.size w0 w) (hb : w0.heap.size ≤ b) :
    Calls Tryd.prog 64 #[.pointer (some ⟨b, 0, none⟩)] w (PartPost b s p w) := by
  have K := Lib.hid (needC 58 58 rfl b s p w h hs)
  have M : Hid (∀ (q : Nat) (W : World), RdS W b s q → Below w0.heap.size w0 W → Calls Tryd.prog 59 #[.pointer (some ⟨b, 0, none⟩)] W (NumPost b s q W)) := fun q W h1 h2 => numberC w0 b s q W h1 hs hL h2 hb
  have HB := Lib.hid hB
  clear h hL hB
  go_enter Tryd.func64, Tryd.ntmps64
  go_wp2_with fail
  refine K.out.mono ?_
  rintro e w1 ⟨hg, ⟨hn, he⟩ | ⟨hn, rfl, hr⟩⟩
  · unfold Fell at he
    subst he
    have HG := Lib.hid hg
    have HN := Lib.hid hn
    clear hg hn
    go_wp2
    exact ⟨rfl, HG.out, Or.inl ⟨by unfold rdPart; rw [HN.out]; exact Lib.hid rfl, rfl⟩⟩
  · have HG := Lib.hid hg
    have HN := Lib.hid hn
    have M2 := Lib.hid (M.out _ _ hr (own_below HB.out hb hg))
    clear hg hn hr
    go_wp2_with fail
    refine M2.out.mono ?_
    rintro e w2 ⟨hg2, ⟨hn2, he⟩ | ⟨v, q, hq, hv, rfl, hr⟩⟩
    · unfold Fell at he
      subst he
      have HG2 := Lib.hid (grown_trans HG.out hg2)
      have HN2 := Lib.hid hn2
      clear hg2 hn2
      go_wp2
      refine ⟨rfl, HG2.out, Or.inl ⟨Lib.hid ?_, rfl⟩⟩
      unfold rdPart; rw [HN.out, Option.bind_some]; exact HN2.out.out
    · have HG2 := Lib.hid (grown_trans HG.out hg2)
      have HV := Lib.hid hv
      have HR := Lib.hid hr
      clear hg2 hv hr
      go_wp2
      go_ret
      refine ⟨HG2.out, Or.inr ⟨v, q, by omega, Lib.hid ?_, rfl, HR.out⟩⟩
      unfold rdPart; rw [HN.out, Option.bind_some]; exact HV.out.out
def ZO : Array Value := #[.string ⟨#[]⟩, .int .i64 0, .int .i64 0, .int .i64 0]
def OpPost (b : Nat) (s : ByteArray) (p : Nat) (w : World) (e : Ending) (w' : World) : Prop :=
  w.grownBy w' (some b) ∧ ((Hid (rdOp (restB s p) = none) ∧ e = Fell) ∨ ∃ (d : OpD) (q : Nat), p ≤ q ∧ d.leg.size ≤ s.size ∧ Hid (rdOp (restB s p) = some (d, restB s q)) ∧ e = .returned (OpV d) ∧ RdS w' b s q)
theorem grown_block {w w' : World} {b g : Nat} (h : w.grownBy w' (some b)) (hg : g < w.heap.size) (hn : g ≠ b) : w'.heap[g]? = w.heap[g]? := h.block g hg (fun e => hn (Option.some.inj e))
set_option maxHeartbeats 4000000 in
theorem opC (w0 : World) (b : Nat) (s : ByteArray) (p : Nat) (w : World) (h : RdS w b s p) (hs : s.size ≤ 1048576) (hL : LaidE w0) (hB : Below w0.heap.size w0 w) (hb : w0.heap.size ≤ b) :
    Calls Tryd.prog 42 #[.pointer (some ⟨b, 0, none⟩)] w (OpPost b s p w) := by
  have hA : Below w.heap.size w (w.alloc (.cells ZO 55)) := (Below.refl _ _).alloc (Nat.le_refl _) _
  have hlt := h.lt
  have K := Lib.hid (runC letBs b s p (w.alloc (.cells ZO 55)) (h.kept hA) hs (by decide) (by decide))
  have M : Hid (∀ (q : Nat) (W : World), RdS W b s q → Below w0.heap.size w0 W → Calls Tryd.prog 64 #[.pointer (some ⟨b, 0, none⟩)] W (PartPost b s q W)) := fun q W h1 h2 => partC w0 b s q W h1 hs hL h2 hb
  have HB := Lib.hid (hB.trans (hA.mono hB.size))
  have HA : Hid (w.grownBy (w.alloc (.cells ZO 55)) (some b)) := ⟨hA.os, hA.tape, hA.output, hA.size, fun i hi _ => hA.block i hi⟩
  have HX0 : Hid ((w.alloc (.cells ZO 55)).heap[w.heap.size]? = some (.cells ZO 55 (0, 0))) := heap_alloc_new w _
  have hz : w.heap.size < (w.alloc (.cells ZO 55)).heap.size := by simp
  clear h hL hB hA
  unfold letBs at K
  unfold ZO at *
  go_enter Tryd.func42, Tryd.ntmps42
  go_wp2_with fail
  generalize hwA : w.alloc (.cells #[.string ⟨#[]⟩, .int .i64 0, .int .i64 0, .int .i64 0] 55) = wA at *
  generalize hgx : w.heap.size = g at *
  refine K.out.mono ?_
  rintro e w1 ⟨u, q0, hq0, rfl, hul, hu, hr0, hR0, hg0⟩
  have HU : Hid (u.data.toList = runOf letS (restB s p)) := hu
  have HQ : Hid (restB s q0 = offOf letS (restB s p)) := hr0
  have HG0 := Lib.hid (grown_trans HA.out hg0)
  have HX1 := Lib.hid ((grown_block hg0 (by omega) (by omega)).trans HX0.out)
  have hB1 := own_below HB.out hb hg0
  have hz1 : g < w1.heap.size := Nat.lt_of_lt_of_le hz hg0.size
  have M1 := Lib.hid (M.out _ _ hR0 hB1)
  have HB1 := Lib.hid hB1
  clear hu hr0 hR0 hg0 hB1 K HX0 HA hz
  go_wp2_with fail
  refine M1.out.mono ?_
  rintro e w2 ⟨hg1, ⟨hn1, he⟩ | ⟨v1, q1, hq1, hv1, rfl, hr1⟩⟩
  · unfold Fell at he
    subst he
    have HGf := Lib.hid (grown_trans HG0.out hg1)
    have HNf := Lib.hid hn1
    clear hg1 hn1
    go_wp2
    refine ⟨rfl, HGf.out, Or.inl ⟨Lib.hid ?_, rfl⟩⟩
    unfold rdOp; rw [← HQ.out]; rw [HNf.out.out]; rfl
  have HV1 := Lib.hid hv1
  have HG1 := Lib.hid (grown_trans HG0.out hg1)
  have HX2 := Lib.hid ((grown_block hg1 (by omega) (by omega)).trans HX1.out)
  have hB2 := own_below HB1.out hb hg1
  have hz2 : g < w2.heap.size := Nat.lt_of_lt_of_le hz1 hg1.size
  have M2 := Lib.hid (M.out _ _ hr1 hB2)
  have HB2 := Lib.hid hB2
  clear hv1 hr1 hg1 hB2 M1 HX1 HB1 hz1
  go_wp2_with fail
  refine M2.out.mono ?_
  rintro e w3 ⟨hg2, ⟨hn2, he⟩ | ⟨v2, q2, hq2, hv2, rfl, hr2⟩⟩
  · unfold Fell at he
    subst he
    have HGf := Lib.hid (grown_trans HG1.out hg2)
    have HNf := Lib.hid hn2
    clear hg2 hn2
    go_wp2
    refine ⟨rfl, HGf.out, Or.inl ⟨Lib.hid ?_, rfl⟩⟩
    unfold rdOp; rw [← HQ.out]; rw [HV1.out.out, Option.bind_some]; rw [HNf.out.out]; rfl
  have HV2 := Lib.hid hv2
  have HG2 := Lib.hid (grown_trans HG1.out hg2)
  have HX3 := Lib.hid ((grown_block hg2 (by omega) (by omega)).trans HX2.out)
  have hB3 := own_below HB2.out hb hg2
  have hz3 : g < w3.heap.size := Nat.lt_of_lt_of_le hz2 hg2.size
  have M3 := Lib.hid (M.out _ _ hr2 hB3)
  have HB3 := Lib.hid hB3
  clear hv2 hr2 hg2 hB3 M2 HX2 HB2 hz2
  go_wp2_with fail
  refine M3.out.mono ?_
  rintro e w4 ⟨hg3, ⟨hn3, he⟩ | ⟨v3, q3, hq3, hv3, rfl, hr3⟩⟩
  · unfold Fell at he
    subst he
    have HGf := Lib.hid (grown_trans HG2.out hg3)
    have HNf := Lib.hid hn3
    clear hg3 hn3
    go_wp2
    refine ⟨rfl, HGf.out, Or.inl ⟨Lib.hid ?_, rfl⟩⟩
    unfold rdOp; rw [← HQ.out]; rw [HV1.out.out, Option.bind_some]; rw [HV2.out.out, Option.bind_some]; rw [HNf.out.out]; rfl
  have HV3 := Lib.hid hv3
  have HG3 := Lib.hid (grown_trans HG2.out hg3)
  have HX4 := Lib.hid ((grown_block hg3 (by omega) (by omega)).trans HX3.out)
  have hB4 := own_below HB3.out hb hg3
  have hz4 : g < w4.heap.size := Nat.lt_of_lt_of_le hz3 hg3.size
  have HR := Lib.hid hr3
  have HB4 := Lib.hid hB4
  clear hv3 hr3 hg3 hB4 M3 HX3 HB3 hz3
  have HDd : Hid (rdOp (restB s p) = some ((⟨u, v1, v2, v3⟩ : OpD), restB s q3)) := by
    refine Lib.hid ?_
    unfold rdOp
    rw [← HQ.out, HV1.out.out, Option.bind_some, HV2.out.out, Option.bind_some, HV3.out.out, Option.bind_some, ← HU.out]
  clear HV1 HV2 HV3 HQ HU M
  go_wp2_with (first
    | (refine wpList_store_row rfl 55 _ _ rfl g (OpC ⟨u, v1, v2, v3⟩) rfl rfl 55 #[.string ⟨#[]⟩, .int .i64 0, .int .i64 0, .int .i64 0] HX4.out opSize rfl (op_one ⟨u, v1, v2, v3⟩) ?_)
    | fail)
  have hB5 : w4.grownBy (w4.setRow g (OpC ⟨u, v1, v2, v3⟩)) (some g) := grown_setRow _ _ _
  have y5 : OpAt (w4.setRow g (OpC ⟨u, v1, v2, v3⟩)) g 0 ⟨u, v1, v2, v3⟩ := op_cells (setRow_heap _ g _ _ _ _ HX4.out)
  have hgb : g ≠ b := by omega
  have hR5 : RdS (w4.setRow g (OpC ⟨u, v1, v2, v3⟩)) b s q3 := by
    have h := HR.out
    have e := hB5.block b h.lt (fun e => hgb (Option.some.inj e).symm)
    exact ⟨(World.cell?_of_block (a := ⟨b, 0, none⟩) e).trans h.text, (World.cell?_of_block (a := ⟨b, 1, none⟩) e).trans h.pos, (World.frozen?_of_block (a := ⟨b, 1, none⟩) e).trans h.fz, Nat.lt_of_lt_of_le h.lt hB5.size, h.le⟩
  have hG5 : w.grownBy (w4.setRow g (OpC ⟨u, v1, v2, v3⟩)) (some b) := by
    have h := HG3.out
    exact ⟨hB5.os.trans h.os, hB5.tape.trans h.tape, hB5.output.trans h.output, Nat.le_trans h.size hB5.size, fun i hi hn => (hB5.block i (Nat.lt_of_lt_of_le hi h.size) (fun e => by have := Option.some.inj e; omega)).trans (h.block i hi hn)⟩
  generalize w4.setRow g (OpC ⟨u, v1, v2, v3⟩) = w5 at *
  obtain ⟨y0, y1, y2, y3⟩ := y5
  simp only [Nat.zero_add] at y1 y2 y3
  (try simp only [Exit.inBlock, Exit.then])
  refine bodyPost_ret (v := .agg #[.string u, .int .i64 v1, .int .i64 v2, .int .i64 v3]) ?_ rfl ⟨hG5, Or.inr ⟨⟨u, v1, v2, v3⟩, q3, by omega, hul, HDd, rfl, hR5⟩⟩
  rw [results_cell1 rfl]
  go_simp
end Go.Proofs.YtlfmhhdlandcjaaDoor
