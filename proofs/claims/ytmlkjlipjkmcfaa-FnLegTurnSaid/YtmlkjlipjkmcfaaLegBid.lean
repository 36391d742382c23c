/-
  What the next seat of a leg is worth: the program's answer and the model's; the functions on rooms and worths as they are called.
-/
import Derived.Test.YtmlkjlipjkmcfaaLegRoom
import Derived.Test.YtmlkjlipjkmcfaaLegOkM
namespace Go.Proofs.Ytmlkjlipjkmcfaa
open Go.RowKit Go.Shelf
set_option linter.unusedVariables false
set_option linter.unusedSimpArgs false

def bidB (d : LegD) : Int := d.B (min (roomN d 1) (d.nB - 1)).toNat

set_option maxRecDepth 100000 in
set_option maxHeartbeats 8000000 in
theorem bidI (d : LegD) (p : LegP) (w : World) (h : LegIn w d p) (ho : OkLeg d) (hc : d.nS ≤ p.cS) :
    Calls Try.prog 72 #[LegV d p] w fun e w' => e = .returned (.int .i64 (bidB d)) ∧ Below w.heap.size w w' := by
  have hbA : Below w.heap.size w (w.alloc (.cells (LegC d p) 31)) := (Below.refl _ _).alloc (Nat.le_refl _) _
  have hA := LegBox.new w d p
  have HI1 := Lib.hid (h.kept hbA)
  have HbA := Lib.hid hbA
  have HZ := Lib.hid ho
  have hnB := ho.2.1.2.2.2.2.1
  have hr0 := ho.room0 1 (by omega)
  have hr9 := roomN_box ho.sized.1 ho.sized.2.1 ho.sized.2.2.1 ho.sized.2.2.2 1 (by omega)
  obtain ⟨bB, oB, eB, hbB, hcB⟩ := h.2.2.1.cells (by omega)
  have hV : LegV d p = .agg #[.string d.name, .string d.fr, .string d.to, .int .i64 d.dep, .int .i64 d.arr, .int .i64 d.cap, .slice p.aL d.nL p.cL, .slice p.aS d.nS p.cS, .slice (some ⟨bB, oB, none⟩) d.nB p.cB, .slice p.aH d.nH p.cH] := by unfold LegV; rw [eB]
  have hVC : LegV d p = .agg (LegC d p) := rfl
  rw [hVC]
  have e0 := hA.c0
  have e1 := hA.c1
  have e2 := hA.c2
  have e3 := hA.c3
  have e4 := hA.c4
  have e5 := hA.c5
  have e6 := hA.c6
  have e7 := hA.c7
  have e8 := hA.c8
  have e9 := hA.c9
  rw [eB] at e8
  have r0 := cell_regrown e0
  have r1 := cell_regrown e1
  have r2 := cell_regrown e2
  have r3 := cell_regrown e3
  have r4 := cell_regrown e4
  have r5 := cell_regrown e5
  have r6 := cell_regrown e6
  have r7 := cell_regrown e7
  have r8 := cell_regrown e8
  have r9 := cell_regrown e9
  have cU : ∀ dd os, Calls Try.prog 68 #[.agg #[.string d.name, .string d.fr, .string d.to, .int .i64 d.dep, .int .i64 d.arr, .int .i64 d.cap, .slice p.aL d.nL p.cL, .slice p.aS d.nS p.cS, .slice (some ⟨bB, oB, none⟩) d.nB p.cB, .slice p.aH d.nH p.cH], .int .i64 0] (Go.Sort.grow (redrawn (w.alloc (.cells (LegC d p) 31)) dd) os) fun e w'' => e = .returned (.int .i64 (roomN d 1)) ∧ ∃ q : Regrown, w'' = Go.Sort.grow (redrawn (w.alloc (.cells (LegC d p) 31)) q.d) q.os := fun dd os => by
    have hh := roomI d p 0 (by omega) (Go.Sort.grow (redrawn (w.alloc (.cells (LegC d p) 31)) dd) os) (HI1.out.kept (below_regrown _ dd os)) HZ.out.sized hc
    rw [hV] at hh
    exact Calls.regrown_of hh
  have cell := fun (m : Nat) (hm : m < d.nB) => cell_regrown (cell_kept HbA.out hbB (hcB m hm))
  have CELL := Lib.hid cell
  have HBid : Hid (bidB d = d.B (min (roomN d 1) (d.nB - 1)).toNat) := rfl
  generalize hLC : LegC d p = LC at *
  have HLC := Lib.hid hLC
  generalize hW : w.alloc (.cells LC 31) = W at *
  have HW := Lib.hid hW.symm
  clear hbA hA h hVC hLC hV ho e0 e1 e2 e3 e4 e5 e6 e7 e8 e9 eB hcB cell
  generalize hR : roomN d 1 = R at *
  have HR := Lib.hid hR
  clear hR
  have wn : IntKind.i64.wrap ((d.nB : Int) - 1) = (d.nB : Int) - 1 := IntWalk.i64_in _ (by omega)
  go_enter Try.func72, Try.ntmps72
  rcases Int.lt_or_le ((d.nB : Int) - 1) R with hlt | hge
  · obtain ⟨m, hm⟩ : ∃ m : Nat, (d.nB : Int) - 1 = m := ⟨d.nB - 1, by omega⟩
    have cB := CELL.out m (by omega)
    have hmn : (m : Int) < d.nB := by omega
    have hm0 : (0 : Int) ≤ m := by omega
    have hB : bidB d = d.B m := by rw [HBid.out, show min R ((d.nB : Int) - 1) = m from by omega]; rfl
    rw [hm] at hlt
    have wn2 : IntKind.i64.wrap ((d.nB : Int) - 1) = (m : Int) := wn.trans hm
    have HB := Lib.hid hB
    clear hB hm wn
    go_wp2_with fail
    subst hW
    refine regionB (by kernel_rfl) (by kernel_rfl) ?_
    repeat (refine QW.step (fun K hK => ?_); go_simp; first | (refine hK.out _ ?_; clear hK K) | (apply Exists.intro; refine And.intro (fun _ => ?_) (hK.out _ ?_); first | (go_at_call 68; exact cU _ _); clear hK K))
    refine QW.nil ?_
    intro _ hw'
    obtain ⟨⟨dq, osq⟩, hw''⟩ := hw'
    subst hw''
    have hb6 := bt HbA.out (below_regrown _ dq osq)
    generalize Go.Sort.grow (redrawn (w.alloc (.cells LC 31)) dq) osq = W6 at *
    go_wp2
    go_ret
    exact ⟨retI HB.out.symm, hb6⟩
  · obtain ⟨m, rfl⟩ : ∃ m : Nat, R = m := ⟨R.toNat, by omega⟩
    have cB := CELL.out m (by omega)
    have hmn : (m : Int) < d.nB := by omega
    have hm0 : (0 : Int) ≤ m := by omega
    have hB : bidB d = d.B m := by rw [HBid.out, show min (m : Int) ((d.nB : Int) - 1) = m from by omega]; rfl
    have HB := Lib.hid hB
    have zi : (if (d.nB : Int) - 1 < (m : Int) then (d.nB : Int) - 1 else (m : Int)) = (m : Int) := if_neg (by omega)
    clear hB
    go_wp2_with fail
    subst hW
    refine regionB (by kernel_rfl) (by kernel_rfl) ?_
    repeat (refine QW.step (fun K hK => ?_); go_simp; first | (refine hK.out _ ?_; clear hK K) | (apply Exists.intro; refine And.intro (fun _ => ?_) (hK.out _ ?_); first | (go_at_call 68; exact cU _ _); clear hK K))
    refine QW.nil ?_
    intro _ hw'
    obtain ⟨⟨dq, osq⟩, hw''⟩ := hw'
    subst hw''
    have hb6 := bt HbA.out (below_regrown _ dq osq)
    generalize Go.Sort.grow (redrawn (w.alloc (.cells LC 31)) dq) osq = W6 at *
    go_wp2
    go_ret
    exact ⟨retI HB.out.symm, hb6⟩

set_option maxRecDepth 100000 in
set_option maxHeartbeats 8000000 in
theorem bidM (d : LegD) (p : LegP) (w : World) (h : LegIn w d p) (ho : OkLeg d) :
    Calls Try.prog 73 #[LegV d p] w fun e w' => e = .returned (.int .i64 (bidB d)) ∧ Below w.heap.size w w' := by
  have hbA : Below w.heap.size w (w.alloc (.cells (LegC d p) 31)) := (Below.refl _ _).alloc (Nat.le_refl _) _
  have hA := LegBox.new w d p
  have HI := Lib.hid (h.kept hbA)
  have HbA := Lib.hid hbA
  have hVC : LegV d p = .agg (LegC d p) := rfl
  rw [hVC]
  have b0 := hA.c0
  have b1 := hA.c1
  have b2 := hA.c2
  have b3 := hA.c3
  have b4 := hA.c4
  have b5 := hA.c5
  have b6 := hA.c6
  have b7 := hA.c7
  have b8 := hA.c8
  have b9 := hA.c9
  have HA := Lib.hid hA
  generalize hLC : LegC d p = LC at *
  have HLC := Lib.hid hLC
  clear hbA hA h hVC hLC
  go_enter Try.func73, Try.ntmps73
  go_wp2_with fail
  generalize w.alloc (.cells LC 31) = WA at *
  have HBid : Hid (bidB d = d.B (min (roomN d 1) (d.nB - 1)).toNat) := rfl
  have hnB := ho.2.1.2.2.2.2.1
  have hr0 := ho.room0 1 (by omega)
  have HO := Lib.hid ho
  clear ho b0 b1 b2 b3 b4 b5 b6 b7 b8 b9
  refine (roomM d p 0 (by omega) WA HI.out HO.out.sized).mono ?_
  rintro e w1 ⟨rfl, d1⟩
  have A1 := HA.out.kept d1
  have D1 := Lib.hid (bt HbA.out d1)
  obtain ⟨bB, oB, eB, hbB, hcB⟩ := (HI.out.kept d1).2.2.1.cells (by omega)
  have b8 := A1.c8
  rw [eB] at b8
  have Hc := Lib.hid hcB
  rw [show (0 : Nat) + 1 = 1 from rfl]
  generalize hR : roomN d 1 = R at *
  clear hcB A1 eB hR d1
  rcases Int.lt_or_le R (d.nB : Int) with hlt | hge
  · obtain ⟨m, rfl⟩ : ∃ m : Nat, R = m := ⟨R.toNat, by omega⟩
    have cB := Hc.out m (by omega)
    have hmn : (m : Int) < d.nB := by omega
    have hm0 : (0 : Int) ≤ m := by omega
    have hB : bidB d = d.B m := by rw [HBid.out, show min (m : Int) ((d.nB : Int) - 1) = m from by omega]; rfl
    have HB := Lib.hid hB
    clear hB
    go_wp2
    go_ret
    exact ⟨retI HB.out.symm, D1.out⟩
  · obtain ⟨m, hm⟩ : ∃ m : Nat, (d.nB : Int) - 1 = m := ⟨d.nB - 1, by omega⟩
    have cB := Hc.out m (by omega)
    have hmn : (m : Int) < d.nB := by omega
    have hm0 : (0 : Int) ≤ m := by omega
    have hB : bidB d = d.B m := by rw [HBid.out, show min R ((d.nB : Int) - 1) = m from by omega]; rfl
    have wn : IntKind.i64.wrap ((d.nB : Int) - 1) = (m : Int) := by rw [hm]; exact IntWalk.i64_in _ (by omega)
    have HB := Lib.hid hB
    clear hB hm
    go_wp2
    go_ret
    exact ⟨retI HB.out.symm, D1.out⟩

/-- What LegRoom and LegBid answer. -/
def IsRoom (d : LegD) (c r : Int) : Prop := (OkLeg d ∧ 0 ≤ c ∧ c ≤ 2 → r = roomN d (c.toNat + 1)) ∧ (¬ (OkLeg d ∧ 0 ≤ c ∧ c ≤ 2) → r = 0)
theorem IsRoom.one {d : LegD} {c r r' : Int} (h : IsRoom d c r) (k : IsRoom d c r') : r = r' := by
  by_cases hx : OkLeg d ∧ 0 ≤ c ∧ c ≤ 2
  · rw [h.1 hx, k.1 hx]
  · rw [h.2 hx, k.2 hx]
def IsBid (d : LegD) (r : Int) : Prop := (OkLeg d → r = bidB d) ∧ (¬ OkLeg d → r = 0)
theorem IsBid.one {d : LegD} {r r' : Int} (h : IsBid d r) (k : IsBid d r') : r = r' := by
  by_cases hx : OkLeg d
  · rw [h.1 hx, k.1 hx]
  · rw [h.2 hx, k.2 hx]
def IntPost (S : Int → Prop) (R : World → Prop) (e : Ending) (w' : World) : Prop := ∃ r : Int, e = .returned (.int .i64 r) ∧ Hid (S r) ∧ R w'

set_option maxRecDepth 100000 in
set_option maxHeartbeats 8000000 in
theorem LegBidI (d : LegD) (p : LegP) (w : World) (h : LegIn w d p) (hf : Fits d) (hc : d.nS ≤ p.cS) :
    Calls Try.prog 35 #[LegV d p] w (IntPost (IsBid d) (Below w.heap.size w)) := by
  have hbA : Below w.heap.size w (w.alloc (.cells (LegC d p) 31)) := (Below.refl _ _).alloc (Nat.le_refl _) _
  have hA := LegBox.new w d p
  have HI := Lib.hid (h.kept hbA)
  have HbA := Lib.hid hbA
  have hVC : LegV d p = .agg (LegC d p) := rfl
  rw [hVC]
  have b0 := hA.c0
  have b1 := hA.c1
  have b2 := hA.c2
  have b3 := hA.c3
  have b4 := hA.c4
  have b5 := hA.c5
  have b6 := hA.c6
  have b7 := hA.c7
  have b8 := hA.c8
  have b9 := hA.c9
  have HA := Lib.hid hA
  generalize hLC : LegC d p = LC at *
  have HLC := Lib.hid hLC
  clear hbA hA h hVC hLC
  go_enter Try.func35, Try.ntmps35
  go_wp2_with fail
  generalize w.alloc (.cells LC 31) = WA at *
  clear b0 b1 b2 b3 b4 b5 b6 b7 b8 b9
  refine (okI d p WA HI.out hf hc).mono ?_
  rintro e w1 ⟨v, rfl, hv, d1⟩
  have A1 := HA.out.kept d1
  have D1 := Lib.hid (bt HbA.out d1)
  have HI1 := Lib.hid (HI.out.kept d1)
  have b0 := A1.c0
  have b1 := A1.c1
  have b2 := A1.c2
  have b3 := A1.c3
  have b4 := A1.c4
  have b5 := A1.c5
  have b6 := A1.c6
  have b7 := A1.c7
  have b8 := A1.c8
  have b9 := A1.c9
  clear A1 HA d1
  cases v with
  | false =>
    have hno : Hid (¬ OkLeg d) := fun h => by have := hv.out.2 h; cases this
    go_wp2
    go_ret
    exact ⟨0, rfl, ⟨fun h => absurd h hno.out, fun _ => rfl⟩, D1.out⟩
  | true =>
  have hyes : Hid (OkLeg d) := hv.out.1 rfl
  clear hv
  go_wp2_with fail
  refine (bidI d p w1 HI1.out hyes.out hc).mono ?_
  rintro e w2 ⟨rfl, d2⟩
  have hB : Hid (IsBid d (bidB d)) := ⟨fun _ => rfl, fun h => absurd hyes.out h⟩
  clear b0 b1 b2 b3 b4 b5 b6 b7 b8 b9
  generalize bidB d = B at *
  go_wp2
  go_ret
  exact ⟨B, rfl, hB.out, bt D1.out d2⟩

set_option maxRecDepth 100000 in
set_option maxHeartbeats 8000000 in
theorem LegBidM (d : LegD) (p : LegP) (w : World) (h : LegIn w d p) (hf : Fits d) :
    Calls Try.prog 36 #[LegV d p] w (IntPost (IsBid d) (Below w.heap.size w)) := by
  have hbA : Below w.heap.size w (w.alloc (.cells (LegC d p) 31)) := (Below.refl _ _).alloc (Nat.le_refl _) _
  have hA := LegBox.new w d p
  have HI := Lib.hid (h.kept hbA)
  have HbA := Lib.hid hbA
  have hVC : LegV d p = .agg (LegC d p) := rfl
  rw [hVC]
  have b0 := hA.c0
  have b1 := hA.c1
  have b2 := hA.c2
  have b3 := hA.c3
  have b4 := hA.c4
  have b5 := hA.c5
  have b6 := hA.c6
  have b7 := hA.c7
  have b8 := hA.c8
  have b9 := hA.c9
  have HA := Lib.hid hA
  generalize hLC : LegC d p = LC at *
  have HLC := Lib.hid hLC
  clear hbA hA h hVC hLC
  go_enter Try.func36, Try.ntmps36
  go_wp2_with fail
  generalize w.alloc (.cells LC 31) = WA at *
  clear b0 b1 b2 b3 b4 b5 b6 b7 b8 b9
  refine (okM d p WA HI.out hf).mono ?_
  rintro e w1 ⟨v, rfl, hv, d1⟩
  have A1 := HA.out.kept d1
  have D1 := Lib.hid (bt HbA.out d1)
  have HI1 := Lib.hid (HI.out.kept d1)
  have b0 := A1.c0
  have b1 := A1.c1
  have b2 := A1.c2
  have b3 := A1.c3
  have b4 := A1.c4
  have b5 := A1.c5
  have b6 := A1.c6
  have b7 := A1.c7
  have b8 := A1.c8
  have b9 := A1.c9
  clear A1 HA d1
  cases v with
  | false =>
    have hno : Hid (¬ OkLeg d) := fun h => by have := hv.out.2 h; cases this
    go_wp2
    go_ret
    exact ⟨0, rfl, ⟨fun h => absurd h hno.out, fun _ => rfl⟩, D1.out⟩
  | true =>
  have hyes : Hid (OkLeg d) := hv.out.1 rfl
  clear hv
  go_wp2_with fail
  refine (bidM d p w1 HI1.out hyes.out).mono ?_
  rintro e w2 ⟨rfl, d2⟩
  have hB : Hid (IsBid d (bidB d)) := ⟨fun _ => rfl, fun h => absurd hyes.out h⟩
  clear b0 b1 b2 b3 b4 b5 b6 b7 b8 b9
  generalize bidB d = B at *
  go_wp2
  go_ret
  exact ⟨B, rfl, hB.out, bt D1.out d2⟩

set_option maxRecDepth 100000 in
set_option maxHeartbeats 8000000 in
theorem LegRoomI (d : LegD) (p : LegP) (c : Int) (w : World) (h : LegIn w d p) (hf : Fits d) (hc : d.nS ≤ p.cS) :
    Calls Try.prog 23 #[LegV d p, .int .i64 c] w (IntPost (IsRoom d c) (Below w.heap.size w)) := by
  have hbA : Below w.heap.size w (w.alloc (.cells (LegC d p) 31)) := (Below.refl _ _).alloc (Nat.le_refl _) _
  have hA := LegBox.new w d p
  have HI := Lib.hid (h.kept hbA)
  have HbA := Lib.hid hbA
  have hVC : LegV d p = .agg (LegC d p) := rfl
  rw [hVC]
  have b0 := hA.c0
  have b1 := hA.c1
  have b2 := hA.c2
  have b3 := hA.c3
  have b4 := hA.c4
  have b5 := hA.c5
  have b6 := hA.c6
  have b7 := hA.c7
  have b8 := hA.c8
  have b9 := hA.c9
  have HA := Lib.hid hA
  generalize hLC : LegC d p = LC at *
  have HLC := Lib.hid hLC
  clear hbA hA h hVC hLC
  go_enter Try.func23, Try.ntmps23
  go_wp2_with fail
  generalize w.alloc (.cells LC 31) = WA at *
  clear b0 b1 b2 b3 b4 b5 b6 b7 b8 b9
  refine (okI d p WA HI.out hf hc).mono ?_
  rintro e w1 ⟨v, rfl, hv, d1⟩
  have A1 := HA.out.kept d1
  have D1 := Lib.hid (bt HbA.out d1)
  have HI1 := Lib.hid (HI.out.kept d1)
  have b0 := A1.c0
  have b1 := A1.c1
  have b2 := A1.c2
  have b3 := A1.c3
  have b4 := A1.c4
  have b5 := A1.c5
  have b6 := A1.c6
  have b7 := A1.c7
  have b8 := A1.c8
  have b9 := A1.c9
  clear A1 HA d1
  cases v with
  | false =>
    have hno : Hid (¬ OkLeg d) := fun h => by have := hv.out.2 h; cases this
    go_wp2
    go_ret
    exact ⟨0, rfl, ⟨fun h => absurd h.1 hno.out, fun _ => rfl⟩, D1.out⟩
  | true =>
  have hyes : Hid (OkLeg d) := hv.out.1 rfl
  clear hv
  go_wp2_with fail
  refine (classI c _).mono ?_
  rintro e w' ⟨rfl, rfl⟩
  by_cases hc02 : 0 ≤ c ∧ c ≤ 2
  rotate_left
  · have zb : (decide ((0 : Int) ≤ c) && decide (c ≤ 2)) = false := in_no hc02
    have hno : Hid (¬ (OkLeg d ∧ 0 ≤ c ∧ c ≤ 2)) := fun h => hc02 h.2
    clear hc02
    rw [zb]
    go_wp2
    go_ret
    exact ⟨0, rfl, ⟨fun h => absurd h hno.out, fun _ => rfl⟩, D1.out⟩
  have zb : (decide ((0 : Int) ≤ c) && decide (c ≤ 2)) = true := in_yes hc02
  rw [zb]
  obtain ⟨k, rfl⟩ : ∃ k : Nat, c = k := ⟨c.toNat, by omega⟩
  have hk : k < 3 := by omega
  have hR : Hid (IsRoom d k (roomN d (k + 1))) := ⟨fun _ => rfl, fun h => absurd ⟨hyes.out, hc02⟩ h⟩
  clear zb hc02
  go_wp2_with fail
  refine (roomI d p k hk w1 HI1.out hyes.out.sized hc).mono ?_
  rintro e w2 ⟨rfl, d2⟩
  clear b0 b1 b2 b3 b4 b5 b6 b7 b8 b9
  generalize roomN d (k + 1) = R at *
  go_wp2
  go_ret
  exact ⟨R, rfl, hR.out, bt D1.out d2⟩

set_option maxRecDepth 100000 in
set_option maxHeartbeats 8000000 in
theorem LegRoomM (d : LegD) (p : LegP) (c : Int) (w : World) (h : LegIn w d p) (hf : Fits d) :
    Calls Try.prog 32 #[LegV d p, .int .i64 c] w (IntPost (IsRoom d c) (Below w.heap.size w)) := by
  have hbA : Below w.heap.size w (w.alloc (.cells (LegC d p) 31)) := (Below.refl _ _).alloc (Nat.le_refl _) _
  have hA := LegBox.new w d p
  have HI := Lib.hid (h.kept hbA)
  have HbA := Lib.hid hbA
  have hVC : LegV d p = .agg (LegC d p) := rfl
  rw [hVC]
  have b0 := hA.c0
  have b1 := hA.c1
  have b2 := hA.c2
  have b3 := hA.c3
  have b4 := hA.c4
  have b5 := hA.c5
  have b6 := hA.c6
  have b7 := hA.c7
  have b8 := hA.c8
  have b9 := hA.c9
  have HA := Lib.hid hA
  generalize hLC : LegC d p = LC at *
  have HLC := Lib.hid hLC
  clear hbA hA h hVC hLC
  go_enter Try.func32, Try.ntmps32
  go_wp2_with fail
  generalize w.alloc (.cells LC 31) = WA at *
  clear b0 b1 b2 b3 b4 b5 b6 b7 b8 b9
  refine (okM d p WA HI.out hf).mono ?_
  rintro e w1 ⟨v, rfl, hv, d1⟩
  have A1 := HA.out.kept d1
  have D1 := Lib.hid (bt HbA.out d1)
  have HI1 := Lib.hid (HI.out.kept d1)
  have b0 := A1.c0
  have b1 := A1.c1
  have b2 := A1.c2
  have b3 := A1.c3
  have b4 := A1.c4
  have b5 := A1.c5
  have b6 := A1.c6
  have b7 := A1.c7
  have b8 := A1.c8
  have b9 := A1.c9
  clear A1 HA d1
  cases v with
  | false =>
    have hno : Hid (¬ OkLeg d) := fun h => by have := hv.out.2 h; cases this
    go_wp2
    go_ret
    exact ⟨0, rfl, ⟨fun h => absurd h.1 hno.out, fun _ => rfl⟩, D1.out⟩
  | true =>
  have hyes : Hid (OkLeg d) := hv.out.1 rfl
  clear hv
  go_wp2_with fail
  refine (specIn c 0 2 _).mono ?_
  rintro e w' ⟨rfl, rfl⟩
  by_cases hc02 : 0 ≤ c ∧ c ≤ 2
  rotate_left
  · have zb : (decide ((0 : Int) ≤ c) && decide (c ≤ 2)) = false := in_no hc02
    have hno : Hid (¬ (OkLeg d ∧ 0 ≤ c ∧ c ≤ 2)) := fun h => hc02 h.2
    clear hc02
    rw [zb]
    go_wp2
    go_ret
    exact ⟨0, rfl, ⟨fun h => absurd h hno.out, fun _ => rfl⟩, D1.out⟩
  have zb : (decide ((0 : Int) ≤ c) && decide (c ≤ 2)) = true := in_yes hc02
  rw [zb]
  obtain ⟨k, rfl⟩ : ∃ k : Nat, c = k := ⟨c.toNat, by omega⟩
  have hk : k < 3 := by omega
  have hR : Hid (IsRoom d k (roomN d (k + 1))) := ⟨fun _ => rfl, fun h => absurd ⟨hyes.out, hc02⟩ h⟩
  clear zb hc02
  go_wp2_with fail
  refine (roomM d p k hk w1 HI1.out hyes.out.sized).mono ?_
  rintro e w2 ⟨rfl, d2⟩
  clear b0 b1 b2 b3 b4 b5 b6 b7 b8 b9
  generalize roomN d (k + 1) = R at *
  go_wp2
  go_ret
  exact ⟨R, rfl, hR.out, bt D1.out d2⟩
end Go.Proofs.Ytmlkjlipjkmcfaa
