/-
  Whether a leg is ok: the program's answer.
-/
import Derived.Test.YtbnjmdeabhikkaaLegOkK
namespace Go.Proofs.Ytbnjmdeabhikkaa
open Go.RowKit
set_option linter.unusedVariables false
set_option linter.unusedSimpArgs false

theorem OkLeg.held {d : LegD} (h : OkLeg d) : HeldOk d := held_of h.2.1 h.2.2.1

set_option maxHeartbeats 8000000 in
theorem okI (d : LegD) (p : LegP) (w : World) (h : LegIn w d p) (hf : Fits d) (hc : d.nS ≤ p.cS) :
    Calls Try.prog 21 #[LegV d p] w (OkPost (OkLeg d) (Below w.heap.size w)) := by
  have hbA : Below w.heap.size w (w.alloc (.cells (LegC d p) 31)) := (Below.refl _ _).alloc (Nat.le_refl _) _
  have hA := LegBox.new w d p
  have HI := Lib.hid (h.kept hbA)
  have HbA := Lib.hid hbA
  have hVC : LegV d p = .agg (LegC d p) := rfl
  have HVC := Lib.hid hVC
  rw [hVC]
  have b0 := hA.c0
  have b1 := hA.c1
  have b2 := hA.c2
  have b3 := hA.c3
  have b4 := hA.c4
  have b5 := hA.c5
  have b6 := hA.c6
  have b7 := hA.c7
  have b8 := hA.c8
  have b9 := hA.c9
  have HA := Lib.hid hA
  generalize hLC : LegC d p = LC at *
  have HLC := Lib.hid hLC
  clear hbA hA h hVC hLC
  go_enter Try.func21, Try.ntmps21
  go_wp2_with fail
  generalize w.alloc (.cells LC 31) = W at *
  refine (wayI d p W hf).mono ?_
  rintro e w1 ⟨b, rfl, hb, d1⟩
  cases b with
  | false =>
    have hno : Hid (¬ OkLeg d) := fun h => by have := hb.out.2 h.1; cases this
    go_wp2
    go_ret
    exact okPost_no rfl hno.out (bt HbA.out d1)
  | true =>
  have hway : Hid (WayOk d) := hb.out.1 rfl
  have hA1 := HA.out.kept d1
  have HI1 := Lib.hid (HI.out.kept d1)
  have HA1 := Lib.hid hA1
  have D1 := Lib.hid (bt HbA.out d1)
  clear b0 b1 b2 b3 b4 b5 b6 b7 b8 b9 HA HI d1 hb HbA
  have b0 := hA1.c0
  have b1 := hA1.c1
  have b2 := hA1.c2
  have b3 := hA1.c3
  have b4 := hA1.c4
  have b5 := hA1.c5
  have b6 := hA1.c6
  have b7 := hA1.c7
  have b8 := hA1.c8
  have b9 := hA1.c9
  clear hA1
  go_wp2_with fail
  refine (seatsI d p w1 HI1.out hf).mono ?_
  rintro e w2 ⟨b, rfl, hb, d2⟩
  cases b with
  | false =>
    have hno : Hid (¬ OkLeg d) := fun h => by have := hb.out.2 h.2.1; cases this
    go_wp2
    go_ret
    exact okPost_no rfl hno.out (bt D1.out d2)
  | true =>
  have hseats : Hid (SeatsOk d) := hb.out.1 rfl
  have hA2 := HA1.out.kept d2
  have HI2 := Lib.hid (HI1.out.kept d2)
  have HA2 := Lib.hid hA2
  have D2 := Lib.hid (bt D1.out d2)
  clear b0 b1 b2 b3 b4 b5 b6 b7 b8 b9 HA1 HI1 d2 hb D1
  have b0 := hA2.c0
  have b1 := hA2.c1
  have b2 := hA2.c2
  have b3 := hA2.c3
  have b4 := hA2.c4
  have b5 := hA2.c5
  have b6 := hA2.c6
  have b7 := hA2.c7
  have b8 := hA2.c8
  have b9 := hA2.c9
  clear hA2
  go_wp2_with fail
  refine (holdsI d p w2 HI2.out hf hseats.out.1.1 hseats.out.1.2).mono ?_
  rintro e w3 ⟨b, rfl, hb, d3⟩
  cases b with
  | false =>
    have hno : Hid (¬ OkLeg d) := fun h => by have := hb.out.2 h.2.2.1; cases this
    go_wp2
    go_ret
    exact okPost_no rfl hno.out (bt D2.out d3)
  | true =>
  have hholds : Hid (HoldsOk d) := hb.out.1 rfl
  have hA3 := HA2.out.kept d3
  have HI3 := Lib.hid (HI2.out.kept d3)
  have D3 := Lib.hid (bt D2.out d3)
  clear b0 b1 b2 b3 b4 b5 b6 b7 b8 b9 HA2 HI2 d3 hb D2
  have b0 := hA3.c0
  have b1 := hA3.c1
  have b2 := hA3.c2
  have b3 := hA3.c3
  have b4 := hA3.c4
  have b5 := hA3.c5
  have b6 := hA3.c6
  have b7 := hA3.c7
  have b8 := hA3.c8
  have b9 := hA3.c9
  clear hA3
  go_wp2_with fail
  refine (fitsI d p w3 HI3.out hseats.out.lim hseats.out.sold (held_of hseats.out hholds.out) hc).mono ?_
  rintro e w4 ⟨b, rfl, hb, d4⟩
  have hiff : Hid (b = true ↔ OkLeg d) := by
    show _ ↔ _
    rw [hb.out]
    exact ⟨fun h => ⟨hway.out, hseats.out, hholds.out, h⟩, fun h => h.2.2.2⟩
  clear hb
  go_wp2
  go_ret
  exact ⟨b, rfl, hiff, bt D3.out d4⟩
end Go.Proofs.Ytbnjmdeabhikkaa
