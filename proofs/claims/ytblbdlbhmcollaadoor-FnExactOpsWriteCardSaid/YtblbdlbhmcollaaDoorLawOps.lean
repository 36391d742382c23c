/-
  The law that holds the program's OpsWrite against the model's.
-/
import Derived.Test.YtblbdlbhmcollaaDoorOpsWriteI
import Derived.Test.YtblbdlbhmcollaaDoorOpenOps
namespace Go.Proofs.YtblbdlbhmcollaaDoor
open Go.RowKit
set_option linter.unusedVariables false
set_option linter.unusedSimpArgs false

set_option maxRecDepth 100000 in
set_option maxHeartbeats 8000000 in
theorem exactOpsWrite (a : Option Addr) (n cap : Nat) (ds : Nat → OpD) (w : World) (w0 : IsOps w a n cap ds) (hL : Laid w) :
    Calls Tryd.prog 3 #[.slice a n cap] w fun e w' => e = .returned (.bool true) ∧ Below w.heap.size w w' := by
  obtain ⟨hlc, hcm, hops, hw⟩ := w0
  have hn : (n : Int) ≤ 9223372036854775807 := by unfold maxLen at hcm; omega
  have HO := Lib.hid hops
  have HL := Lib.hid hL
  have HW : Hid (∀ i, i < n → (ds i).leg.size ≤ 9223372036854775807) := fun i hi => by have := hw i hi; unfold maxLen at this; omega
  have HM := Lib.hid hw
  clear hops hw hcm hL
  go_enter Tryd.func3, Tryd.ntmps3
  go_wp2_with fail
  refine (szOps a n cap ds w HO.out hn HW.out).mono ?_
  rintro e w1 ⟨r, r0, r1, rfl, hr, d1⟩
  rcases Int.lt_or_le r 0 with c | c
  · have z0 : decide (r < 0) = true := decide_eq_true c
    go_wp2
    go_ret
    exact ⟨rfl, d1⟩
  have z0 : decide (r < 0) = false := decide_eq_false (by omega)
  obtain ⟨hn2, -⟩ := hr.out c
  have D1 := Lib.hid d1
  clear hr d1
  go_wp2_with fail
  refine (toOps a n cap ds w1 (HO.out.kept D1.out) hn2).mono ?_
  rintro e w2 ⟨g1, -, rfl, hq1, d2⟩
  have D2 := Lib.hid (bt D1.out d2)
  have HQ1 := Lib.hid hq1
  clear hq1 d2
  go_wp2_with fail
  refine (writeS _ n n ds w2 HQ1.out HM.out hn2).mono ?_
  rintro e w3 ⟨o1, rfl, ho1, d3⟩
  have D3 := Lib.hid (bt D2.out d3)
  clear d3
  go_wp2_with fail
  refine (toOps a n cap ds w3 (HO.out.kept D3.out) hn2).mono ?_
  rintro e w4 ⟨g2, -, rfl, hq2, d4⟩
  have D4 := Lib.hid (bt D3.out d4)
  have HQ2 := Lib.hid hq2
  clear hq2 d4
  go_wp2_with fail
  refine (writeI _ n n ds w4 HQ2.out HM.out hn2 (Nat.le_refl _) (laid_stays HL.out D4.out)).mono ?_
  rintro e w5 ⟨o2, rfl, ho2, d5⟩
  obtain rfl : o1 = o2 := opsText_one ho1.out ho2.out
  have zb : (o1.toList != o1.toList) = false := by simp
  have D5 := Lib.hid (bt D4.out d5)
  have HQ5 := Lib.hid (HQ2.out.kept d5)
  clear ho1 ho2 d5
  go_wp2_with fail
  refine (toOps a n cap ds w5 (HO.out.kept D5.out) hn2).mono ?_
  rintro e w6 ⟨g3, -, rfl, hq3, d6⟩
  have D6 := Lib.hid (bt D5.out d6)
  have HQ6 := Lib.hid (HQ5.out.kept d6)
  have HQ3 := Lib.hid hq3
  clear hq3 d6
  go_wp2_with fail
  refine (eqOps _ _ n n n ds w6 HQ6.out HQ3.out hn2).mono ?_
  rintro e w7 ⟨rfl, d7⟩
  have D7 := Lib.hid (bt D6.out d7)
  clear d7
  go_wp2
  go_ret
  exact ⟨rfl, D7.out⟩
end Go.Proofs.YtblbdlbhmcollaaDoor
