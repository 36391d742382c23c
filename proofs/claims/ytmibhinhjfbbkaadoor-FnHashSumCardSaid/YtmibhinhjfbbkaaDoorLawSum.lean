/-
  The law that holds the program's HashSum against the model's.
-/
import Derived.Test.YtmibhinhjfbbkaaDoorShaSpecH
import Derived.Test.YtmibhinhjfbbkaaDoorShaImpl
import Derived.ProofKit
import Derived.LaidMore
import Derived.Lib.LaidTab
import Derived.Stop.LaidErr
import Derived.LaidLaws
namespace Go.Proofs.YtmibhinhjfbbkaaDoor
open Go.RowKit
set_option linter.unusedVariables false
set_option linter.unusedSimpArgs false

theorem tyRounds : (Tryd.prog.globals[0]?).map (·.type) = some 94 := by kernel_rfl
theorem cellsRounds : Tryd.prog.cellsOf 94 = 64 := by kernel_rfl
theorem cellsU32 : Tryd.prog.cellsOf 43 = 1 := by kernel_rfl
theorem roundsSame : (Rows.laid_loop_example_stopover_impl_hashRounds : DataW Unit) = Lib.tabData .u32 kTab := by kernel_rfl
theorem laidK_of {W : World} (h : laidMetH Tryd.prog [("loop.example/stopover/impl.hashRounds", Rows.laid_loop_example_stopover_impl_hashRounds)] W) : LaidK W := by
  rw [MakeChecks.laidMetH_plain _ _ _ (by kernel_rfl)] at h
  rw [roundsSame] at h
  exact Lib.tabIs_of_head gRounds tyRounds Tryd.underlying94 Tryd.underlying43 cellsU32 cellsRounds h

set_option maxHeartbeats 4000000 in
theorem exactSum (t : ByteArray) (w : World) (hm : t.size ≤ maxLen) (hL : LaidK w) :
    Calls Tryd.prog 3 #[.string t] w fun e w' => e = .returned (.bool true) ∧ Below w.heap.size w w' := by
  unfold maxLen at hm
  rcases Nat.lt_or_ge 1048576 t.size with c | c
  · go_enter Tryd.func3, Tryd.ntmps3
    go_wp2
    go_ret
    exact ⟨rfl, Below.refl _ _⟩
  · go_enter Tryd.func3, Tryd.ntmps3
    go_wp2_with fail
    refine (specSum t _ (by omega)).mono ?_
    rintro e w1 ⟨rfl, hb1⟩
    go_wp2_with fail
    refine (implSum t _ (by omega) (laidK_stays hL hb1)).mono ?_
    rintro e w2 ⟨rfl, hb2⟩
    go_wp2
    go_ret
    exact ⟨rfl, bt' hb1 hb2⟩
end Go.Proofs.YtmibhinhjfbbkaaDoor
