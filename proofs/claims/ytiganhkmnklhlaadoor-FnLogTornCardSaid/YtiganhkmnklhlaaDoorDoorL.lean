/-
  What a row with the library's tables, its two error values, and the sum's table tells of the world.
-/
import Derived.Test.YtiganhkmnklhlaaDoorAtoiL
import Derived.Test.YtiganhkmnklhlaaDoorShaBlock
import Derived.ProofKit
import Derived.LaidMore
import Derived.Lib.LaidTab
import Derived.Stop.LaidErr
import Derived.LaidLaws
namespace Go.Proofs.YtiganhkmnklhlaaDoor
open Go.RowKit
set_option linter.unusedVariables false

theorem tyRoundsL : (Tryd.prog.globals[3]?).map (·.type) = some 109 := by kernel_rfl
theorem cellsRoundsL : Tryd.prog.cellsOf 109 = 64 := by kernel_rfl
theorem cellsU32L : Tryd.prog.cellsOf 76 = 1 := by kernel_rfl
theorem roundsSameL : (Rows.laid_loop_example_stopover_impl_hashRounds : DataW Unit) = Lib.tabData .u32 kTab := by kernel_rfl

def LaidL (w : World) : Prop := LaidE w ∧ LaidK w ∧ ∃ m, w.cell? ⟨0, 0, none⟩ = some (.int .i64 m)
theorem laidL_stays {w w' : World} (h : LaidL w) (hb : Below w.heap.size w w') : LaidL w' := by
  obtain ⟨h1, h2, m, hm⟩ := h
  refine ⟨laidE_stays h1 hb, laidK_stays h2 hb, m, ?_⟩
  have := World.block_lt_of_cell? w _ hm
  exact (hb.cell (p := ⟨0, 0, none⟩) this).trans hm

theorem laidOf7 {W : World} (h : laidMetH Tryd.prog [("math/bits.deBruijn32tab", Rows.laid_math_bits_deBruijn32tab), ("math/bits.deBruijn64tab", Rows.laid_math_bits_deBruijn64tab), ("internal/strconv.uint64pow10", Rows.laid_internal_strconv_uint64pow10), ("strconv.ErrRange", Rows.laid_strconv_ErrRange), ("strconv.ErrSyntax", Rows.laid_strconv_ErrSyntax), ("loop.example/stopover/impl.hashRounds", Rows.laid_loop_example_stopover_impl_hashRounds)] W) (hm : ∃ m, W.cell? ⟨0, 0, none⟩ = some (.int .i64 m)) : LaidL W := by
  rw [MakeChecks.laidMetH_plain _ _ _ (by kernel_rfl)] at h
  have h1 := h.tail.tail
  have h2 := h1.tail
  have h3 := h2.tail
  have h4 := h3.tail
  rw [roundsSameL] at h4
  obtain ⟨a0, s0, hv0, -, -, -⟩ := laid_sentinel h2 gRange tyRange Tryd.underlying52 rowErr Tryd.underlying118 Tryd.underlying120 rfl rfl Tryd.underlying9 cellsErr cellsStr
  obtain ⟨a1, s1, hv1, -, -, -⟩ := laid_sentinel h3 gSyn tySyn Tryd.underlying52 rowErr Tryd.underlying118 Tryd.underlying120 rfl rfl Tryd.underlying9 cellsErr cellsStr
  exact ⟨⟨laidTab h1, ⟨_, _, hv0⟩, ⟨_, _, hv1⟩⟩, Lib.tabIs_of_head gRounds tyRoundsL Tryd.underlying109 Tryd.underlying76 cellsU32L cellsRoundsL h4, hm⟩
end Go.Proofs.YtiganhkmnklhlaaDoor
