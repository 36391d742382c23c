/-
  What a row with the library's tables, its two error values, and the error of words tells of the world.
-/
import Derived.Test.YtifpdamghmlcfaaDoorItoa
import Derived.Test.YtifpdamghmlcfaaDoorDoorErr
namespace Go.Proofs.YtifpdamghmlcfaaDoor
open Go.RowKit
set_option linter.unusedVariables false

theorem gWord : Tryd.prog.globalNamed "loop.example/stopover/impl.errNoWord" = some 0 := by kernel_rfl
theorem tyWord : (Tryd.prog.globals[0]?).map (·.type) = some 41 := by kernel_rfl

/-- The tables, the two errors of the library's; the error of words at p; and some number in a variable of the library's. -/
def LaidW (p : Addr) (w : World) : Prop := LaidE w ∧ w.var? Tryd.prog "loop.example/stopover/impl.errNoWord" = some #[.iface 113 (.pointer (some p))] ∧ ∃ m, w.cell? ⟨1, 0, none⟩ = some (.int .i64 m)

theorem err_stays {w w' : World} {n : String} {g : Nat} (hg : Tryd.prog.globalNamed n = some g) (h : ErrIs w n) (hb : Below w.heap.size w w') : ErrIs w' n := by
  obtain ⟨tp, p, hv⟩ := h
  have hlt : g < w.heap.size := by
    have := World.var?_cell hg hv 0
    have := World.block_lt_of_cell? w _ (show w.cell? ⟨g, 0, none⟩ = some _ by simpa using this)
    simpa using this
  exact ⟨tp, p, var?_below hb hg hlt hv⟩
theorem laidE_stays {w w' : World} (h : LaidE w) (hb : Below w.heap.size w w') : LaidE w' :=
  ⟨laid_stays h.1 hb, err_stays gRange h.2.1 hb, err_stays gSyn h.2.2 hb⟩
theorem laidW_stays {p : Addr} {w w' : World} (h : LaidW p w) (hb : Below w.heap.size w w') : LaidW p w' := by
  obtain ⟨h1, h2, m, hm⟩ := h
  refine ⟨laidE_stays h1 hb, ?_, m, ?_⟩
  · have hlt : 0 < w.heap.size := by
      have := World.var?_cell gWord h2 0
      have := World.block_lt_of_cell? w _ (show w.cell? ⟨0, 0, none⟩ = some _ by simpa using this)
      simpa using this
    exact var?_below hb gWord hlt h2
  · have := World.block_lt_of_cell? w _ hm
    exact (hb.cell (p := ⟨1, 0, none⟩) this).trans hm
theorem laidW_cell {p : Addr} {w : World} (h : LaidW p w) : w.cell? ⟨0, 0, none⟩ = some (.iface 113 (.pointer (some p))) := by
  have := World.var?_cell gWord h.2.1 0
  simpa using this

theorem laidOf6 {W : World} (h : laidMetH Tryd.prog [("math/bits.deBruijn32tab", Rows.laid_math_bits_deBruijn32tab), ("math/bits.deBruijn64tab", Rows.laid_math_bits_deBruijn64tab), ("internal/strconv.uint64pow10", Rows.laid_internal_strconv_uint64pow10), ("strconv.ErrRange", Rows.laid_strconv_ErrRange), ("strconv.ErrSyntax", Rows.laid_strconv_ErrSyntax), ("loop.example/stopover/impl.errNoWord", Rows.laid_loop_example_stopover_impl_errNoWord)] W) (hm : ∃ m, W.cell? ⟨1, 0, none⟩ = some (.int .i64 m)) : ∃ p, LaidW p W := by
  rw [MakeChecks.laidMetH_plain _ _ _ (by kernel_rfl)] at h
  have h1 := h.tail.tail
  have h2 := h1.tail
  have h3 := h2.tail
  have h4 := h3.tail
  obtain ⟨a0, s0, hv0, -, -, -⟩ := laid_sentinel h2 gRange tyRange Tryd.underlying41 rowErr Tryd.underlying113 Tryd.underlying115 rfl rfl Tryd.underlying9 cellsErr cellsStr
  obtain ⟨a1, s1, hv1, -, -, -⟩ := laid_sentinel h3 gSyn tySyn Tryd.underlying41 rowErr Tryd.underlying113 Tryd.underlying115 rfl rfl Tryd.underlying9 cellsErr cellsStr
  obtain ⟨a2, s2, hv2, -, -, -⟩ := laid_sentinel h4 gWord tyWord Tryd.underlying41 rowErr Tryd.underlying113 Tryd.underlying115 rfl rfl Tryd.underlying9 cellsErr cellsStr
  exact ⟨a2, ⟨laidTab h1, ⟨_, _, hv0⟩, ⟨_, _, hv1⟩⟩, hv2, hm⟩

def AtoiGood (v : Int) (w : World) (e : Ending) (w' : World) : Prop := e = .returned (.tuple #[.int .i64 v, .nilIface]) ∧ Below w.heap.size w w'
def AtoiBad (w : World) (e : Ending) (w' : World) : Prop := ∃ (v : Int) (t : TypeId) (p : Value), e = .returned (.tuple #[.int .i64 v, .iface t p]) ∧ Below w.heap.size w w'
theorem atoiGood (s : ByteArray) (v : Int) (hs : s.size ≤ 9223372036854775806) (h : Lib.atoiAll s.data.toList = .ok v) (w : World) :
    Calls Tryd.prog 38 #[.string s] w (AtoiGood v w) :=
  (Tryd.strconv_Atoi_ok s hs v h w).mono fun e w' hh => by
    obtain ⟨rfl, rfl | ⟨t, rfl⟩⟩ := hh
    · exact ⟨rfl, Below.refl _ _⟩
    · exact ⟨rfl, Lib.bytesWorld_below _ _ _⟩
theorem atoiBad (s : ByteArray) (hs : s.size ≤ 281474976710656) (h : ∀ v, Lib.atoiAll s.data.toList ≠ .ok v) (w : World) (hL : LaidE w) :
    Calls Tryd.prog 38 #[.string s] w (AtoiBad w) := by
  obtain ⟨tr, pr, hr⟩ := hL.2.1
  obtain ⟨ts, ps, hsn⟩ := hL.2.2
  cases hc : Lib.atoiAll s.data.toList
  · exact absurd hc (h _)
  · exact (Any.strconv_Atoi_syntax_var Tryd.laysC172 s hs hc ts ps w hsn).mono fun e w' hh => by
      obtain ⟨N, rfl, -, -, hb⟩ := hh
      exact ⟨_, _, _, rfl, hb⟩
  · exact (Any.strconv_Atoi_range_var Tryd.laysC172 s hs hc tr pr w hr).mono fun e w' hh => by
      obtain ⟨N, rfl, -, -, hb⟩ := hh
      exact ⟨_, _, _, rfl, hb⟩
end Go.Proofs.YtifpdamghmlcfaaDoor
