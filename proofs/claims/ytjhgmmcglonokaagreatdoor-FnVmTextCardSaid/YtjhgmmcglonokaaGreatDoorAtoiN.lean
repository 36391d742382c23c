/-
  What the library's Atoi returns at every text: the number and no error, or some number and an error that is not nil.
-/
import Derived.Test.YtjhgmmcglonokaaGreatDoorJ4
import Derived.Test.YtjhgmmcglonokaaGreatDoorJ7
import Derived.Test.YtjhgmmcglonokaaGreatDoorJ6
import Derived.WalkSmall
namespace Go.Proofs.YtjhgmmcglonokaaGreatDoor
open Go.RowKit
set_option linter.unusedVariables false

theorem err_stays {w w' : World} {n : String} {g : Nat} (hg : Tryz.prog.globalNamed n = some g) (h : ErrIs w n) (hb : Below w.heap.size w w') : ErrIs w' n := by
  obtain ⟨tp, p, hv⟩ := h
  have hlt : g < w.heap.size := by
    have := World.var?_cell hg hv 0
    have := World.block_lt_of_cell? w _ (show w.cell? ⟨g, 0, none⟩ = some _ by simpa using this)
    simpa using this
  exact ⟨tp, p, var?_below hb hg hlt hv⟩
theorem laidE_stays {w w' : World} (h : LaidE w) (hb : Below w.heap.size w w') : LaidE w' :=
  ⟨laid_stays h.1 hb, err_stays gRange h.2.1 hb, err_stays gSyn h.2.2 hb⟩

def AtoiGood (v : Int) (w : World) (e : Ending) (w' : World) : Prop := e = .returned (.tuple #[.int .i64 v, .nilIface]) ∧ Below w.heap.size w w'
def AtoiBad (w : World) (e : Ending) (w' : World) : Prop := ∃ (v : Int) (t : TypeId) (p : Value), e = .returned (.tuple #[.int .i64 v, .iface t p]) ∧ Below w.heap.size w w'

theorem atoiGood (s : ByteArray) (v : Int) (hs : s.size ≤ 9223372036854775806) (h : Lib.atoiAll s.data.toList = .ok v) (w : World) :
    Calls Tryz.prog 116 #[.string s] w (AtoiGood v w) :=
  (Tryz.strconv_Atoi_ok s hs v h w).mono fun e w' hh => by
    obtain ⟨rfl, rfl | ⟨t, rfl⟩⟩ := hh
    · exact ⟨rfl, Below.refl _ _⟩
    · exact ⟨rfl, Lib.bytesWorld_below _ _ _⟩
theorem atoiBad (s : ByteArray) (hs : s.size ≤ 281474976710656) (h : ∀ v, Lib.atoiAll s.data.toList ≠ .ok v) (w : World) (hL : LaidE w) :
    Calls Tryz.prog 116 #[.string s] w (AtoiBad w) := by
  obtain ⟨tr, pr, hr⟩ := hL.2.1
  obtain ⟨ts, ps, hsn⟩ := hL.2.2
  cases hc : Lib.atoiAll s.data.toList
  · exact absurd hc (h _)
  · exact (Any.strconv_Atoi_syntax_var Tryz.laysC172 s hs hc ts ps w hsn).mono fun e w' hh => by
      obtain ⟨N, rfl, -, -, hb⟩ := hh
      exact ⟨_, _, _, rfl, hb⟩
  · exact (Any.strconv_Atoi_range_var Tryz.laysC172 s hs hc tr pr w hr).mono fun e w' hh => by
      obtain ⟨N, rfl, -, -, hb⟩ := hh
      exact ⟨_, _, _, rfl, hb⟩
end Go.Proofs.YtjhgmmcglonokaaGreatDoor
