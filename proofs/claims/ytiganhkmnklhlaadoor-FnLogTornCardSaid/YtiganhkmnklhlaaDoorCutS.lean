/-
  What the library's Cut returns of a text and a colon.
-/
import Derived.Test.YtiganhkmnklhlaaDoorItoa
import Derived.Test.YtiganhkmnklhlaaDoorDoorErr
namespace Go.Proofs.YtiganhkmnklhlaaDoor
open Go.RowKit
set_option linter.unusedVariables false

def CutPost (t : ByteArray) (w : World) (e : Ending) (w' : World) : Prop := ∃ (F B : ByteArray) (b : Bool), e = .returned (.tuple #[.string F, .string B, .bool b]) ∧ F.size ≤ t.size ∧ B.size ≤ t.size ∧ Hid (Lib.cut t.data.toList [58] = (F.data.toList, B.data.toList, b)) ∧ Drew w w'
theorem cut_le (l s : List UInt8) : (Lib.cut l s).1.length ≤ l.length ∧ (Lib.cut l s).2.1.length ≤ l.length := by
  unfold Lib.cut
  split
  · simp only [List.length_take, List.length_drop]; omega
  · simp
theorem cutS (t : ByteArray) (m : Int) (w : World) (hs : t.size ≤ 1048576) (hm : w.cell? ⟨0, 0, none⟩ = some (.int .i64 m)) :
    Calls Tryd.prog 28 #[.string t, .string ⟨#[58]⟩] w (CutPost t w) :=
  (Tryd.strings_Cut t ⟨#[58]⟩ m w (by omega) hm).mono fun e w' h => by
    obtain ⟨rfl, q, rfl⟩ := h
    have := cut_le t.data.toList [58]
    have e : t.data.toList.length = t.size := by simp
    rw [e] at this
    refine ⟨_, _, _, rfl, ?_, ?_, rfl, q, rfl⟩
    · show (Lib.cut t.data.toList [58]).1.toArray.size ≤ t.size; rw [List.size_toArray]; exact this.1
    · show (Lib.cut t.data.toList [58]).2.1.toArray.size ≤ t.size; rw [List.size_toArray]; exact this.2

end Go.Proofs.YtiganhkmnklhlaaDoor
