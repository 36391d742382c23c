/-
  How far a log was read: plain facts; no program is walked here.
-/
import Derived.Test.YtiganhkmnklhlaaDoorLogMath
namespace Go.Proofs.YtiganhkmnklhlaaDoor
open Go.RowKit
set_option linter.unusedVariables false

/-- The first a bytes of a log are the records rs. -/
def LogAt (t : List UInt8) (rs : List ByteArray) (a : Nat) : Prop := ∃ r, t = frames 0 rs ++ r ∧ a = (frames 0 rs).length
theorem logAt_nil (t : List UInt8) : LogAt t [] 0 := ⟨t, by simp [frames], by simp [frames]⟩
theorem LogAt.drop {t : List UInt8} {rs : List ByteArray} {a : Nat} (h : LogAt t rs a) : t = frames 0 rs ++ t.drop a := by
  obtain ⟨r, rfl, rfl⟩ := h
  rw [List.drop_left]
theorem LogAt.step {t : List UInt8} {rs : List ByteArray} {a : Nat} {x : ByteArray} (h : LogAt t rs a) (hx : FB (t.drop a) rs.length x) : LogAt t (rs ++ [x]) (a + (frame rs.length x).length) := by
  obtain ⟨r, hr⟩ := hx
  have e := h.drop
  obtain ⟨_, -, ha⟩ := h
  refine ⟨r, ?_, ?_⟩
  · rw [frames_snoc, Nat.zero_add, List.append_assoc, hr]; exact e
  · rw [frames_snoc, List.length_append, Nat.zero_add, ha]
theorem LogAt.stop {t : List UInt8} {rs : List ByteArray} {a : Nat} (h : LogAt t rs a) (hn : ∀ x, ¬ FB (t.drop a) rs.length x) : LogIs t rs a := by
  have e := h.drop
  obtain ⟨_, -, ha⟩ := h
  exact ⟨_, e, ha, hn⟩
theorem LogAt.le {t : List UInt8} {rs : List ByteArray} {a : Nat} (h : LogAt t rs a) : 17 * rs.length ≤ a ∧ a ≤ t.length := by
  obtain ⟨r, rfl, rfl⟩ := h
  exact ⟨frames_ge rs 0, by simp⟩
end Go.Proofs.YtiganhkmnklhlaaDoor
