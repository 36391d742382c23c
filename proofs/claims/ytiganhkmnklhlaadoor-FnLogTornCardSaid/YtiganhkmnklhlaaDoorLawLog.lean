/-
  The laws that hold the program's LogAdd, LogOk and LogTorn against the model's.
-/
import Derived.Test.YtiganhkmnklhlaaDoorLogAddS
namespace Go.Proofs.YtiganhkmnklhlaaDoor
open Go.RowKit
set_option linter.unusedVariables false
set_option linter.unusedSimpArgs false

theorem btl {a b c : World} (h : Below a.heap.size a b) (k : Below b.heap.size b c) : Below a.heap.size a c := h.trans (k.mono h.size)

set_option maxHeartbeats 4000000 in
theorem exactLogTorn (t x : ByteArray) (n : Int) (w : World) (ht : t.size ≤ maxLen) (hx : x.size ≤ maxLen) (hn : (Lit.int .i64 n).wf = true) (hL : LaidL w) :
    Calls Tryd.prog 4 #[.string t, .string x, .int .i64 n] w fun e w' => e = .returned (.bool true) ∧ Below w.heap.size w w' := by
  unfold maxLen at ht hx
  have hn2 : n ≤ 9223372036854775807 := by
    exact (bounds_i64 hn).2
  clear hn
  rcases Nat.lt_or_ge 1048576 t.size with c | c
  · go_enter Tryd.func4, Tryd.ntmps4
    go_wp2
    go_ret
    exact ⟨rfl, Below.refl _ _⟩
  rcases Nat.lt_or_ge 1048576 x.size with c2 | c2
  · go_enter Tryd.func4, Tryd.ntmps4
    go_wp2
    go_ret
    exact ⟨rfl, Below.refl _ _⟩
  go_enter Tryd.func4, Tryd.ntmps4
  go_wp2_with fail
  refine (tornS t x n _ c c2 hn2).mono ?_
  rintro e w1 ⟨o, rfl, ho, hS, hb1⟩
  go_wp2_with fail
  refine (tornI t x n _ c c2 hn2 (laidL_stays hL hb1)).mono ?_
  rintro e w2 ⟨o2, rfl, -, hI, hb2⟩
  obtain rfl := torn_one c hS.out hI.out
  clear hS hI
  go_wp2
  go_ret
  exact ⟨rfl, btl hb1 hb2⟩
end Go.Proofs.YtiganhkmnklhlaaDoor
