/-
  The laws that hold the program's LogAdd, LogOk and LogTorn against the model's.
-/
import Derived.Test.YtlfgmodpcemjaaaDoorLogAddS
namespace Go.Proofs.YtlfgmodpcemjaaaDoor
open Go.RowKit
set_option linter.unusedVariables false
set_option linter.unusedSimpArgs false

theorem btl {a b c : World} (h : Below a.heap.size a b) (k : Below b.heap.size b c) : Below a.heap.size a c := h.trans (k.mono h.size)

set_option maxHeartbeats 4000000 in
theorem exactLogAdd (t x : ByteArray) (w : World) (ht : t.size ≤ maxLen) (hx : x.size ≤ maxLen) (hL : LaidL w) :
    Calls Tryd.prog 7 #[.string t, .string x] w fun e w' => e = .returned (.bool true) ∧ Below w.heap.size w w' := by
  unfold maxLen at ht hx
  rcases Nat.lt_or_ge 1048576 t.size with c | c
  · go_enter Tryd.func7, Tryd.ntmps7
    go_wp2
    go_ret
    exact ⟨rfl, Below.refl _ _⟩
  rcases Nat.lt_or_ge 1048576 x.size with c2 | c2
  · go_enter Tryd.func7, Tryd.ntmps7
    go_wp2
    go_ret
    exact ⟨rfl, Below.refl _ _⟩
  go_enter Tryd.func7, Tryd.ntmps7
  go_wp2_with fail
  refine (addS t x _ c c2).mono ?_
  rintro e w1 ⟨o, b, rfl, ho, hS, hb1⟩
  go_wp2_with fail
  refine (addI t x _ c c2 (laidL_stays hL hb1)).mono ?_
  rintro e w2 ⟨o2, b2, rfl, -, hI, hb2⟩
  obtain ⟨rfl, rfl⟩ := add_one c hS.out hI.out
  clear hS hI
  cases b with
  | true =>
    go_wp2
    go_ret
    exact ⟨rfl, btl hb1 hb2⟩
  | false =>
    go_wp2
    go_ret
    exact ⟨rfl, btl hb1 hb2⟩

set_option maxHeartbeats 4000000 in
theorem exactLogOk (t : ByteArray) (w : World) (ht : t.size ≤ maxLen) (hL : LaidL w) :
    Calls Tryd.prog 6 #[.string t] w fun e w' => e = .returned (.bool true) ∧ Below w.heap.size w w' := by
  unfold maxLen at ht
  rcases Nat.lt_or_ge 1048576 t.size with c | c
  · go_enter Tryd.func6, Tryd.ntmps6
    go_wp2
    go_ret
    exact ⟨rfl, Below.refl _ _⟩
  go_enter Tryd.func6, Tryd.ntmps6
  go_wp2_with fail
  refine (okS t _ c).mono ?_
  rintro e w1 ⟨b, rfl, hS, hb1⟩
  go_wp2_with fail
  refine (okI t _ c (laidL_stays hL hb1)).mono ?_
  rintro e w2 ⟨b2, rfl, hI, hb2⟩
  obtain rfl : b = b2 := Bool.eq_iff_iff.2 (hS.out.trans hI.out.symm)
  clear hS hI
  cases b with
  | true =>
    go_wp2
    go_ret
    exact ⟨rfl, btl hb1 hb2⟩
  | false =>
    go_wp2
    go_ret
    exact ⟨rfl, btl hb1 hb2⟩

set_option maxHeartbeats 4000000 in
theorem exactLogTorn (t x : ByteArray) (n : Int) (w : World) (ht : t.size ≤ maxLen) (hx : x.size ≤ maxLen) (hn : (Lit.int .i64 n).wf = true) (hL : LaidL w) :
    Calls Tryd.prog 8 #[.string t, .string x, .int .i64 n] w fun e w' => e = .returned (.bool true) ∧ Below w.heap.size w w' := by
  unfold maxLen at ht hx
  have hn2 : n ≤ 9223372036854775807 := by
    exact (bounds_i64 hn).2
  clear hn
  rcases Nat.lt_or_ge 1048576 t.size with c | c
  · go_enter Tryd.func8, Tryd.ntmps8
    go_wp2
    go_ret
    exact ⟨rfl, Below.refl _ _⟩
  rcases Nat.lt_or_ge 1048576 x.size with c2 | c2
  · go_enter Tryd.func8, Tryd.ntmps8
    go_wp2
    go_ret
    exact ⟨rfl, Below.refl _ _⟩
  go_enter Tryd.func8, Tryd.ntmps8
  go_wp2_with fail
  refine (tornS t x n _ c c2 hn2).mono ?_
  rintro e w1 ⟨o, rfl, ho, hS, hb1⟩
  go_wp2_with fail
  refine (tornI t x n _ c c2 hn2 (laidL_stays hL hb1)).mono ?_
  rintro e w2 ⟨o2, rfl, -, hI, hb2⟩
  obtain rfl := torn_one c hS.out hI.out
  clear hS hI
  go_wp2
  go_ret
  exact ⟨rfl, btl hb1 hb2⟩
end Go.Proofs.YtlfgmodpcemjaaaDoor
