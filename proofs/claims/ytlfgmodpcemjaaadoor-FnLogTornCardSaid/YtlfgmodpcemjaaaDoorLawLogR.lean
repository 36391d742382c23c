/-
  The law that holds the program's LogRead against the model's.
-/
import Derived.Test.YtlfgmodpcemjaaaDoorLawLog
import Derived.Test.YtlfgmodpcemjaaaDoorMarkStr
import Derived.Test.YtlfgmodpcemjaaaDoorEqStrs
namespace Go.Proofs.YtlfgmodpcemjaaaDoor
open Go.RowKit
set_option linter.unusedVariables false
set_option linter.unusedSimpArgs false

theorem strs_own {w : World} {B e : Nat} {a : Option Addr} {len cap : Nat} {ss : List ByteArray} (h : w.ownsRow B e 1 (.slice a len cap) len (ss.map Value.string)) (hl : ss.length = len) : Strs w a len ss := by
  refine ⟨hl, ?_⟩
  by_cases h0 : len = 0
  · exact Or.inl h0
  · obtain ⟨g, c, e1, -, hg⟩ := h.form (by omega)
    obtain ⟨rfl, -, -⟩ : a = some ⟨g, 0, none⟩ ∧ len = len ∧ cap = c := by simpa using e1
    refine Or.inr ⟨g, 0, rfl, hg, fun i hi => ?_⟩
    have hi2 : i < (ss.map Value.string).length := by simpa [hl] using hi
    have := h.cellAt i (by omega)
    rw [Nat.zero_add, this]
    simp [hl, hi]
theorem strsW_own {w : World} {B e : Nat} {a : Option Addr} {len cap : Nat} {ss : List ByteArray} (h : w.ownsRow B e 1 (.slice a len cap) len (ss.map Value.string)) (hl : ss.length = len) : StrsW B w a len := by
  by_cases h0 : len = 0
  · exact Or.inl h0
  · obtain ⟨g, c, e1, hB, hg⟩ := h.form (by omega)
    obtain ⟨rfl, -, -⟩ : a = some ⟨g, 0, none⟩ ∧ len = len ∧ cap = c := by simpa using e1
    refine Or.inr ⟨g, rfl, hB, hg, fun i hi => ⟨⟨ss.getD i ByteArray.empty, ?_⟩, h.frozenAt i⟩⟩
    rw [h.cellAt i (by omega)]
    simp [hl, hi]
theorem markStrs1 (B : Nat) (a : Option Addr) (len cap : Nat) (w : World) (h : StrsW B w a len) (hl : len ≤ 1048576) :
    Calls Tryd.prog 18 #[.slice a len cap, .int .i64 1] w fun e w' => e = .returned (.int .i64 (1 + len)) ∧ (len = 0 ∧ w' = w ∨ ∃ g, a = some ⟨g, 0, none⟩ ∧ B ≤ g ∧ g < w.heap.size ∧ w.grownBy w' (some g) ∧ Marked w' g len 1) :=
  markStrs B a len cap 1 w h hl (by omega) (by omega)
theorem heldStrs1 (a : Option Addr) (len cap : Nat) (w : World) (h : len = 0 ∨ ∃ g, a = some ⟨g, 0, none⟩ ∧ g < w.heap.size ∧ Marked w g len 1) (hl : len ≤ 1048576) :
    Calls Tryd.prog 19 #[.slice a len cap, .int .i64 1] w fun e w' => e = .returned (.int .i64 (1 + len)) ∧ Below w.heap.size w w' :=
  heldStrs a len cap 1 w h hl (by omega) (by omega)
theorem Marked.kept {w w' : World} {g len k0 : Nat} (h : Marked w g len k0) (hg : g < w.heap.size) (hb : Below w.heap.size w w') : Marked w' g len k0 := fun i hi => (hb.cell (p := ⟨g, i, none⟩) hg).trans (h i hi)

set_option maxHeartbeats 4000000 in
theorem exactLogRead (t : ByteArray) (w : World) (hm : t.size ≤ maxLen) (hL : LaidL w) :
    Calls Tryd.prog 5 #[.string t] w fun e w' => e = .returned (.bool true) ∧ Below w.heap.size w w' := by
  unfold maxLen at hm
  rcases Nat.lt_or_ge 1048576 t.size with c | c
  · go_enter Tryd.func5, Tryd.ntmps5
    go_wp2
    go_ret
    exact ⟨rfl, Below.refl _ _⟩
  · have htl : Hid (t.data.toList.length ≤ 1000000000) := by show _ ≤ _; simp; omega
    go_enter Tryd.func5, Tryd.ntmps5
    go_wp2_with fail
    refine (readS t _ c).mono ?_
    rintro e w1 ⟨ws, m, a1, cap1, rfl, hown1, hl48, hm1, hlog1, hb1⟩
    have hL1 := laidL_stays hL hb1
    have hS1 : Strs w1 a1 ws.length ws := strs_own hown1 rfl
    clear hown1
    go_wp2_with fail
    refine (readI t _ c hL1).mono ?_
    rintro e w2 ⟨ws2, m2, a2, cap2, rfl, hown2, -, -, hlog2, hb2⟩
    obtain ⟨rfl, rfl⟩ := log_one htl.out hlog1.out hlog2.out
    clear hlog2
    have hw2 : StrsW (w1.heap.size + 1) w2 a2 ws.length := strsW_own hown2 rfl
    have hs2 : Strs w2 a2 ws.length ws := strs_own hown2 rfl
    have hbw2 : Below w.heap.size w w2 := btl hb1 hb2
    have HS1 := Lib.hid hS1
    have HS2 := Lib.hid hs2
    have HW2 := Lib.hid hw2
    clear hS1 hs2 hw2 hown2
    go_wp2_with fail
    refine (eqStrs a2 a1 ws.length cap2 cap1 ws _ HS2.out (HS1.out.kept hb2) hl48).mono ?_
    rintro e w3 ⟨rfl, q3, rfl⟩
    have hw3 : StrsW (w1.heap.size + 1) (w2.drewN q3) a2 ws.length := HW2.out
    have HW3 := Lib.hid hw3
    clear hw3
    go_wp2_with fail
    refine (markStrs1 (w1.heap.size + 1) a2 ws.length cap2 _ HW3.out hl48).mono ?_
    rintro e w4 ⟨rfl, hmk⟩
    have hb4 : Below w1.heap.size w1 w4 ∧ (ws.length = 0 ∨ ∃ g, a2 = some ⟨g, 0, none⟩ ∧ g < w4.heap.size ∧ Marked w4 g ws.length 1) := by
      rcases hmk with ⟨h0, rfl⟩ | ⟨g, rfl, h1, h2, hgr, hmm⟩
      · exact ⟨belowN hb2 q3, Or.inl h0⟩
      · exact ⟨(belowN hb2 q3).grown hgr (belowN hb2 q3).size (fun k e => by cases e; omega), Or.inr ⟨g, rfl, Nat.lt_of_lt_of_le h2 hgr.size, hmm⟩⟩
    obtain ⟨hb4, hh4⟩ := hb4
    have HH4 := Lib.hid hh4
    clear hmk hh4
    go_wp2_with fail
    refine (heldStrs1 a2 ws.length cap2 _ HH4.out hl48).mono ?_
    rintro e w5 ⟨rfl, hb5⟩
    have hbw5 : Below w.heap.size w w5 := btl hb1 (hb4.trans (hb5.mono hb4.size))
    go_wp2_with fail
    refine (readI t _ c (laidL_stays hL hbw5)).mono ?_
    rintro e w6 ⟨ws6, m6, a6, cap6, rfl, hown6, -, -, hlog6, hb6⟩
    obtain ⟨rfl, rfl⟩ := log_one htl.out hlog1.out hlog6.out
    have hbw6 : Below w.heap.size w w6 := btl hbw5 hb6
    have hs6 : Strs w6 a6 ws.length ws := strs_own hown6 rfl
    have hb16 : Below w1.heap.size w1 w6 := (hb4.trans (hb5.mono hb4.size)).trans (hb6.mono (hb4.trans (hb5.mono hb4.size)).size)
    have HS6 := Lib.hid hs6
    clear hlog6 hown6 hs6
    go_wp2_with fail
    refine (eqStrs a6 a1 ws.length cap6 cap1 ws _ HS6.out (HS1.out.kept hb16) hl48).mono ?_
    rintro e w7 ⟨rfl, q7, rfl⟩
    have hh7 : ws.length = 0 ∨ ∃ g, a2 = some ⟨g, 0, none⟩ ∧ g < (w6.drewN q7).heap.size ∧ Marked (w6.drewN q7) g ws.length 1 := by
      rcases HH4.out with h | ⟨g, h1, h2, h3⟩
      · exact Or.inl h
      · have hb46 : Below w4.heap.size w4 (w6.drewN q7) := belowN (btl hb5 hb6) q7
        exact Or.inr ⟨g, h1, Nat.lt_of_lt_of_le h2 hb46.size, h3.kept h2 hb46⟩
    have HH7 := Lib.hid hh7
    clear hh7
    go_wp2_with fail
    refine (heldStrs1 a2 ws.length cap2 _ HH7.out hl48).mono ?_
    rintro e w8 ⟨rfl, hb8⟩
    go_wp2
    go_ret
    exact ⟨rfl, btl (belowN hbw6 q7) hb8⟩
end Go.Proofs.YtlfgmodpcemjaaaDoor
