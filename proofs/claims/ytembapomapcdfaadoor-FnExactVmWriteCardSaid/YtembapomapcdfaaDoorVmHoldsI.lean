/-
  Whether a place has just what its op needs: the program's answer.
-/
import Derived.Test.YtembapomapcdfaaDoorVmTextM
import Derived.Test.YtembapomapcdfaaDoorRuleFits
namespace Go.Proofs.YtembapomapcdfaaDoor
open Go.RowKit
set_option linter.unusedVariables false
set_option linter.unusedSimpArgs false

set_option maxHeartbeats 4000000 in
theorem vmRuleI (o n : Int) (s : ByteArray) (ma : Option Addr) (m mc : Nat) (w : World) :
    Calls Tryd.prog 85 #[.agg #[.int .i64 o, .int .i64 n, .string s, .slice ma m mc]] w fun e w' => e = .returned (.agg #[.int .i64 o, .int .i64 n, .string s, .slice none 0 0, .slice ma m mc]) ∧ Below w.heap.size w w' := by
  go_enter Tryd.func85, Tryd.ntmps85
  go_wp2
  (try simp only [Exit.inBlock, Exit.then])
  refine bodyPost_ret (v := .agg #[.int .i64 o, .int .i64 n, .string s, .slice none 0 0, .slice ma m mc]) ?_ rfl ⟨rfl, ?_⟩
  · rw [results_cellM rfl]
    go_simp
  repeat first
    | exact Below.refl _ _
    | refine Below.alloc ?_ (by simp only [World.size_alloc]; omega) _
    | refine Below.alloc ?_ (Nat.le_refl _) _
    | refine Below.drew ?_
    | refine belowN ?_ _
set_option maxRecDepth 20000 in
set_option maxHeartbeats 16000000 in
theorem vmHoldsI (o n : Int) (s : ByteArray) (ma : Option Addr) (mc : Nat) (ms : List (Int × Int)) (q : Int) (w : World) (hs : s.size ≤ maxLen) (hm : MarksN All w ma ms.length ms) (hml : ms.length ≤ 1048576) :
    Calls Tryd.prog 73 #[.agg #[.int .i64 o, .int .i64 n, .string s, .slice ma ms.length mc], .int .i64 q] w (BoolP ((1 ≤ o ∧ o ≤ 11) ∧ HoldsV o n q s ms) w) := by
  have HM := Lib.hid hm
  have HML := Lib.hid hml
  have HS := Lib.hid hs
  clear hm hml hs
  have hA : Hid (Below w.heap.size w (w.alloc (.cells #[.int .i64 o, .int .i64 n, .string s, .slice ma ms.length mc] 61))) := (Below.refl w.heap.size w).alloc (Nat.le_refl _) _
  by_cases h9 : o = 9
  · have HO : Hid (o = 9 ∨ o = 11) := by refine Lib.hid ?_; omega
    have b9 : (o == 9) = true := by simp; omega
    clear h9
    cases h0 : (decide (0 ≤ n)) with
    | false =>
      have x0 := Lib.hid (by simpa using h0 : n < 0)
      go_enter Tryd.func73, Tryd.ntmps73
      go_wp2
      go_ret
      exact ⟨false, rfl, ⟨fun h => (by cases h), fun h => (by have hx := x0.out; have hh := h.2; unfold HoldsV at hh; rw [if_pos HO.out] at hh; obtain ⟨⟨a1, a2⟩, a3, a4⟩ := hh; omega)⟩, hA.out⟩
    | true =>
      have x0 := Lib.hid (by simpa using h0 : 0 ≤ n)
      cases h1 : (decide (n ≤ q)) with
      | false =>
        have x1 := Lib.hid (by simpa using h1 : q < n)
        go_enter Tryd.func73, Tryd.ntmps73
        go_wp2
        go_ret
        exact ⟨false, rfl, ⟨fun h => (by cases h), fun h => (by have hx := x1.out; have hh := h.2; unfold HoldsV at hh; rw [if_pos HO.out] at hh; obtain ⟨⟨a1, a2⟩, a3, a4⟩ := hh; omega)⟩, hA.out⟩
      | true =>
        have x1 := Lib.hid (by simpa using h1 : n ≤ q)
        cases h2 : (s.toList.isEmpty) with
        | false =>
          have x2 := Lib.hid (str_full h2)
          go_enter Tryd.func73, Tryd.ntmps73
          go_wp2
          go_ret
          exact ⟨false, rfl, ⟨fun h => (by cases h), fun h => (by have hx := x2.out; have hh := h.2; unfold HoldsV at hh; rw [if_pos HO.out] at hh; obtain ⟨⟨a1, a2⟩, a3, a4⟩ := hh; omega)⟩, hA.out⟩
        | true =>
          have x2 := Lib.hid (str_empty h2)
          cases h3 : (((ms.length : Int) == 0)) with
          | false =>
            have x3 := Lib.hid (by simpa using h3 : ms.length ≠ 0)
            go_enter Tryd.func73, Tryd.ntmps73
            go_wp2
            go_ret
            exact ⟨false, rfl, ⟨fun h => (by cases h), fun h => (by have hx := x3.out; have hh := h.2; unfold HoldsV at hh; rw [if_pos HO.out] at hh; obtain ⟨⟨a1, a2⟩, a3, a4⟩ := hh; omega)⟩, hA.out⟩
          | true =>
            have x3 := Lib.hid (by simpa using h3 : ms.length = 0)
            go_enter Tryd.func73, Tryd.ntmps73
            go_wp2
            go_ret
            exact ⟨true, rfl, ⟨fun _ => (by have y0 := x0.out; have y1 := x1.out; have y2 := x2.out; have y3 := x3.out; refine ⟨by have := HO.out; omega, ?_⟩; unfold HoldsV; rw [if_pos HO.out]; exact ⟨⟨y0, y1⟩, y2, y3⟩), fun _ => rfl⟩, hA.out⟩
  by_cases h11 : o = 11
  · have HO : Hid (o = 9 ∨ o = 11) := by refine Lib.hid ?_; omega
    have b9 : (o == 9) = false := by simp; omega
    have b11 : (o == 11) = true := by simp; omega
    clear h9 h11
    cases h0 : (decide (0 ≤ n)) with
    | false =>
      have x0 := Lib.hid (by simpa using h0 : n < 0)
      go_enter Tryd.func73, Tryd.ntmps73
      go_wp2
      go_ret
      exact ⟨false, rfl, ⟨fun h => (by cases h), fun h => (by have hx := x0.out; have hh := h.2; unfold HoldsV at hh; rw [if_pos HO.out] at hh; obtain ⟨⟨a1, a2⟩, a3, a4⟩ := hh; omega)⟩, hA.out⟩
    | true =>
      have x0 := Lib.hid (by simpa using h0 : 0 ≤ n)
      cases h1 : (decide (n ≤ q)) with
      | false =>
        have x1 := Lib.hid (by simpa using h1 : q < n)
        go_enter Tryd.func73, Tryd.ntmps73
        go_wp2
        go_ret
        exact ⟨false, rfl, ⟨fun h => (by cases h), fun h => (by have hx := x1.out; have hh := h.2; unfold HoldsV at hh; rw [if_pos HO.out] at hh; obtain ⟨⟨a1, a2⟩, a3, a4⟩ := hh; omega)⟩, hA.out⟩
      | true =>
        have x1 := Lib.hid (by simpa using h1 : n ≤ q)
        cases h2 : (s.toList.isEmpty) with
        | false =>
          have x2 := Lib.hid (str_full h2)
          go_enter Tryd.func73, Tryd.ntmps73
          go_wp2
          go_ret
          exact ⟨false, rfl, ⟨fun h => (by cases h), fun h => (by have hx := x2.out; have hh := h.2; unfold HoldsV at hh; rw [if_pos HO.out] at hh; obtain ⟨⟨a1, a2⟩, a3, a4⟩ := hh; omega)⟩, hA.out⟩
        | true =>
          have x2 := Lib.hid (str_empty h2)
          cases h3 : (((ms.length : Int) == 0)) with
          | false =>
            have x3 := Lib.hid (by simpa using h3 : ms.length ≠ 0)
            go_enter Tryd.func73, Tryd.ntmps73
            go_wp2
            go_ret
            exact ⟨false, rfl, ⟨fun h => (by cases h), fun h => (by have hx := x3.out; have hh := h.2; unfold HoldsV at hh; rw [if_pos HO.out] at hh; obtain ⟨⟨a1, a2⟩, a3, a4⟩ := hh; omega)⟩, hA.out⟩
          | true =>
            have x3 := Lib.hid (by simpa using h3 : ms.length = 0)
            go_enter Tryd.func73, Tryd.ntmps73
            go_wp2
            go_ret
            exact ⟨true, rfl, ⟨fun _ => (by have y0 := x0.out; have y1 := x1.out; have y2 := x2.out; have y3 := x3.out; refine ⟨by have := HO.out; omega, ?_⟩; unfold HoldsV; rw [if_pos HO.out]; exact ⟨⟨y0, y1⟩, y2, y3⟩), fun _ => rfl⟩, hA.out⟩
  have b9 : (o == 9) = false := by simpa using h9
  have b11 : (o == 11) = false := by simpa using h11
  have HNO : Hid (¬ (o = 9 ∨ o = 11)) := by refine Lib.hid ?_; omega
  have hArg : (w.alloc (.cells #[.int .i64 o, .int .i64 n, .string s, .slice ma ms.length mc] 61)).heap[w.heap.size]? = some (.cells #[.int .i64 o, .int .i64 n, .string s, .slice ma ms.length mc] 61 (0, 0)) := heap_alloc_new w _
  have HArg := Lib.hid hArg
  clear hArg h9 h11
  by_cases hop : 1 ≤ o ∧ o ≤ 10
  · have Hop := Lib.hid hop
    clear hop
    go_enter Tryd.func73, Tryd.ntmps73
    go_wp2_with fail
    generalize (w.alloc (.cells #[.int .i64 o, .int .i64 n, .string s, .slice ma ms.length mc] 61)) = W0 at *
    have sz0 : w.heap.size < W0.heap.size := (Array.getElem?_eq_some_iff.1 HArg.out).1
    refine (opOf o W0 Hop.out).mono ?_
    rintro e w2 ⟨rfl, d2⟩
    have HB2 := Lib.hid (hA.out.trans (d2.mono hA.out.size))
    have hA2 := Lib.hid ((d2.block _ sz0).trans HArg.out)
    clear d2
    have qn : ∀ w : World, (binOp .neq 83 (.iface (opT o) (.agg #[])) .nilIface).run Tryd.prog w = .ok (.bool true) w := fun w => rfl
    have mh := fun W => meth_holds o Hop.out W
    have nh := fun W => nil_holds o Hop.out W
    have fh := fun a W => call_holds o Hop.out a W
    have cR : ∀ dd os, Calls Tryd.prog 85 #[.agg #[.int .i64 o, .int .i64 n, .string s, .slice ma ms.length mc]] (Go.Sort.grow (redrawn w2 dd) os) fun e w'' => e = .returned (.agg #[.int .i64 o, .int .i64 n, .string s, .slice none 0 0, .slice ma ms.length mc]) ∧ ∃ p : Regrown, w'' = Go.Sort.grow (redrawn w2 p.d) p.os := fun dd os => Calls.regrown_of (vmRuleI o n s ma ms.length mc _)
    have HM2 : Hid (∀ W, Below w2.heap.size w2 W → MarksN All W ma ms.length ms) := fun W hW => (HM.out.kept ((same_of_below HB2.out).trans (same_of_below hW)))
    have cH : ∀ dd os, Calls Tryd.prog (holdsF o) #[.agg #[], .agg #[.int .i64 o, .int .i64 n, .string s, .slice none 0 0, .slice ma ms.length mc]] (Go.Sort.grow (redrawn w2 dd) os) fun e w'' => e = .returned (.bool (decide (HoldsN o n s ms))) ∧ ∃ p : Regrown, w'' = Go.Sort.grow (redrawn w2 p.d) p.os := fun dd os => Calls.regrown_of ((holdsI o n s none ma 0 0 mc ms _ Hop.out HS.out (HM2.out _ (below_regrown w2 dd os)) HML.out).mono fun e w' ⟨b, h1, h2, h3⟩ => ⟨by rw [h1, show b = decide (HoldsN o n s ms) from by have := h2.out; cases b <;> simp_all], h3⟩)
    have z0 : w2.cell? ⟨w.heap.size, 0, none⟩ = some (Value.int .i64 o) := by rw [Lib.cell_of_heap hA2.out]; rfl
    have z1' : w2.cell? ⟨w.heap.size, 1, none⟩ = some (Value.int .i64 n) := by rw [Lib.cell_of_heap hA2.out]; rfl
    have z2' : w2.cell? ⟨w.heap.size, 2, none⟩ = some (Value.string s) := by rw [Lib.cell_of_heap hA2.out]; rfl
    have z3' : w2.cell? ⟨w.heap.size, 3, none⟩ = some (Value.slice ma ms.length mc) := by rw [Lib.cell_of_heap hA2.out]; rfl
    have y0 := cell_regrown z0
    have y1 := cell_regrown z1'
    have y2 := cell_regrown z2'
    have y3 := cell_regrown z3'
    have HPP : Hid ((decide (HoldsN o n s ms) = true) ↔ ((1 ≤ o ∧ o ≤ 11) ∧ HoldsV o n q s ms)) := by
      refine Lib.hid ?_
      rw [decide_eq_true_iff]
      unfold HoldsV
      rw [if_neg HNO.out]
      exact ⟨fun h => ⟨by have := Hop.out; omega, h⟩, fun h => h.2⟩
    generalize hhd : decide (HoldsN o n s ms) = hd2 at *
    clear hhd z0 z1' z2' z3'
    go_wp2_with fail
    refine wp_region_quiet_below (by kernel_rfl) (by kernel_rfl) ?_
    repeat (quiet_step (first | exact cR _ _ | exact cH _ _))
    refine wpQuiet_nil ?_
    intro _ hw'
    obtain ⟨⟨dq, osq⟩, hw''⟩ := hw'
    subst hw''
    go_wp2
    go_ret
    exact ⟨hd2, rfl, HPP, HB2.out.trans ((below_regrown w2 dq osq).mono HB2.out.size)⟩
  · have HN : Hid (¬ ((1 ≤ o ∧ o ≤ 11) ∧ HoldsV o n q s ms)) := fun h => by have h1 := h.1; have h2 := HNO.out; omega
    have Hop := Lib.hid hop
    clear hop
    go_enter Tryd.func73, Tryd.ntmps73
    go_wp2_with fail
    generalize (w.alloc (.cells #[.int .i64 o, .int .i64 n, .string s, .slice ma ms.length mc] 61)) = W0 at *
    refine (opNone o W0 Hop.out).mono ?_
    rintro e w2 ⟨rfl, d2⟩
    have HB2 := Lib.hid (hA.out.trans (d2.mono hA.out.size))
    have qn : ∀ w : World, (binOp .neq 83 .nilIface .nilIface).run Tryd.prog w = .ok (.bool false) w := fun w => rfl
    clear d2
    go_wp2_with fail
    go_quiet (fail)
    go_wp2
    go_ret
    exact ⟨false, rfl, ⟨fun h => (by cases h), fun h => absurd h HN.out⟩, HB2.out.trans (belowN (Below.refl _ _) _)⟩
end Go.Proofs.YtembapomapcdfaaDoor
