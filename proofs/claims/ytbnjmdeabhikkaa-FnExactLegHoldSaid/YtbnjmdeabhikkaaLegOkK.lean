/-
  Whether what is held of a leg is ok, and whether a leg is ok as a whole: the program's answers.
-/
import Derived.Test.YtbnjmdeabhikkaaLegOkJ
namespace Go.Proofs.Ytbnjmdeabhikkaa
open Go.RowKit
set_option linter.unusedVariables false
set_option linter.unusedSimpArgs false

set_option maxHeartbeats 1000000 in
theorem classI (c : Int) (w : World) :
    Calls Try.prog 67 #[.int .i64 c] w fun e w' => e = .returned (.bool (decide ((0 : Int) ≤ c) && decide (c ≤ 2))) ∧ w = w' := by
  go_enter Try.func67, Try.ntmps67
  go_wp2_with fail
  refine (withinJ _ _ _ _).mono ?_
  rintro e w' ⟨rfl, rfl⟩
  generalize hb : (decide ((0 : Int) ≤ c) && decide (c ≤ 2)) = b
  have Hb := Lib.hid hb
  clear hb
  go_wp2
  go_ret
  exact ⟨retB Hb.out.symm, rfl⟩

set_option maxHeartbeats 2000000 in
theorem hold1I (t c s cap : Int) (w : World) (hc : 1 ≤ cap) (hc9 : cap ≤ 9) :
    Calls Try.prog 76 #[.agg #[.int .i64 t, .int .i64 c, .int .i64 s], .int .i64 cap] w (OkPost (Hold1 t c s cap) (Below w.heap.size w)) := by
  have hbA : Below w.heap.size w (w.alloc (.cells #[.int .i64 t, .int .i64 c, .int .i64 s] 35)) := (Below.refl _ _).alloc (Nat.le_refl _) _
  have HbA := Lib.hid hbA
  have hiff : Hid (Hold1 t c s cap ↔ ((1 ≤ t ∧ t ≤ 99) ∧ (0 ≤ c ∧ c ≤ 2) ∧ (-cap ≤ s ∧ s ≤ cap) ∧ s ≠ 0)) := Iff.rfl
  generalize Hold1 t c s cap = HO at *
  clear hbA
  go_enter Try.func76, Try.ntmps76
  go_wp2_with fail
  refine (withinJ _ _ _ _).mono ?_
  rintro e w' ⟨rfl, rfl⟩
  cases h1 : (decide ((1 : Int) ≤ t) && decide (t ≤ 99)) with
  | false =>
    have hno : Hid (¬ HO) := fun h => by have := (within_is h1).2 (hiff.out.1 h).1; cases this
    have H1 := Lib.hid h1
    clear h1
    go_wp2
    go_ret
    exact okPost_no rfl hno.out HbA.out
  | true =>
  have ht := Lib.hid ((within_is h1).1 rfl)
  have H1 := Lib.hid h1
  clear h1
  go_wp2_with fail
  refine (classI _ _).mono ?_
  rintro e w' ⟨rfl, rfl⟩
  cases h2 : (decide ((0 : Int) ≤ c) && decide (c ≤ 2)) with
  | false =>
    have hno : Hid (¬ HO) := fun h => by have := (within_is h2).2 (hiff.out.1 h).2.1; cases this
    have H2 := Lib.hid h2
    clear h2
    go_wp2
    go_ret
    exact okPost_no rfl hno.out HbA.out
  | true =>
  have hcl := Lib.hid ((within_is h2).1 rfl)
  have H2 := Lib.hid h2
  clear h2
  go_wp2_with fail
  refine (withinJ _ _ _ _).mono ?_
  rintro e w' ⟨rfl, rfl⟩
  cases h3 : (decide (-cap ≤ s) && decide (s ≤ cap)) with
  | false =>
    have hno : Hid (¬ HO) := fun h => by have := (within_is h3).2 (hiff.out.1 h).2.2.1; cases this
    have H3 := Lib.hid h3
    clear h3
    go_wp2
    go_ret
    exact okPost_no rfl hno.out HbA.out
  | true =>
  have hsb := Lib.hid ((within_is h3).1 rfl)
  have H3 := Lib.hid h3
  clear h3
  by_cases hs0 : s = 0
  · have hno : Hid (¬ HO) := fun h => (hiff.out.1 h).2.2.2 hs0
    subst hs0
    go_wp2
    go_ret
    exact okPost_no rfl hno.out HbA.out
  · have hyes : Hid HO := hiff.out.2 ⟨ht.out, hcl.out, hsb.out, hs0⟩
    go_wp2
    go_ret
    exact okPost_yes (retB (by simpa using hs0)) hyes.out HbA.out

set_option maxHeartbeats 4000000 in
theorem holdsI (d : LegD) (p : LegP) (w : World) (h : LegIn w d p) (hf : Fits d) (hc : 1 ≤ d.cap) (hc9 : d.cap ≤ 9) :
    Calls Try.prog 61 #[LegV d p] w (OkPost (HoldsOk d) (Below w.heap.size w)) := by
  have hiff : Hid (HoldsOk d ↔ (d.nH ≤ 6 ∧ ∀ i, i < d.nH → Hold1 (d.t i) (d.c i) (d.s i) d.cap ∧ (if i = 0 then 0 else d.t (i - 1)) < d.t i)) := Iff.rfl
  generalize HoldsOk d = HO at *
  obtain ⟨nm, fr, to, dep, arr, cap, nL, L, nS, S, nB, B, nH, t, c, s⟩ := d
  obtain ⟨aL, cL, aS, cS, aB, cB, aH, cH⟩ := p
  obtain ⟨-, -, -, -, -, -, f7⟩ := hf
  obtain ⟨hi1, hi2, hi3, hi4⟩ := h
  dsimp only at hiff f7 hi4 hc hc9
  unfold LegV
  dsimp only
  generalize hV : (#[.string nm, .string fr, .string to, .int .i64 dep, .int .i64 arr, .int .i64 cap, .slice aL nL cL, .slice aS nS cS, .slice aB nB cB, .slice aH nH cH] : Array Value) = V at *
  have hbA : Below w.heap.size w (w.alloc (.cells V 31)) := (Below.refl _ _).alloc (Nat.le_refl _) _
  have hbox : (w.alloc (.cells V 31)).heap[w.heap.size]? = some (.cells V 31 (0, 0)) := heap_alloc_new w _
  have c5 : (w.alloc (.cells V 31)).cell? ⟨w.heap.size, 5, none⟩ = some (.int .i64 cap) := by rw [Lib.cell_of_heap hbox, ← hV]; rfl
  have c9 : (w.alloc (.cells V 31)).cell? ⟨w.heap.size, 9, none⟩ = some (.slice aH nH cH) := by rw [Lib.cell_of_heap hbox, ← hV]; rfl
  have sA : w.heap.size < (w.alloc (.cells V 31)).heap.size := by simp
  have HI4 := Lib.hid (hi4.kept hbA)
  have HbA := Lib.hid hbA
  clear hbA hV hbox hi1 hi2 hi3 hi4
  go_enter Try.func61, Try.ntmps61
  rcases Nat.lt_or_ge 6 nH with h6 | h6
  · have hno : Hid (¬ HO) := fun h => by have := (hiff.out.1 h).1; omega
    have h6' : (6 : Int) < nH := by omega
    go_wp2
    go_ret
    exact okPost_no rfl hno.out HbA.out
  have h6' : (nH : Int) ≤ 6 := by omega
  go_wp2_with fail
  generalize w.alloc (.cells V 31) = W at *
  go_loopw [3, 13] (fun m v wr => ∃ k : Nat, k ≤ nH ∧ m = .int .i64 (if k = 0 then 0 else t (k - 1)) ∧ v = .int .i64 k ∧ Hid (∀ i, i < k → Hold1 (t i) (c i) (s i) cap ∧ (if i = 0 then 0 else t (i - 1)) < t i) ∧ Below W.heap.size W wr) (fun _ v _ => nH - (intOf v).toNat)
  case atStart => exact ⟨0, Nat.zero_le _, rfl, rfl, fun i hi => absurd hi (Nat.not_lt_zero _), Below.refl _ _⟩
  case round =>
    obtain ⟨k, hk, rfl, rfl, hto, hb⟩ := hrel
    generalize hm : (if k = 0 then 0 else t (k - 1)) = m at *
    have HM := Lib.hid hm
    clear hm
    rcases Nat.lt_or_ge k nH with hlt | hge
    · obtain ⟨bH, oH, rfl, hbH, hcH⟩ := HI4.out.cells (by omega)
      have hbHr : bH < wr.heap.size := Nat.lt_of_lt_of_le hbH hb.size
      have c1 := cell_kept hb hbH (hcH k hlt).1
      have c2 := cell_kept hb hbH (hcH k hlt).2.1
      have c3 := cell_kept hb hbH (hcH k hlt).2.2
      have k1 : (k : Int) < nH := by omega
      have k0 : (0 : Int) ≤ k := by omega
      generalize hx1 : t k = x1 at *
      generalize hx2 : c k = x2 at *
      generalize hx3 : s k = x3 at *
      have H1 := Lib.hid hx1
      have H2 := Lib.hid hx2
      have H3 := Lib.hid hx3
      clear hcH hx1 hx2 hx3
      have q5 := cell_kept (hb.trans ((holdBelow wr x1 x2 x3).mono hb.size)) sA c5
      have hbox := holdBox wr x1 x2 x3
      obtain ⟨d0, d1, d2⟩ := row3 hbox
      have hb2 := bt hb (holdBelow wr x1 x2 x3)
      go_wp2_with (first
        | (refine wpList_store_row rfl 35 _ _ rfl wr.heap.size #[.int .i64 x1, .int .i64 x2, .int .i64 x3] rfl rfl 35 #[.int .i64 0, .int .i64 0, .int .i64 0] (heap_alloc_new wr _) holdSize rfl (hold_one x1 x2 x3) ?_)
        | fail)
      generalize (wr.alloc (.cells #[.int .i64 0, .int .i64 0, .int .i64 0] 35)).setRow wr.heap.size #[.int .i64 x1, .int .i64 x2, .int .i64 x3] = W5 at *
      refine (hold1I x1 x2 x3 cap W5 hc hc9).mono ?_
      rintro e w6 ⟨b, rfl, hh, hb6⟩
      have hb7 := bt hb2 hb6
      cases b with
      | false =>
        have hno : Hid (¬ HO) := fun h => by
          have := ((hiff.out.1 h).2 k hlt).1
          rw [H1.out, H2.out, H3.out] at this
          have := hh.out.2 this
          cases this
        go_wp2
        go_ret
        exact okPost_no rfl hno.out (bt HbA.out hb7)
      | true =>
      have hh1 : Hid (Hold1 x1 x2 x3 cap) := hh.out.1 rfl
      clear hh
      obtain ⟨e0, e1, e2⟩ := row3 ((hb6.block _ (lt_heap hbox)).trans hbox)
      rcases Int.lt_or_le m x1 with hlt2 | hge2
      · have hnx : Hid (∀ i, i < k + 1 → Hold1 (t i) (c i) (s i) cap ∧ (if i = 0 then 0 else t (i - 1)) < t i) := by
          intro i hi
          rcases Nat.lt_or_ge i k with h1 | h1
          · exact hto.out i h1
          · obtain rfl : i = k := by omega
            rw [HM.out, H1.out, H2.out, H3.out]; exact ⟨hh1.out, hlt2⟩
        go_wp2
        go_roundw
        case rel => exact ⟨k + 1, by omega, by simp [H1.out], by go_num, hnx.out, hb7⟩
        case measure => simp [intOf]; omega
      · have hno : Hid (¬ HO) := fun h => by
          have := ((hiff.out.1 h).2 k hlt).2
          rw [HM.out, H1.out] at this
          omega
        go_wp2
        go_ret
        exact okPost_no rfl hno.out (bt HbA.out hb7)
    · obtain rfl : k = nH := by omega
      have hyes : Hid HO := hiff.out.2 ⟨h6, hto.out⟩
      go_wp2
      go_ret
      exact okPost_yes rfl hyes.out (bt HbA.out hb)
end Go.Proofs.Ytbnjmdeabhikkaa
