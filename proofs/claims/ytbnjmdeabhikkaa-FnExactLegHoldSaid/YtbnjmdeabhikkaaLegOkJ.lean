/-
  Whether a leg's seats and what is held of it are ok, and a leg as a whole: the program's answers.
-/
import Derived.Test.YtbnjmdeabhikkaaLegOkI
import Derived.Test.YtbnjmdeabhikkaaQuiet
namespace Go.Proofs.Ytbnjmdeabhikkaa
open Go.RowKit
set_option linter.unusedVariables false
set_option linter.unusedSimpArgs false

theorem okPost_no {S : Prop} {R : World → Prop} {e : Ending} {w' : World} (he : e = .returned (.bool false)) (h : ¬ S) (hr : R w') : OkPost S R e w' := ⟨false, he, ⟨fun h => (by cases h), fun k => absurd k h⟩, hr⟩
theorem okPost_yes {S : Prop} {R : World → Prop} {e : Ending} {w' : World} (he : e = .returned (.bool true)) (h : S) (hr : R w') : OkPost S R e w' := ⟨true, he, ⟨fun _ => h, fun _ => rfl⟩, hr⟩
theorem Calls.regrown2 {P : Program} {f : FuncId} {args : Array Value} {w : World} {d : Nat} {os : Array Obj} {v : Value}
    (h : Calls P f args (Go.Sort.grow (redrawn w d) os) fun e w' => e = .returned v ∧ Go.Sort.grow (redrawn w d) os = w') : Calls P f args (Go.Sort.grow (redrawn w d) os) fun e w'' => e = .returned v ∧ ∃ p : Regrown, w'' = Go.Sort.grow (redrawn w p.d) p.os :=
  h.mono fun _ _ ⟨he, hw⟩ => ⟨he, ⟨d, os⟩, hw.symm⟩

theorem withinJ (n lo hi : Int) (w : World) :
    Calls Try.prog 85 #[.int .i64 n, .int .i64 lo, .int .i64 hi] w fun e w' => e = .returned (.bool (decide (lo ≤ n) && decide (n ≤ hi))) ∧ w = w' := (withinI n lo hi w).mono fun _ _ h => ⟨h.1, h.2.symm⟩
set_option maxHeartbeats 8000000 in
theorem seatsI (d : LegD) (p : LegP) (w : World) (h : LegIn w d p) (hf : Fits d) :
    Calls Try.prog 60 #[LegV d p] w (OkPost (SeatsOk d) (Below w.heap.size w)) := by
  have hiff : Hid (SeatsOk d ↔ ((1 ≤ d.cap ∧ d.cap ≤ 9) ∧ d.nL = 3 ∧ d.nS = 3 ∧ (∀ i, i < 3 → 0 ≤ d.S i ∧ d.S i ≤ d.cap) ∧ (1 ≤ (d.nB : Int) ∧ (d.nB : Int) ≤ 4) ∧ Falls d.B d.nB 1000000000 ∧ d.L 0 = d.cap ∧ Falls d.L 3 d.cap)) := Iff.rfl
  generalize SeatsOk d = SO at *
  obtain ⟨nm, fr, to, dep, arr, cap, nL, L, nS, S, nB, B, nH, t, c, s⟩ := d
  obtain ⟨aL, cL, aS, cS, aB, cB, aH, cH⟩ := p
  obtain ⟨-, -, -, f4, f5, f6, -⟩ := hf
  obtain ⟨hi1, hi2, hi3, hi4⟩ := h
  dsimp only at hiff f4 f5 f6 hi1 hi2 hi3
  unfold LegV
  dsimp only
  generalize hV : (#[.string nm, .string fr, .string to, .int .i64 dep, .int .i64 arr, .int .i64 cap, .slice aL nL cL, .slice aS nS cS, .slice aB nB cB, .slice aH nH cH] : Array Value) = V at *
  have hbA : Below w.heap.size w (w.alloc (.cells V 31)) := (Below.refl _ _).alloc (Nat.le_refl _) _
  have hbox : (w.alloc (.cells V 31)).heap[w.heap.size]? = some (.cells V 31 (0, 0)) := heap_alloc_new w _
  have c5 : (w.alloc (.cells V 31)).cell? ⟨w.heap.size, 5, none⟩ = some (.int .i64 cap) := by rw [Lib.cell_of_heap hbox, ← hV]; rfl
  have c6 : (w.alloc (.cells V 31)).cell? ⟨w.heap.size, 6, none⟩ = some (.slice aL nL cL) := by rw [Lib.cell_of_heap hbox, ← hV]; rfl
  have c7 : (w.alloc (.cells V 31)).cell? ⟨w.heap.size, 7, none⟩ = some (.slice aS nS cS) := by rw [Lib.cell_of_heap hbox, ← hV]; rfl
  have c8 : (w.alloc (.cells V 31)).cell? ⟨w.heap.size, 8, none⟩ = some (.slice aB nB cB) := by rw [Lib.cell_of_heap hbox, ← hV]; rfl
  have HI1 := Lib.hid (hi1.kept hbA)
  have HI2 := Lib.hid (hi2.kept hbA)
  have HI3 := Lib.hid (hi3.kept hbA)
  have HbA := Lib.hid hbA
  clear hbA hV hbox hi1 hi2 hi3 hi4
  go_enter Try.func60, Try.ntmps60
  go_wp2_with fail
  generalize w.alloc (.cells V 31) = W at *
  refine (withinJ _ _ _ _).mono ?_
  rintro e w' ⟨rfl, rfl⟩
  cases h1 : (decide ((1 : Int) ≤ cap) && decide (cap ≤ 9)) with
  | false =>
    have hno : Hid (¬ SO) := fun h => by have := (within_is h1).2 (hiff.out.1 h).1; cases this
    have H1 := Lib.hid h1
    clear h1
    go_wp2
    go_ret
    exact okPost_no rfl hno.out HbA.out
  | true =>
  have hcap := (within_is h1).1 rfl
  have H1 := Lib.hid h1
  clear h1
  by_cases e1 : nL = 3
  rotate_left
  · have hno : Hid (¬ SO) := fun h => e1 (hiff.out.1 h).2.1
    have n1 : (nL : Int) ≠ 3 := by omega
    clear e1
    go_wp2
    go_ret
    exact okPost_no rfl hno.out HbA.out
  by_cases e2 : nS = 3
  rotate_left
  · have hno : Hid (¬ SO) := fun h => e2 (hiff.out.1 h).2.2.1
    have n1 : (nS : Int) ≠ 3 := by omega
    have n2 : (nL : Int) = 3 := by omega
    subst e1
    clear e2
    go_wp2
    go_ret
    exact okPost_no rfl hno.out HbA.out
  subst e1 e2
  obtain ⟨bS, oS, rfl, hbS, hcS⟩ := HI2.out.cells (by omega)
  have HcS := Lib.hid hcS
  clear hcS HI2
  go_wp2_with fail
  go_loopw [25] (fun v wr => ∃ k : Nat, k ≤ 3 ∧ v = .int .i64 k ∧ Hid (∀ i, i < k → 0 ≤ S i ∧ S i ≤ cap) ∧ W = wr) (fun v _ => 3 - (intOf v).toNat)
  case atStart => exact ⟨0, by omega, rfl, fun i hi => absurd hi (Nat.not_lt_zero _), rfl⟩
  case round =>
    obtain ⟨k, hk, rfl, hto, hw⟩ := hrel
    subst hw
    rcases Nat.lt_or_ge k 3 with hlt | hge
    · have x1 := HcS.out k hlt
      have k1 : (k : Int) < 3 := by omega
      have k0 : (0 : Int) ≤ k := by omega
      generalize hx : S k = x at *
      have HX := Lib.hid hx
      clear hx
      go_wp2_with fail
      refine (withinJ _ _ _ _).mono ?_
      rintro e w' ⟨rfl, rfl⟩
      cases h2 : (decide ((0 : Int) ≤ x) && decide (x ≤ cap)) with
      | false =>
        have hno : Hid (¬ SO) := fun h => by
          have := (hiff.out.1 h).2.2.2.1 k hlt
          rw [HX.out] at this
          have := (within_is h2).2 this
          cases this
        have H2 := Lib.hid h2
        clear h2
        go_wp2
        go_ret
        exact okPost_no rfl hno.out HbA.out
      | true =>
        have hnx : Hid (∀ i, i < k + 1 → 0 ≤ S i ∧ S i ≤ cap) := by
          intro i hi
          rcases Nat.lt_or_ge i k with h1 | h1
          · exact hto.out i h1
          · obtain rfl : i = k := by omega
            rw [HX.out]; exact (within_is h2).1 rfl
        have H2 := Lib.hid h2
        clear h2
        go_wp2
        go_roundw
        case rel => exact ⟨k + 1, by omega, by go_num, hnx.out, (by first | rfl | trivial)⟩
        case measure => simp [intOf]; omega
    · obtain rfl : k = 3 := by omega
      have HSo := hto
      clear hto HcS
      obtain ⟨bL, oL, rfl, hbL, hcL⟩ := HI1.out.cells (by omega)
      have x0 := hcL 0 (by omega)
      have HI1' := HI1
      clear hcL
      simp only [Nat.add_zero] at x0
      have k5 := cell_regrown c5
      have k6 := cell_regrown c6
      have kx := cell_regrown x0
      have kN : ∀ dd os, Nums (Go.Sort.grow (redrawn W dd) os) (some ⟨bL, oL, none⟩) 3 L := fun dd os => HI1.out.kept (below_regrown W dd os)
      have HkN := Lib.hid kN
      clear kN HI1
      go_wp2_with fail
      refine (withinJ _ _ _ _).mono ?_
      rintro e w' ⟨rfl, rfl⟩
      cases h3 : (decide ((1 : Int) ≤ (nB : Int)) && decide ((nB : Int) ≤ 4)) with
      | false =>
        have hno : Hid (¬ SO) := fun h => by have := (within_is h3).2 (hiff.out.1 h).2.2.2.2.1; cases this
        have H3 := Lib.hid h3
        clear h3
        go_wp2_with fail
        refine regionB (by kernel_rfl) (by kernel_rfl) ?_
        repeat (refine QW.step (fun K hK => ?_); go_simp; refine hK.out _ ?_; clear hK K)
        refine QW.nil ?_
        intro _ hw'
        obtain ⟨⟨dq, osq⟩, hw''⟩ := hw'
        subst hw''
        go_wp2
        go_ret
        exact okPost_no rfl hno.out (bt HbA.out (below_regrown W dq osq))
      | true =>
      have hB4 := Lib.hid ((within_is h3).1 rfl)
      have H3 := Lib.hid h3
      clear h3
      go_wp2_with fail
      refine (fallI aB nB cB B 1000000000 W HI3.out f6).mono ?_
      rintro e w' ⟨b, rfl, hb, rfl⟩
      cases b with
      | false =>
        have hno : Hid (¬ SO) := fun h => by have := hb.out.2 (hiff.out.1 h).2.2.2.2.2.1; cases this
        go_wp2_with fail
        refine regionB (by kernel_rfl) (by kernel_rfl) ?_
        repeat (refine QW.step (fun K hK => ?_); go_simp; refine hK.out _ ?_; clear hK K)
        refine QW.nil ?_
        intro _ hw'
        obtain ⟨⟨dq, osq⟩, hw''⟩ := hw'
        subst hw''
        go_wp2
        go_ret
        exact okPost_no rfl hno.out (bt HbA.out (below_regrown W dq osq))
      | true =>
      have hFB : Hid (Falls B nB 1000000000) := hb.out.1 rfl
      clear hb
      generalize hl0 : L 0 = l0 at *
      have HL0 := Lib.hid hl0
      clear hl0
      by_cases e3 : l0 = cap
      rotate_left
      · have hno : Hid (¬ SO) := fun h => e3 (hiff.out.1 h).2.2.2.2.2.2.1
        go_wp2_with fail
        refine regionB (by kernel_rfl) (by kernel_rfl) ?_
        repeat (refine QW.step (fun K hK => ?_); go_simp; refine hK.out _ ?_; clear hK K)
        refine QW.nil ?_
        intro _ hw'
        obtain ⟨⟨dq, osq⟩, hw''⟩ := hw'
        subst hw''
        go_wp2
        go_ret
        exact okPost_no rfl hno.out (bt HbA.out (below_regrown W dq osq))
      obtain ⟨b, hb⟩ : ∃ b : Bool, b = true ↔ Falls L 3 cap := by
        by_cases hF : Falls L 3 cap
        · exact ⟨true, fun _ => hF, fun _ => rfl⟩
        · exact ⟨false, fun h => (by cases h), fun h => absurd h hF⟩
      have cF : ∀ dd os, Calls Try.prog 86 #[.slice (some ⟨bL, oL, none⟩) 3 cL, .int .i64 cap] (Go.Sort.grow (redrawn W dd) os) fun e w'' => e = .returned (.bool b) ∧ ∃ p : Regrown, w'' = Go.Sort.grow (redrawn W p.d) p.os := fun dd os => Calls.regrown2 (det (fallI (some ⟨bL, oL, none⟩) 3 cL L cap _ (HkN.out dd os) (by omega)) b hb)
      have Hb := Lib.hid hb
      clear hb
      have hSO : Hid (b = true ↔ SO) := by
        show _ ↔ _
        rw [Hb.out]
        exact ⟨fun h => hiff.out.2 ⟨hcap, (by first | rfl | trivial), (by first | rfl | trivial), HSo.out, hB4.out, hFB.out, e3, h⟩, fun h => (hiff.out.1 h).2.2.2.2.2.2.2⟩
      subst e3
      go_wp2_with fail
      refine regionB (by kernel_rfl) (by kernel_rfl) ?_
      repeat (refine QW.step (fun K hK => ?_); go_simp; first | (refine hK.out _ ?_; clear hK K) | (apply Exists.intro; refine And.intro (fun _ => ?_) (hK.out _ ?_); exact cF _ _; clear hK K))
      refine QW.nil ?_
      intro _ hw'
      obtain ⟨⟨dq, osq⟩, hw''⟩ := hw'
      subst hw''
      go_wp2
      go_ret
      exact ⟨b, rfl, hSO, bt HbA.out (below_regrown W dq osq)⟩
end Go.Proofs.Ytbnjmdeabhikkaa
