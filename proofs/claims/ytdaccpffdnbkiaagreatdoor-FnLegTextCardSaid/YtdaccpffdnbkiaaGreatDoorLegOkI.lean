/-
  Whether a leg is ok: in plain words, and the program's answer.
  Whether a leg's seats and what is held of it are ok, and a leg as a whole: the program's answers.
  Whether what is held of a leg is ok, and whether a leg is ok as a whole: the program's answers.
  Whether a leg is ok: the program's answer.
-/
import Derived.Test.YtdaccpffdnbkiaaGreatDoorLegFits
import Derived.Lib.QuietBelow
import Derived.Lib.Strings
import Derived.Test.YtdaccpffdnbkiaaGreatDoorQuiet
namespace Go.Proofs.YtdaccpffdnbkiaaGreatDoor
open Go.RowKit
set_option linter.unusedVariables false
set_option linter.unusedSimpArgs false

def WayOk (d : LegD) : Prop := nameB d.name.data.toList = true ∧ nameB d.fr.data.toList = true ∧ nameB d.to.data.toList = true ∧ d.fr ≠ d.to ∧ (0 ≤ d.dep ∧ d.dep ≤ 9999) ∧ (d.dep + 1 ≤ d.arr ∧ d.arr ≤ 9999)
def Falls (z : Nat → Int) (n : Nat) (most : Int) : Prop := ∀ i, i < n → 0 ≤ z i ∧ z i ≤ (if i = 0 then most else z (i - 1))
def SeatsOk (d : LegD) : Prop := (1 ≤ d.cap ∧ d.cap ≤ 9) ∧ d.nL = 3 ∧ d.nS = 3 ∧ (∀ i, i < 3 → 0 ≤ d.S i ∧ d.S i ≤ d.cap) ∧ (1 ≤ (d.nB : Int) ∧ (d.nB : Int) ≤ 4) ∧ Falls d.B d.nB 1000000000 ∧ d.L 0 = d.cap ∧ Falls d.L 3 d.cap
def Hold1 (t c s cap : Int) : Prop := (1 ≤ t ∧ t ≤ 99) ∧ (0 ≤ c ∧ c ≤ 2) ∧ (-cap ≤ s ∧ s ≤ cap) ∧ s ≠ 0
def HoldsOk (d : LegD) : Prop := d.nH ≤ 6 ∧ ∀ i, i < d.nH → Hold1 (d.t i) (d.c i) (d.s i) d.cap ∧ (if i = 0 then 0 else d.t (i - 1)) < d.t i
def OkLeg (d : LegD) : Prop := WayOk d ∧ SeatsOk d ∧ HoldsOk d ∧ FitsOk d
theorem falls_top {z : Nat → Int} {n : Nat} {most : Int} (h : Falls z n most) : ∀ i, i < n → 0 ≤ z i ∧ z i ≤ most
  | 0, hi => by have := h 0 hi; simpa using this
  | i + 1, hi => by
    have ih := falls_top h i (by omega)
    have := h (i + 1) hi
    simp at this; omega
theorem SeatsOk.lim {d : LegD} (h : SeatsOk d) : LimOk d := ⟨h.2.1, fun i hi => by have := falls_top h.2.2.2.2.2.2.2 i hi; have := h.1; omega⟩
theorem SeatsOk.sold {d : LegD} (h : SeatsOk d) : SoldOk d := ⟨h.2.2.1, fun i hi => by have := h.2.2.2.1 i hi; have := h.1; omega⟩
theorem held_of {d : LegD} (h : SeatsOk d) (k : HoldsOk d) : HeldOk d := ⟨k.1, fun i hi => by have h1 := (k.2 i hi).1.2.2.1; have := h.1; omega⟩
def OkPost (S : Prop) (R : World → Prop) (e : Ending) (w' : World) : Prop := ∃ b : Bool, e = .returned (.bool b) ∧ Hid (b = true ↔ S) ∧ R w'
theorem det {P : Program} {f : FuncId} {args : Array Value} {w : World} {R : World → Prop} {S : Prop} (h : Calls P f args w (OkPost S R)) (b : Bool) (hb : b = true ↔ S) : Calls P f args w fun e w' => e = .returned (.bool b) ∧ R w' :=
  h.mono fun e w' ⟨b', h1, h2, h3⟩ => by
    have : b' = b := by
      cases b with
      | true => exact h2.out.2 (hb.1 rfl)
      | false =>
        cases b' with
        | false => rfl
        | true => have := hb.2 (h2.out.1 rfl); cases this
    subst this
    exact ⟨h1, h3⟩

set_option maxHeartbeats 400000 in
theorem withinI (n lo hi : Int) (w : World) :
    Calls Tryz.prog 66 #[.int .i64 n, .int .i64 lo, .int .i64 hi] w fun e w' => e = .returned (.bool (decide (lo ≤ n) && decide (n ≤ hi))) ∧ w' = w := by
  by_cases h1 : n < lo
  · go_enter Tryz.func66, Tryz.ntmps66
    go_wp2
    go_ret
    exact ⟨retB (by simp; omega), rfl⟩
  · go_enter Tryz.func66, Tryz.ntmps66
    go_wp2
    go_ret
    exact ⟨retB (by simp; try omega), rfl⟩
theorem within_is {n lo hi : Int} {b : Bool} (h : (decide (lo ≤ n) && decide (n ≤ hi)) = b) : b = true ↔ (lo ≤ n ∧ n ≤ hi) := by
  subst h; simp

set_option maxHeartbeats 1000000 in
theorem fallI (a : Option Addr) (len cap : Nat) (z : Nat → Int) (most : Int) (w : World) (h : Nums w a len z) (hl : len ≤ 1048576) :
    Calls Tryz.prog 67 #[.slice a len cap, .int .i64 most] w (OkPost (Falls z len most) (fun w' => w = w')) := by
  have H := Lib.hid h
  clear h
  go_enter Tryz.func67, Tryz.ntmps67
  go_wp2_with fail
  go_loopw [1, 9] (fun m v wr => ∃ k : Nat, k ≤ len ∧ m = .int .i64 (if k = 0 then most else z (k - 1)) ∧ v = .int .i64 k ∧ Hid (∀ i, i < k → 0 ≤ z i ∧ z i ≤ (if i = 0 then most else z (i - 1))) ∧ w = wr) (fun _ v _ => len - (intOf v).toNat)
  case atStart => exact ⟨0, Nat.zero_le _, rfl, rfl, fun i hi => absurd hi (Nat.not_lt_zero _), rfl⟩
  case round =>
    obtain ⟨k, hk, rfl, rfl, hto, hw⟩ := hrel
    subst hw
    rcases Nat.lt_or_ge k len with hlt | hge
    · obtain ⟨b, off, rfl, hbl, hc⟩ := H.out.cells (by omega)
      have c1 := hc k hlt
      have k1 : (k : Int) < len := by omega
      have k0 : (0 : Int) ≤ k := by omega
      have HM : Hid ((if k = 0 then most else z (k - 1)) = (if k = 0 then most else z (k - 1))) := rfl
      generalize hm : (if k = 0 then most else z (k - 1)) = m at *
      have HM2 := Lib.hid hm
      generalize hx : z k = x at *
      have HX := Lib.hid hx
      clear hc hm hx HM
      go_wp2_with fail
      refine (withinI _ _ _ _).mono ?_
      rintro e w' ⟨rfl, rfl⟩
      cases hb : (decide ((0 : Int) ≤ x) && decide (x ≤ m)) with
      | false =>
        have hno : Hid (¬ Falls z len most) := fun hF => by
          have := hF k hlt
          rw [HX.out, HM2.out] at this
          have h2 := (within_is hb).2 this
          cases h2
        have Hb := Lib.hid hb
        clear hb
        go_wp2
        go_ret
        exact ⟨false, rfl, ⟨fun h => (by cases h), fun h => absurd h hno.out⟩, rfl⟩
      | true =>
        have hnx : Hid (∀ i, i < k + 1 → 0 ≤ z i ∧ z i ≤ (if i = 0 then most else z (i - 1))) := by
          intro i hi
          rcases Nat.lt_or_ge i k with h1 | h1
          · exact hto.out i h1
          · obtain rfl : i = k := by omega
            rw [HX.out, HM2.out]; exact (within_is hb).1 rfl
        have Hb := Lib.hid hb
        clear hb
        go_wp2
        go_roundw
        case rel => exact ⟨k + 1, by omega, by simp [HX.out], by go_num, hnx.out, (by first | rfl | trivial)⟩
        case measure => simp [intOf]; omega
    · obtain rfl : k = len := by omega
      generalize (if k = 0 then most else z (k - 1)) = m at *
      go_wp2
      go_ret
      exact ⟨true, rfl, ⟨fun _ => hto.out, fun _ => rfl⟩, rfl⟩

theorem str_eq {a b : ByteArray} (h : a = b) : (a.toList == b.toList) = true := by rw [h]; simp
theorem str_neq {a b : ByteArray} (h : ¬ a = b) : (a.toList == b.toList) = false := by
  rw [beq_eq_false_iff_ne]
  intro e
  rw [Lib.toList_data, Lib.toList_data] at e
  exact h (ByteArray.ext (Array.ext' e))

set_option maxHeartbeats 4000000 in
theorem wayI (d : LegD) (p : LegP) (w : World) (hf : Fits d) :
    Calls Tryz.prog 38 #[LegV d p] w (OkPost (WayOk d) (Below w.heap.size w)) := by
  have hiff : Hid (WayOk d ↔ (nameB d.name.data.toList = true ∧ nameB d.fr.data.toList = true ∧ nameB d.to.data.toList = true ∧ d.fr ≠ d.to ∧ (0 ≤ d.dep ∧ d.dep ≤ 9999) ∧ (d.dep + 1 ≤ d.arr ∧ d.arr ≤ 9999))) := Iff.rfl
  generalize WayOk d = WO at *
  obtain ⟨nm, fr, to, dep, arr, cap, nL, L, nS, S, nB, B, nH, t, c, s⟩ := d
  obtain ⟨aL, cL, aS, cS, aB, cB, aH, cH⟩ := p
  obtain ⟨f1, f2, f3, -, -, -, -⟩ := hf
  dsimp only at hiff f1 f2 f3
  unfold LegV
  dsimp only
  have hbA : Below w.heap.size w (w.alloc (.cells #[.string nm, .string fr, .string to, .int .i64 dep, .int .i64 arr, .int .i64 cap, .slice aL nL cL, .slice aS nS cS, .slice aB nB cB, .slice aH nH cH] 25)) := (Below.refl _ _).alloc (Nat.le_refl _) _
  have HbA := Lib.hid hbA
  clear hbA
  go_enter Tryz.func38, Tryz.ntmps38
  go_wp2_with fail
  refine (implName nm _ (by unfold maxLen; omega)).mono ?_
  rintro e w' ⟨rfl, rfl⟩
  cases h1 : nameB nm.data.toList with
  | false =>
    have hno : Hid (¬ WO) := fun h => by have := (hiff.out.1 h).1; rw [h1] at this; cases this
    have H1 := Lib.hid h1
    clear h1
    go_wp2
    go_ret
    exact ⟨false, rfl, ⟨fun h => (by cases h), fun h => absurd h hno.out⟩, HbA.out⟩
  | true =>
  have H1 := Lib.hid h1
  clear h1
  go_wp2_with fail
  refine (implName fr _ (by unfold maxLen; omega)).mono ?_
  rintro e w' ⟨rfl, rfl⟩
  cases h2 : nameB fr.data.toList with
  | false =>
    have hno : Hid (¬ WO) := fun h => by have := (hiff.out.1 h).2.1; rw [h2] at this; cases this
    have H2 := Lib.hid h2
    clear h2
    go_wp2
    go_ret
    exact ⟨false, rfl, ⟨fun h => (by cases h), fun h => absurd h hno.out⟩, HbA.out⟩
  | true =>
  have H2 := Lib.hid h2
  clear h2
  go_wp2_with fail
  refine (implName to _ (by unfold maxLen; omega)).mono ?_
  rintro e w' ⟨rfl, rfl⟩
  cases h3 : nameB to.data.toList with
  | false =>
    have hno : Hid (¬ WO) := fun h => by have := (hiff.out.1 h).2.2.1; rw [h3] at this; cases this
    have H3 := Lib.hid h3
    clear h3
    go_wp2
    go_ret
    exact ⟨false, rfl, ⟨fun h => (by cases h), fun h => absurd h hno.out⟩, HbA.out⟩
  | true =>
  have H3 := Lib.hid h3
  clear h3
  by_cases he : fr = to
  · have hno : Hid (¬ WO) := fun h => (hiff.out.1 h).2.2.2.1 he
    have g0 := str_eq he
    clear he
    go_wp2
    go_ret
    exact ⟨false, rfl, ⟨fun h => (by cases h), fun h => absurd h hno.out⟩, HbA.out⟩
  have g0 := str_neq he
  have He := Lib.hid he
  clear he
  go_wp2_with fail
  refine (withinI _ _ _ _).mono ?_
  rintro e w' ⟨rfl, rfl⟩
  cases h4 : (decide ((0 : Int) ≤ dep) && decide (dep ≤ 9999)) with
  | false =>
    have hno : Hid (¬ WO) := fun h => by have := (within_is h4).2 (hiff.out.1 h).2.2.2.2.1; cases this
    have H4 := Lib.hid h4
    clear h4
    go_wp2
    go_ret
    exact ⟨false, rfl, ⟨fun h => (by cases h), fun h => absurd h hno.out⟩, HbA.out⟩
  | true =>
  have hd := (within_is h4).1 rfl
  have H4 := Lib.hid h4
  clear h4
  go_wp2_with fail
  refine (withinI _ _ _ _).mono ?_
  rintro e w' ⟨rfl, rfl⟩
  cases h5 : (decide (dep + 1 ≤ arr) && decide (arr ≤ 9999)) with
  | false =>
    have hno : Hid (¬ WO) := fun h => by have := (within_is h5).2 (hiff.out.1 h).2.2.2.2.2; cases this
    have H5 := Lib.hid h5
    clear h5
    go_wp2
    go_ret
    exact ⟨false, rfl, ⟨fun h => (by cases h), fun h => absurd h hno.out⟩, HbA.out⟩
  | true =>
  have hyes : Hid WO := hiff.out.2 ⟨H1.out, H2.out, H3.out, He.out, hd, (within_is h5).1 rfl⟩
  have H5 := Lib.hid h5
  clear h5
  go_wp2
  go_ret
  exact ⟨true, rfl, ⟨fun _ => hyes.out, fun _ => rfl⟩, HbA.out⟩
end Go.Proofs.YtdaccpffdnbkiaaGreatDoor

namespace Go.Proofs.YtdaccpffdnbkiaaGreatDoor
open Go.RowKit
set_option linter.unusedVariables false
set_option linter.unusedSimpArgs false

theorem okPost_no {S : Prop} {R : World → Prop} {e : Ending} {w' : World} (he : e = .returned (.bool false)) (h : ¬ S) (hr : R w') : OkPost S R e w' := ⟨false, he, ⟨fun h => (by cases h), fun k => absurd k h⟩, hr⟩
theorem okPost_yes {S : Prop} {R : World → Prop} {e : Ending} {w' : World} (he : e = .returned (.bool true)) (h : S) (hr : R w') : OkPost S R e w' := ⟨true, he, ⟨fun _ => h, fun _ => rfl⟩, hr⟩
theorem Calls.regrown2 {P : Program} {f : FuncId} {args : Array Value} {w : World} {d : Nat} {os : Array Obj} {v : Value}
    (h : Calls P f args (Go.Sort.grow (redrawn w d) os) fun e w' => e = .returned v ∧ Go.Sort.grow (redrawn w d) os = w') : Calls P f args (Go.Sort.grow (redrawn w d) os) fun e w'' => e = .returned v ∧ ∃ p : Regrown, w'' = Go.Sort.grow (redrawn w p.d) p.os :=
  h.mono fun _ _ ⟨he, hw⟩ => ⟨he, ⟨d, os⟩, hw.symm⟩

theorem withinJ (n lo hi : Int) (w : World) :
    Calls Tryz.prog 66 #[.int .i64 n, .int .i64 lo, .int .i64 hi] w fun e w' => e = .returned (.bool (decide (lo ≤ n) && decide (n ≤ hi))) ∧ w = w' := (withinI n lo hi w).mono fun _ _ h => ⟨h.1, h.2.symm⟩
set_option maxHeartbeats 8000000 in
theorem seatsI (d : LegD) (p : LegP) (w : World) (h : LegIn w d p) (hf : Fits d) :
    Calls Tryz.prog 39 #[LegV d p] w (OkPost (SeatsOk d) (Below w.heap.size w)) := by
  have hiff : Hid (SeatsOk d ↔ ((1 ≤ d.cap ∧ d.cap ≤ 9) ∧ d.nL = 3 ∧ d.nS = 3 ∧ (∀ i, i < 3 → 0 ≤ d.S i ∧ d.S i ≤ d.cap) ∧ (1 ≤ (d.nB : Int) ∧ (d.nB : Int) ≤ 4) ∧ Falls d.B d.nB 1000000000 ∧ d.L 0 = d.cap ∧ Falls d.L 3 d.cap)) := Iff.rfl
  generalize SeatsOk d = SO at *
  obtain ⟨nm, fr, to, dep, arr, cap, nL, L, nS, S, nB, B, nH, t, c, s⟩ := d
  obtain ⟨aL, cL, aS, cS, aB, cB, aH, cH⟩ := p
  obtain ⟨-, -, -, f4, f5, f6, -⟩ := hf
  obtain ⟨hi1, hi2, hi3, hi4⟩ := h
  dsimp only at hiff f4 f5 f6 hi1 hi2 hi3
  unfold LegV
  dsimp only
  generalize hV : (#[.string nm, .string fr, .string to, .int .i64 dep, .int .i64 arr, .int .i64 cap, .slice aL nL cL, .slice aS nS cS, .slice aB nB cB, .slice aH nH cH] : Array Value) = V at *
  have hbA : Below w.heap.size w (w.alloc (.cells V 25)) := (Below.refl _ _).alloc (Nat.le_refl _) _
  have hbox : (w.alloc (.cells V 25)).heap[w.heap.size]? = some (.cells V 25 (0, 0)) := heap_alloc_new w _
  have c5 : (w.alloc (.cells V 25)).cell? ⟨w.heap.size, 5, none⟩ = some (.int .i64 cap) := by rw [Lib.cell_of_heap hbox, ← hV]; rfl
  have c6 : (w.alloc (.cells V 25)).cell? ⟨w.heap.size, 6, none⟩ = some (.slice aL nL cL) := by rw [Lib.cell_of_heap hbox, ← hV]; rfl
  have c7 : (w.alloc (.cells V 25)).cell? ⟨w.heap.size, 7, none⟩ = some (.slice aS nS cS) := by rw [Lib.cell_of_heap hbox, ← hV]; rfl
  have c8 : (w.alloc (.cells V 25)).cell? ⟨w.heap.size, 8, none⟩ = some (.slice aB nB cB) := by rw [Lib.cell_of_heap hbox, ← hV]; rfl
  have HI1 := Lib.hid (hi1.kept hbA)
  have HI2 := Lib.hid (hi2.kept hbA)
  have HI3 := Lib.hid (hi3.kept hbA)
  have HbA := Lib.hid hbA
  clear hbA hV hbox hi1 hi2 hi3 hi4
  go_enter Tryz.func39, Tryz.ntmps39
  go_wp2_with fail
  generalize w.alloc (.cells V 25) = W at *
  refine (withinJ _ _ _ _).mono ?_
  rintro e w' ⟨rfl, rfl⟩
  cases h1 : (decide ((1 : Int) ≤ cap) && decide (cap ≤ 9)) with
  | false =>
    have hno : Hid (¬ SO) := fun h => by have := (within_is h1).2 (hiff.out.1 h).1; cases this
    have H1 := Lib.hid h1
    clear h1
    go_wp2
    go_ret
    exact okPost_no rfl hno.out HbA.out
  | true =>
  have hcap := (within_is h1).1 rfl
  have H1 := Lib.hid h1
  clear h1
  by_cases e1 : nL = 3
  rotate_left
  · have hno : Hid (¬ SO) := fun h => e1 (hiff.out.1 h).2.1
    have n1 : (nL : Int) ≠ 3 := by omega
    clear e1
    go_wp2
    go_ret
    exact okPost_no rfl hno.out HbA.out
  by_cases e2 : nS = 3
  rotate_left
  · have hno : Hid (¬ SO) := fun h => e2 (hiff.out.1 h).2.2.1
    have n1 : (nS : Int) ≠ 3 := by omega
    have n2 : (nL : Int) = 3 := by omega
    subst e1
    clear e2
    go_wp2
    go_ret
    exact okPost_no rfl hno.out HbA.out
  subst e1 e2
  obtain ⟨bS, oS, rfl, hbS, hcS⟩ := HI2.out.cells (by omega)
  have HcS := Lib.hid hcS
  clear hcS HI2
  go_wp2_with fail
  go_loopw [25] (fun v wr => ∃ k : Nat, k ≤ 3 ∧ v = .int .i64 k ∧ Hid (∀ i, i < k → 0 ≤ S i ∧ S i ≤ cap) ∧ W = wr) (fun v _ => 3 - (intOf v).toNat)
  case atStart => exact ⟨0, by omega, rfl, fun i hi => absurd hi (Nat.not_lt_zero _), rfl⟩
  case round =>
    obtain ⟨k, hk, rfl, hto, hw⟩ := hrel
    subst hw
    rcases Nat.lt_or_ge k 3 with hlt | hge
    · have x1 := HcS.out k hlt
      have k1 : (k : Int) < 3 := by omega
      have k0 : (0 : Int) ≤ k := by omega
      generalize hx : S k = x at *
      have HX := Lib.hid hx
      clear hx
      go_wp2_with fail
      refine (withinJ _ _ _ _).mono ?_
      rintro e w' ⟨rfl, rfl⟩
      cases h2 : (decide ((0 : Int) ≤ x) && decide (x ≤ cap)) with
      | false =>
        have hno : Hid (¬ SO) := fun h => by
          have := (hiff.out.1 h).2.2.2.1 k hlt
          rw [HX.out] at this
          have := (within_is h2).2 this
          cases this
        have H2 := Lib.hid h2
        clear h2
        go_wp2
        go_ret
        exact okPost_no rfl hno.out HbA.out
      | true =>
        have hnx : Hid (∀ i, i < k + 1 → 0 ≤ S i ∧ S i ≤ cap) := by
          intro i hi
          rcases Nat.lt_or_ge i k with h1 | h1
          · exact hto.out i h1
          · obtain rfl : i = k := by omega
            rw [HX.out]; exact (within_is h2).1 rfl
        have H2 := Lib.hid h2
        clear h2
        go_wp2
        go_roundw
        case rel => exact ⟨k + 1, by omega, by go_num, hnx.out, (by first | rfl | trivial)⟩
        case measure => simp [intOf]; omega
    · obtain rfl : k = 3 := by omega
      have HSo := hto
      clear hto HcS
      obtain ⟨bL, oL, rfl, hbL, hcL⟩ := HI1.out.cells (by omega)
      have x0 := hcL 0 (by omega)
      have HI1' := HI1
      clear hcL
      simp only [Nat.add_zero] at x0
      have k5 := cell_regrown c5
      have k6 := cell_regrown c6
      have kx := cell_regrown x0
      have kN : ∀ dd os, Nums (Go.Sort.grow (redrawn W dd) os) (some ⟨bL, oL, none⟩) 3 L := fun dd os => HI1.out.kept (below_regrown W dd os)
      have HkN := Lib.hid kN
      clear kN HI1
      go_wp2_with fail
      refine (withinJ _ _ _ _).mono ?_
      rintro e w' ⟨rfl, rfl⟩
      cases h3 : (decide ((1 : Int) ≤ (nB : Int)) && decide ((nB : Int) ≤ 4)) with
      | false =>
        have hno : Hid (¬ SO) := fun h => by have := (within_is h3).2 (hiff.out.1 h).2.2.2.2.1; cases this
        have H3 := Lib.hid h3
        clear h3
        go_wp2_with fail
        refine regionB (by kernel_rfl) (by kernel_rfl) ?_
        repeat (refine QW.step (fun K hK => ?_); go_simp; refine hK.out _ ?_; clear hK K)
        refine QW.nil ?_
        intro _ hw'
        obtain ⟨⟨dq, osq⟩, hw''⟩ := hw'
        subst hw''
        go_wp2
        go_ret
        exact okPost_no rfl hno.out (bt HbA.out (below_regrown W dq osq))
      | true =>
      have hB4 := Lib.hid ((within_is h3).1 rfl)
      have H3 := Lib.hid h3
      clear h3
      go_wp2_with fail
      refine (fallI aB nB cB B 1000000000 W HI3.out f6).mono ?_
      rintro e w' ⟨b, rfl, hb, rfl⟩
      cases b with
      | false =>
        have hno : Hid (¬ SO) := fun h => by have := hb.out.2 (hiff.out.1 h).2.2.2.2.2.1; cases this
        go_wp2_with fail
        refine regionB (by kernel_rfl) (by kernel_rfl) ?_
        repeat (refine QW.step (fun K hK => ?_); go_simp; refine hK.out _ ?_; clear hK K)
        refine QW.nil ?_
        intro _ hw'
        obtain ⟨⟨dq, osq⟩, hw''⟩ := hw'
        subst hw''
        go_wp2
        go_ret
        exact okPost_no rfl hno.out (bt HbA.out (below_regrown W dq osq))
      | true =>
      have hFB : Hid (Falls B nB 1000000000) := hb.out.1 rfl
      clear hb
      generalize hl0 : L 0 = l0 at *
      have HL0 := Lib.hid hl0
      clear hl0
      by_cases e3 : l0 = cap
      rotate_left
      · have hno : Hid (¬ SO) := fun h => e3 (hiff.out.1 h).2.2.2.2.2.2.1
        go_wp2_with fail
        refine regionB (by kernel_rfl) (by kernel_rfl) ?_
        repeat (refine QW.step (fun K hK => ?_); go_simp; refine hK.out _ ?_; clear hK K)
        refine QW.nil ?_
        intro _ hw'
        obtain ⟨⟨dq, osq⟩, hw''⟩ := hw'
        subst hw''
        go_wp2
        go_ret
        exact okPost_no rfl hno.out (bt HbA.out (below_regrown W dq osq))
      obtain ⟨b, hb⟩ : ∃ b : Bool, b = true ↔ Falls L 3 cap := by
        by_cases hF : Falls L 3 cap
        · exact ⟨true, fun _ => hF, fun _ => rfl⟩
        · exact ⟨false, fun h => (by cases h), fun h => absurd h hF⟩
      have cF : ∀ dd os, Calls Tryz.prog 67 #[.slice (some ⟨bL, oL, none⟩) 3 cL, .int .i64 cap] (Go.Sort.grow (redrawn W dd) os) fun e w'' => e = .returned (.bool b) ∧ ∃ p : Regrown, w'' = Go.Sort.grow (redrawn W p.d) p.os := fun dd os => Calls.regrown2 (det (fallI (some ⟨bL, oL, none⟩) 3 cL L cap _ (HkN.out dd os) (by omega)) b hb)
      have Hb := Lib.hid hb
      clear hb
      have hSO : Hid (b = true ↔ SO) := by
        show _ ↔ _
        rw [Hb.out]
        exact ⟨fun h => hiff.out.2 ⟨hcap, (by first | rfl | trivial), (by first | rfl | trivial), HSo.out, hB4.out, hFB.out, e3, h⟩, fun h => (hiff.out.1 h).2.2.2.2.2.2.2⟩
      subst e3
      go_wp2_with fail
      refine regionB (by kernel_rfl) (by kernel_rfl) ?_
      repeat (refine QW.step (fun K hK => ?_); go_simp; first | (refine hK.out _ ?_; clear hK K) | (apply Exists.intro; refine And.intro (fun _ => ?_) (hK.out _ ?_); exact cF _ _; clear hK K))
      refine QW.nil ?_
      intro _ hw'
      obtain ⟨⟨dq, osq⟩, hw''⟩ := hw'
      subst hw''
      go_wp2
      go_ret
      exact ⟨b, rfl, hSO, bt HbA.out (below_regrown W dq osq)⟩
end Go.Proofs.YtdaccpffdnbkiaaGreatDoor

namespace Go.Proofs.YtdaccpffdnbkiaaGreatDoor
open Go.RowKit
set_option linter.unusedVariables false
set_option linter.unusedSimpArgs false

set_option maxHeartbeats 1000000 in
theorem classI (c : Int) (w : World) :
    Calls Tryz.prog 83 #[.int .i64 c] w fun e w' => e = .returned (.bool (decide ((0 : Int) ≤ c) && decide (c ≤ 2))) ∧ w = w' := by
  go_enter Tryz.func83, Tryz.ntmps83
  go_wp2_with fail
  refine (withinJ _ _ _ _).mono ?_
  rintro e w' ⟨rfl, rfl⟩
  generalize hb : (decide ((0 : Int) ≤ c) && decide (c ≤ 2)) = b
  have Hb := Lib.hid hb
  clear hb
  go_wp2
  go_ret
  exact ⟨retB Hb.out.symm, rfl⟩

set_option maxHeartbeats 2000000 in
theorem hold1I (t c s cap : Int) (w : World) (hc : 1 ≤ cap) (hc9 : cap ≤ 9) :
    Calls Tryz.prog 68 #[.agg #[.int .i64 t, .int .i64 c, .int .i64 s], .int .i64 cap] w (OkPost (Hold1 t c s cap) (Below w.heap.size w)) := by
  have hbA : Below w.heap.size w (w.alloc (.cells #[.int .i64 t, .int .i64 c, .int .i64 s] 58)) := (Below.refl _ _).alloc (Nat.le_refl _) _
  have HbA := Lib.hid hbA
  have hiff : Hid (Hold1 t c s cap ↔ ((1 ≤ t ∧ t ≤ 99) ∧ (0 ≤ c ∧ c ≤ 2) ∧ (-cap ≤ s ∧ s ≤ cap) ∧ s ≠ 0)) := Iff.rfl
  generalize Hold1 t c s cap = HO at *
  clear hbA
  go_enter Tryz.func68, Tryz.ntmps68
  go_wp2_with fail
  refine (withinJ _ _ _ _).mono ?_
  rintro e w' ⟨rfl, rfl⟩
  cases h1 : (decide ((1 : Int) ≤ t) && decide (t ≤ 99)) with
  | false =>
    have hno : Hid (¬ HO) := fun h => by have := (within_is h1).2 (hiff.out.1 h).1; cases this
    have H1 := Lib.hid h1
    clear h1
    go_wp2
    go_ret
    exact okPost_no rfl hno.out HbA.out
  | true =>
  have ht := Lib.hid ((within_is h1).1 rfl)
  have H1 := Lib.hid h1
  clear h1
  go_wp2_with fail
  refine (classI _ _).mono ?_
  rintro e w' ⟨rfl, rfl⟩
  cases h2 : (decide ((0 : Int) ≤ c) && decide (c ≤ 2)) with
  | false =>
    have hno : Hid (¬ HO) := fun h => by have := (within_is h2).2 (hiff.out.1 h).2.1; cases this
    have H2 := Lib.hid h2
    clear h2
    go_wp2
    go_ret
    exact okPost_no rfl hno.out HbA.out
  | true =>
  have hcl := Lib.hid ((within_is h2).1 rfl)
  have H2 := Lib.hid h2
  clear h2
  go_wp2_with fail
  refine (withinJ _ _ _ _).mono ?_
  rintro e w' ⟨rfl, rfl⟩
  cases h3 : (decide (-cap ≤ s) && decide (s ≤ cap)) with
  | false =>
    have hno : Hid (¬ HO) := fun h => by have := (within_is h3).2 (hiff.out.1 h).2.2.1; cases this
    have H3 := Lib.hid h3
    clear h3
    go_wp2
    go_ret
    exact okPost_no rfl hno.out HbA.out
  | true =>
  have hsb := Lib.hid ((within_is h3).1 rfl)
  have H3 := Lib.hid h3
  clear h3
  by_cases hs0 : s = 0
  · have hno : Hid (¬ HO) := fun h => (hiff.out.1 h).2.2.2 hs0
    subst hs0
    go_wp2
    go_ret
    exact okPost_no rfl hno.out HbA.out
  · have hyes : Hid HO := hiff.out.2 ⟨ht.out, hcl.out, hsb.out, hs0⟩
    go_wp2
    go_ret
    exact okPost_yes (retB (by simpa using hs0)) hyes.out HbA.out

set_option maxHeartbeats 4000000 in
theorem holdsI (d : LegD) (p : LegP) (w : World) (h : LegIn w d p) (hf : Fits d) (hc : 1 ≤ d.cap) (hc9 : d.cap ≤ 9) :
    Calls Tryz.prog 40 #[LegV d p] w (OkPost (HoldsOk d) (Below w.heap.size w)) := by
  have hiff : Hid (HoldsOk d ↔ (d.nH ≤ 6 ∧ ∀ i, i < d.nH → Hold1 (d.t i) (d.c i) (d.s i) d.cap ∧ (if i = 0 then 0 else d.t (i - 1)) < d.t i)) := Iff.rfl
  generalize HoldsOk d = HO at *
  obtain ⟨nm, fr, to, dep, arr, cap, nL, L, nS, S, nB, B, nH, t, c, s⟩ := d
  obtain ⟨aL, cL, aS, cS, aB, cB, aH, cH⟩ := p
  obtain ⟨-, -, -, -, -, -, f7⟩ := hf
  obtain ⟨hi1, hi2, hi3, hi4⟩ := h
  dsimp only at hiff f7 hi4 hc hc9
  unfold LegV
  dsimp only
  generalize hV : (#[.string nm, .string fr, .string to, .int .i64 dep, .int .i64 arr, .int .i64 cap, .slice aL nL cL, .slice aS nS cS, .slice aB nB cB, .slice aH nH cH] : Array Value) = V at *
  have hbA : Below w.heap.size w (w.alloc (.cells V 25)) := (Below.refl _ _).alloc (Nat.le_refl _) _
  have hbox : (w.alloc (.cells V 25)).heap[w.heap.size]? = some (.cells V 25 (0, 0)) := heap_alloc_new w _
  have c5 : (w.alloc (.cells V 25)).cell? ⟨w.heap.size, 5, none⟩ = some (.int .i64 cap) := by rw [Lib.cell_of_heap hbox, ← hV]; rfl
  have c9 : (w.alloc (.cells V 25)).cell? ⟨w.heap.size, 9, none⟩ = some (.slice aH nH cH) := by rw [Lib.cell_of_heap hbox, ← hV]; rfl
  have sA : w.heap.size < (w.alloc (.cells V 25)).heap.size := by simp
  have HI4 := Lib.hid (hi4.kept hbA)
  have HbA := Lib.hid hbA
  clear hbA hV hbox hi1 hi2 hi3 hi4
  go_enter Tryz.func40, Tryz.ntmps40
  rcases Nat.lt_or_ge 6 nH with h6 | h6
  · have hno : Hid (¬ HO) := fun h => by have := (hiff.out.1 h).1; omega
    have h6' : (6 : Int) < nH := by omega
    go_wp2
    go_ret
    exact okPost_no rfl hno.out HbA.out
  have h6' : (nH : Int) ≤ 6 := by omega
  go_wp2_with fail
  generalize w.alloc (.cells V 25) = W at *
  go_loopw [3, 13] (fun m v wr => ∃ k : Nat, k ≤ nH ∧ m = .int .i64 (if k = 0 then 0 else t (k - 1)) ∧ v = .int .i64 k ∧ Hid (∀ i, i < k → Hold1 (t i) (c i) (s i) cap ∧ (if i = 0 then 0 else t (i - 1)) < t i) ∧ Below W.heap.size W wr) (fun _ v _ => nH - (intOf v).toNat)
  case atStart => exact ⟨0, Nat.zero_le _, rfl, rfl, fun i hi => absurd hi (Nat.not_lt_zero _), Below.refl _ _⟩
  case round =>
    obtain ⟨k, hk, rfl, rfl, hto, hb⟩ := hrel
    generalize hm : (if k = 0 then 0 else t (k - 1)) = m at *
    have HM := Lib.hid hm
    clear hm
    rcases Nat.lt_or_ge k nH with hlt | hge
    · obtain ⟨bH, oH, rfl, hbH, hcH⟩ := HI4.out.cells (by omega)
      have hbHr : bH < wr.heap.size := Nat.lt_of_lt_of_le hbH hb.size
      have c1 := cell_kept hb hbH (hcH k hlt).1
      have c2 := cell_kept hb hbH (hcH k hlt).2.1
      have c3 := cell_kept hb hbH (hcH k hlt).2.2
      have k1 : (k : Int) < nH := by omega
      have k0 : (0 : Int) ≤ k := by omega
      generalize hx1 : t k = x1 at *
      generalize hx2 : c k = x2 at *
      generalize hx3 : s k = x3 at *
      have H1 := Lib.hid hx1
      have H2 := Lib.hid hx2
      have H3 := Lib.hid hx3
      clear hcH hx1 hx2 hx3
      have q5 := cell_kept (hb.trans ((holdBelow wr x1 x2 x3).mono hb.size)) sA c5
      have hbox := holdBox wr x1 x2 x3
      obtain ⟨d0, d1, d2⟩ := row3 hbox
      have hb2 := bt hb (holdBelow wr x1 x2 x3)
      go_wp2_with (first
        | (refine wpList_store_row rfl 58 _ _ rfl wr.heap.size #[.int .i64 x1, .int .i64 x2, .int .i64 x3] rfl rfl 58 #[.int .i64 0, .int .i64 0, .int .i64 0] (heap_alloc_new wr _) holdSize rfl (hold_one x1 x2 x3) ?_)
        | fail)
      generalize (wr.alloc (.cells #[.int .i64 0, .int .i64 0, .int .i64 0] 58)).setRow wr.heap.size #[.int .i64 x1, .int .i64 x2, .int .i64 x3] = W5 at *
      refine (hold1I x1 x2 x3 cap W5 hc hc9).mono ?_
      rintro e w6 ⟨b, rfl, hh, hb6⟩
      have hb7 := bt hb2 hb6
      cases b with
      | false =>
        have hno : Hid (¬ HO) := fun h => by
          have := ((hiff.out.1 h).2 k hlt).1
          rw [H1.out, H2.out, H3.out] at this
          have := hh.out.2 this
          cases this
        go_wp2
        go_ret
        exact okPost_no rfl hno.out (bt HbA.out hb7)
      | true =>
      have hh1 : Hid (Hold1 x1 x2 x3 cap) := hh.out.1 rfl
      clear hh
      obtain ⟨e0, e1, e2⟩ := row3 ((hb6.block _ (lt_heap hbox)).trans hbox)
      rcases Int.lt_or_le m x1 with hlt2 | hge2
      · have hnx : Hid (∀ i, i < k + 1 → Hold1 (t i) (c i) (s i) cap ∧ (if i = 0 then 0 else t (i - 1)) < t i) := by
          intro i hi
          rcases Nat.lt_or_ge i k with h1 | h1
          · exact hto.out i h1
          · obtain rfl : i = k := by omega
            rw [HM.out, H1.out, H2.out, H3.out]; exact ⟨hh1.out, hlt2⟩
        go_wp2
        go_roundw
        case rel => exact ⟨k + 1, by omega, by simp [H1.out], by go_num, hnx.out, hb7⟩
        case measure => simp [intOf]; omega
      · have hno : Hid (¬ HO) := fun h => by
          have := ((hiff.out.1 h).2 k hlt).2
          rw [HM.out, H1.out] at this
          omega
        go_wp2
        go_ret
        exact okPost_no rfl hno.out (bt HbA.out hb7)
    · obtain rfl : k = nH := by omega
      have hyes : Hid HO := hiff.out.2 ⟨h6, hto.out⟩
      go_wp2
      go_ret
      exact okPost_yes rfl hyes.out (bt HbA.out hb)
end Go.Proofs.YtdaccpffdnbkiaaGreatDoor

namespace Go.Proofs.YtdaccpffdnbkiaaGreatDoor
open Go.RowKit
set_option linter.unusedVariables false
set_option linter.unusedSimpArgs false

theorem OkLeg.held {d : LegD} (h : OkLeg d) : HeldOk d := held_of h.2.1 h.2.2.1

set_option maxHeartbeats 8000000 in
theorem okI (d : LegD) (p : LegP) (w : World) (h : LegIn w d p) (hf : Fits d) (hc : d.nS ≤ p.cS) :
    Calls Tryz.prog 15 #[LegV d p] w (OkPost (OkLeg d) (Below w.heap.size w)) := by
  have hbA : Below w.heap.size w (w.alloc (.cells (LegC d p) 25)) := (Below.refl _ _).alloc (Nat.le_refl _) _
  have hA := LegBox.new w d p
  have HI := Lib.hid (h.kept hbA)
  have HbA := Lib.hid hbA
  have hVC : LegV d p = .agg (LegC d p) := rfl
  have HVC := Lib.hid hVC
  rw [hVC]
  have b0 := hA.c0
  have b1 := hA.c1
  have b2 := hA.c2
  have b3 := hA.c3
  have b4 := hA.c4
  have b5 := hA.c5
  have b6 := hA.c6
  have b7 := hA.c7
  have b8 := hA.c8
  have b9 := hA.c9
  have HA := Lib.hid hA
  generalize hLC : LegC d p = LC at *
  have HLC := Lib.hid hLC
  clear hbA hA h hVC hLC
  go_enter Tryz.func15, Tryz.ntmps15
  go_wp2_with fail
  generalize w.alloc (.cells LC 25) = W at *
  refine (wayI d p W hf).mono ?_
  rintro e w1 ⟨b, rfl, hb, d1⟩
  cases b with
  | false =>
    have hno : Hid (¬ OkLeg d) := fun h => by have := hb.out.2 h.1; cases this
    go_wp2
    go_ret
    exact okPost_no rfl hno.out (bt HbA.out d1)
  | true =>
  have hway : Hid (WayOk d) := hb.out.1 rfl
  have hA1 := HA.out.kept d1
  have HI1 := Lib.hid (HI.out.kept d1)
  have HA1 := Lib.hid hA1
  have D1 := Lib.hid (bt HbA.out d1)
  clear b0 b1 b2 b3 b4 b5 b6 b7 b8 b9 HA HI d1 hb HbA
  have b0 := hA1.c0
  have b1 := hA1.c1
  have b2 := hA1.c2
  have b3 := hA1.c3
  have b4 := hA1.c4
  have b5 := hA1.c5
  have b6 := hA1.c6
  have b7 := hA1.c7
  have b8 := hA1.c8
  have b9 := hA1.c9
  clear hA1
  go_wp2_with fail
  refine (seatsI d p w1 HI1.out hf).mono ?_
  rintro e w2 ⟨b, rfl, hb, d2⟩
  cases b with
  | false =>
    have hno : Hid (¬ OkLeg d) := fun h => by have := hb.out.2 h.2.1; cases this
    go_wp2
    go_ret
    exact okPost_no rfl hno.out (bt D1.out d2)
  | true =>
  have hseats : Hid (SeatsOk d) := hb.out.1 rfl
  have hA2 := HA1.out.kept d2
  have HI2 := Lib.hid (HI1.out.kept d2)
  have HA2 := Lib.hid hA2
  have D2 := Lib.hid (bt D1.out d2)
  clear b0 b1 b2 b3 b4 b5 b6 b7 b8 b9 HA1 HI1 d2 hb D1
  have b0 := hA2.c0
  have b1 := hA2.c1
  have b2 := hA2.c2
  have b3 := hA2.c3
  have b4 := hA2.c4
  have b5 := hA2.c5
  have b6 := hA2.c6
  have b7 := hA2.c7
  have b8 := hA2.c8
  have b9 := hA2.c9
  clear hA2
  go_wp2_with fail
  refine (holdsI d p w2 HI2.out hf hseats.out.1.1 hseats.out.1.2).mono ?_
  rintro e w3 ⟨b, rfl, hb, d3⟩
  cases b with
  | false =>
    have hno : Hid (¬ OkLeg d) := fun h => by have := hb.out.2 h.2.2.1; cases this
    go_wp2
    go_ret
    exact okPost_no rfl hno.out (bt D2.out d3)
  | true =>
  have hholds : Hid (HoldsOk d) := hb.out.1 rfl
  have hA3 := HA2.out.kept d3
  have HI3 := Lib.hid (HI2.out.kept d3)
  have D3 := Lib.hid (bt D2.out d3)
  clear b0 b1 b2 b3 b4 b5 b6 b7 b8 b9 HA2 HI2 d3 hb D2
  have b0 := hA3.c0
  have b1 := hA3.c1
  have b2 := hA3.c2
  have b3 := hA3.c3
  have b4 := hA3.c4
  have b5 := hA3.c5
  have b6 := hA3.c6
  have b7 := hA3.c7
  have b8 := hA3.c8
  have b9 := hA3.c9
  clear hA3
  go_wp2_with fail
  refine (fitsI d p w3 HI3.out hseats.out.lim hseats.out.sold (held_of hseats.out hholds.out) hc).mono ?_
  rintro e w4 ⟨b, rfl, hb, d4⟩
  have hiff : Hid (b = true ↔ OkLeg d) := by
    show _ ↔ _
    rw [hb.out]
    exact ⟨fun h => ⟨hway.out, hseats.out, hholds.out, h⟩, fun h => h.2.2.2⟩
  clear hb
  go_wp2
  go_ret
  exact ⟨b, rfl, hiff, bt D3.out d4⟩
end Go.Proofs.YtdaccpffdnbkiaaGreatDoor
