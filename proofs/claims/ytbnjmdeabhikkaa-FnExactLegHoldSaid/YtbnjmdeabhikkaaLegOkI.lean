/-
  Whether a leg is ok: in plain words, and the program's answer.
-/
import Derived.Test.YtbnjmdeabhikkaaLegFits
import Derived.Lib.QuietBelow
import Derived.Lib.Strings
namespace Go.Proofs.Ytbnjmdeabhikkaa
open Go.RowKit
set_option linter.unusedVariables false
set_option linter.unusedSimpArgs false

def WayOk (d : LegD) : Prop := nameB d.name.data.toList = true ∧ nameB d.fr.data.toList = true ∧ nameB d.to.data.toList = true ∧ d.fr ≠ d.to ∧ (0 ≤ d.dep ∧ d.dep ≤ 9999) ∧ (d.dep + 1 ≤ d.arr ∧ d.arr ≤ 9999)
def Falls (z : Nat → Int) (n : Nat) (most : Int) : Prop := ∀ i, i < n → 0 ≤ z i ∧ z i ≤ (if i = 0 then most else z (i - 1))
def SeatsOk (d : LegD) : Prop := (1 ≤ d.cap ∧ d.cap ≤ 9) ∧ d.nL = 3 ∧ d.nS = 3 ∧ (∀ i, i < 3 → 0 ≤ d.S i ∧ d.S i ≤ d.cap) ∧ (1 ≤ (d.nB : Int) ∧ (d.nB : Int) ≤ 4) ∧ Falls d.B d.nB 1000000000 ∧ d.L 0 = d.cap ∧ Falls d.L 3 d.cap
def Hold1 (t c s cap : Int) : Prop := (1 ≤ t ∧ t ≤ 99) ∧ (0 ≤ c ∧ c ≤ 2) ∧ (-cap ≤ s ∧ s ≤ cap) ∧ s ≠ 0
def HoldsOk (d : LegD) : Prop := d.nH ≤ 6 ∧ ∀ i, i < d.nH → Hold1 (d.t i) (d.c i) (d.s i) d.cap ∧ (if i = 0 then 0 else d.t (i - 1)) < d.t i
def OkLeg (d : LegD) : Prop := WayOk d ∧ SeatsOk d ∧ HoldsOk d ∧ FitsOk d
theorem falls_top {z : Nat → Int} {n : Nat} {most : Int} (h : Falls z n most) : ∀ i, i < n → 0 ≤ z i ∧ z i ≤ most
  | 0, hi => by have := h 0 hi; simpa using this
  | i + 1, hi => by
    have ih := falls_top h i (by omega)
    have := h (i + 1) hi
    simp at this; omega
theorem SeatsOk.lim {d : LegD} (h : SeatsOk d) : LimOk d := ⟨h.2.1, fun i hi => by have := falls_top h.2.2.2.2.2.2.2 i hi; have := h.1; omega⟩
theorem SeatsOk.sold {d : LegD} (h : SeatsOk d) : SoldOk d := ⟨h.2.2.1, fun i hi => by have := h.2.2.2.1 i hi; have := h.1; omega⟩
theorem held_of {d : LegD} (h : SeatsOk d) (k : HoldsOk d) : HeldOk d := ⟨k.1, fun i hi => by have h1 := (k.2 i hi).1.2.2.1; have := h.1; omega⟩
def OkPost (S : Prop) (R : World → Prop) (e : Ending) (w' : World) : Prop := ∃ b : Bool, e = .returned (.bool b) ∧ Hid (b = true ↔ S) ∧ R w'
theorem det {P : Program} {f : FuncId} {args : Array Value} {w : World} {R : World → Prop} {S : Prop} (h : Calls P f args w (OkPost S R)) (b : Bool) (hb : b = true ↔ S) : Calls P f args w fun e w' => e = .returned (.bool b) ∧ R w' :=
  h.mono fun e w' ⟨b', h1, h2, h3⟩ => by
    have : b' = b := by
      cases b with
      | true => exact h2.out.2 (hb.1 rfl)
      | false =>
        cases b' with
        | false => rfl
        | true => have := hb.2 (h2.out.1 rfl); cases this
    subst this
    exact ⟨h1, h3⟩

set_option maxHeartbeats 400000 in
theorem withinI (n lo hi : Int) (w : World) :
    Calls Try.prog 85 #[.int .i64 n, .int .i64 lo, .int .i64 hi] w fun e w' => e = .returned (.bool (decide (lo ≤ n) && decide (n ≤ hi))) ∧ w' = w := by
  by_cases h1 : n < lo
  · go_enter Try.func85, Try.ntmps85
    go_wp2
    go_ret
    exact ⟨retB (by simp; omega), rfl⟩
  · go_enter Try.func85, Try.ntmps85
    go_wp2
    go_ret
    exact ⟨retB (by simp; try omega), rfl⟩
theorem within_is {n lo hi : Int} {b : Bool} (h : (decide (lo ≤ n) && decide (n ≤ hi)) = b) : b = true ↔ (lo ≤ n ∧ n ≤ hi) := by
  subst h; simp

set_option maxHeartbeats 1000000 in
theorem fallI (a : Option Addr) (len cap : Nat) (z : Nat → Int) (most : Int) (w : World) (h : Nums w a len z) (hl : len ≤ 1048576) :
    Calls Try.prog 86 #[.slice a len cap, .int .i64 most] w (OkPost (Falls z len most) (fun w' => w = w')) := by
  have H := Lib.hid h
  clear h
  go_enter Try.func86, Try.ntmps86
  go_wp2_with fail
  go_loopw [1, 9] (fun m v wr => ∃ k : Nat, k ≤ len ∧ m = .int .i64 (if k = 0 then most else z (k - 1)) ∧ v = .int .i64 k ∧ Hid (∀ i, i < k → 0 ≤ z i ∧ z i ≤ (if i = 0 then most else z (i - 1))) ∧ w = wr) (fun _ v _ => len - (intOf v).toNat)
  case atStart => exact ⟨0, Nat.zero_le _, rfl, rfl, fun i hi => absurd hi (Nat.not_lt_zero _), rfl⟩
  case round =>
    obtain ⟨k, hk, rfl, rfl, hto, hw⟩ := hrel
    subst hw
    rcases Nat.lt_or_ge k len with hlt | hge
    · obtain ⟨b, off, rfl, hbl, hc⟩ := H.out.cells (by omega)
      have c1 := hc k hlt
      have k1 : (k : Int) < len := by omega
      have k0 : (0 : Int) ≤ k := by omega
      have HM : Hid ((if k = 0 then most else z (k - 1)) = (if k = 0 then most else z (k - 1))) := rfl
      generalize hm : (if k = 0 then most else z (k - 1)) = m at *
      have HM2 := Lib.hid hm
      generalize hx : z k = x at *
      have HX := Lib.hid hx
      clear hc hm hx HM
      go_wp2_with fail
      refine (withinI _ _ _ _).mono ?_
      rintro e w' ⟨rfl, rfl⟩
      cases hb : (decide ((0 : Int) ≤ x) && decide (x ≤ m)) with
      | false =>
        have hno : Hid (¬ Falls z len most) := fun hF => by
          have := hF k hlt
          rw [HX.out, HM2.out] at this
          have h2 := (within_is hb).2 this
          cases h2
        have Hb := Lib.hid hb
        clear hb
        go_wp2
        go_ret
        exact ⟨false, rfl, ⟨fun h => (by cases h), fun h => absurd h hno.out⟩, rfl⟩
      | true =>
        have hnx : Hid (∀ i, i < k + 1 → 0 ≤ z i ∧ z i ≤ (if i = 0 then most else z (i - 1))) := by
          intro i hi
          rcases Nat.lt_or_ge i k with h1 | h1
          · exact hto.out i h1
          · obtain rfl : i = k := by omega
            rw [HX.out, HM2.out]; exact (within_is hb).1 rfl
        have Hb := Lib.hid hb
        clear hb
        go_wp2
        go_roundw
        case rel => exact ⟨k + 1, by omega, by simp [HX.out], by go_num, hnx.out, (by first | rfl | trivial)⟩
        case measure => simp [intOf]; omega
    · obtain rfl : k = len := by omega
      generalize (if k = 0 then most else z (k - 1)) = m at *
      go_wp2
      go_ret
      exact ⟨true, rfl, ⟨fun _ => hto.out, fun _ => rfl⟩, rfl⟩

theorem str_eq {a b : ByteArray} (h : a = b) : (a.toList == b.toList) = true := by rw [h]; simp
theorem str_neq {a b : ByteArray} (h : ¬ a = b) : (a.toList == b.toList) = false := by
  rw [beq_eq_false_iff_ne]
  intro e
  rw [Lib.toList_data, Lib.toList_data] at e
  exact h (ByteArray.ext (Array.ext' e))

set_option maxHeartbeats 4000000 in
theorem wayI (d : LegD) (p : LegP) (w : World) (hf : Fits d) :
    Calls Try.prog 59 #[LegV d p] w (OkPost (WayOk d) (Below w.heap.size w)) := by
  have hiff : Hid (WayOk d ↔ (nameB d.name.data.toList = true ∧ nameB d.fr.data.toList = true ∧ nameB d.to.data.toList = true ∧ d.fr ≠ d.to ∧ (0 ≤ d.dep ∧ d.dep ≤ 9999) ∧ (d.dep + 1 ≤ d.arr ∧ d.arr ≤ 9999))) := Iff.rfl
  generalize WayOk d = WO at *
  obtain ⟨nm, fr, to, dep, arr, cap, nL, L, nS, S, nB, B, nH, t, c, s⟩ := d
  obtain ⟨aL, cL, aS, cS, aB, cB, aH, cH⟩ := p
  obtain ⟨f1, f2, f3, -, -, -, -⟩ := hf
  dsimp only at hiff f1 f2 f3
  unfold LegV
  dsimp only
  have hbA : Below w.heap.size w (w.alloc (.cells #[.string nm, .string fr, .string to, .int .i64 dep, .int .i64 arr, .int .i64 cap, .slice aL nL cL, .slice aS nS cS, .slice aB nB cB, .slice aH nH cH] 31)) := (Below.refl _ _).alloc (Nat.le_refl _) _
  have HbA := Lib.hid hbA
  clear hbA
  go_enter Try.func59, Try.ntmps59
  go_wp2_with fail
  refine (implName nm _ (by unfold maxLen; omega)).mono ?_
  rintro e w' ⟨rfl, rfl⟩
  cases h1 : nameB nm.data.toList with
  | false =>
    have hno : Hid (¬ WO) := fun h => by have := (hiff.out.1 h).1; rw [h1] at this; cases this
    have H1 := Lib.hid h1
    clear h1
    go_wp2
    go_ret
    exact ⟨false, rfl, ⟨fun h => (by cases h), fun h => absurd h hno.out⟩, HbA.out⟩
  | true =>
  have H1 := Lib.hid h1
  clear h1
  go_wp2_with fail
  refine (implName fr _ (by unfold maxLen; omega)).mono ?_
  rintro e w' ⟨rfl, rfl⟩
  cases h2 : nameB fr.data.toList with
  | false =>
    have hno : Hid (¬ WO) := fun h => by have := (hiff.out.1 h).2.1; rw [h2] at this; cases this
    have H2 := Lib.hid h2
    clear h2
    go_wp2
    go_ret
    exact ⟨false, rfl, ⟨fun h => (by cases h), fun h => absurd h hno.out⟩, HbA.out⟩
  | true =>
  have H2 := Lib.hid h2
  clear h2
  go_wp2_with fail
  refine (implName to _ (by unfold maxLen; omega)).mono ?_
  rintro e w' ⟨rfl, rfl⟩
  cases h3 : nameB to.data.toList with
  | false =>
    have hno : Hid (¬ WO) := fun h => by have := (hiff.out.1 h).2.2.1; rw [h3] at this; cases this
    have H3 := Lib.hid h3
    clear h3
    go_wp2
    go_ret
    exact ⟨false, rfl, ⟨fun h => (by cases h), fun h => absurd h hno.out⟩, HbA.out⟩
  | true =>
  have H3 := Lib.hid h3
  clear h3
  by_cases he : fr = to
  · have hno : Hid (¬ WO) := fun h => (hiff.out.1 h).2.2.2.1 he
    have g0 := str_eq he
    clear he
    go_wp2
    go_ret
    exact ⟨false, rfl, ⟨fun h => (by cases h), fun h => absurd h hno.out⟩, HbA.out⟩
  have g0 := str_neq he
  have He := Lib.hid he
  clear he
  go_wp2_with fail
  refine (withinI _ _ _ _).mono ?_
  rintro e w' ⟨rfl, rfl⟩
  cases h4 : (decide ((0 : Int) ≤ dep) && decide (dep ≤ 9999)) with
  | false =>
    have hno : Hid (¬ WO) := fun h => by have := (within_is h4).2 (hiff.out.1 h).2.2.2.2.1; cases this
    have H4 := Lib.hid h4
    clear h4
    go_wp2
    go_ret
    exact ⟨false, rfl, ⟨fun h => (by cases h), fun h => absurd h hno.out⟩, HbA.out⟩
  | true =>
  have hd := (within_is h4).1 rfl
  have H4 := Lib.hid h4
  clear h4
  go_wp2_with fail
  refine (withinI _ _ _ _).mono ?_
  rintro e w' ⟨rfl, rfl⟩
  cases h5 : (decide (dep + 1 ≤ arr) && decide (arr ≤ 9999)) with
  | false =>
    have hno : Hid (¬ WO) := fun h => by have := (within_is h5).2 (hiff.out.1 h).2.2.2.2.2; cases this
    have H5 := Lib.hid h5
    clear h5
    go_wp2
    go_ret
    exact ⟨false, rfl, ⟨fun h => (by cases h), fun h => absurd h hno.out⟩, HbA.out⟩
  | true =>
  have hyes : Hid WO := hiff.out.2 ⟨H1.out, H2.out, H3.out, He.out, hd, (within_is h5).1 rfl⟩
  have H5 := Lib.hid h5
  clear h5
  go_wp2
  go_ret
  exact ⟨true, rfl, ⟨fun _ => hyes.out, fun _ => rfl⟩, HbA.out⟩
end Go.Proofs.Ytbnjmdeabhikkaa
