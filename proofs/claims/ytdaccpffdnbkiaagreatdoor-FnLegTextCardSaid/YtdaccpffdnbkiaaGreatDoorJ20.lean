/-
  How many seats of a class of a leg can be had, and what the next seat is worth: the program's answers and the model's.
  Whether a leg has its plain form: the model's answer.
-/
import Derived.Test.YtdaccpffdnbkiaaGreatDoorLegOkI
namespace Go.Proofs.YtdaccpffdnbkiaaGreatDoor
open Go.RowKit Go.Shelf
set_option linter.unusedVariables false
set_option linter.unusedSimpArgs false
attribute [local go_sem] Oper.semAt_some

def roomN (d : LegD) : Nat → Int
  | 0 => d.cap
  | m + 1 => min (roomN d m) (leftB d m)
theorem leftB_box {d : LegD} (hL : LimOk d) (hS : SoldOk d) (hH : HeldOk d) (k : Nat) (hk : k < 3) : -100 ≤ leftB d k ∧ leftB d k ≤ 9 := by
  have h1 := usedB_box hS hH k hk
  have h2 := hL.2 k hk
  unfold leftB; omega
theorem roomN_box {d : LegD} (hL : LimOk d) (hS : SoldOk d) (hH : HeldOk d) (hc : 1 ≤ d.cap ∧ d.cap ≤ 9) : ∀ (m : Nat), m ≤ 3 → -100 ≤ roomN d m ∧ roomN d m ≤ 9
  | 0, _ => by unfold roomN; omega
  | m + 1, h => by
    have ih := roomN_box hL hS hH hc m (by omega)
    have h2 := leftB_box hL hS hH m (by omega)
    simp only [roomN]; omega
/-- What the walks on rooms lean on: each number within its limits. -/
def Sized (d : LegD) : Prop := LimOk d ∧ SoldOk d ∧ HeldOk d ∧ (1 ≤ d.cap ∧ d.cap ≤ 9)
theorem OkLeg.sized {d : LegD} (h : OkLeg d) : Sized d := ⟨h.2.1.lim, h.2.1.sold, h.held, h.2.1.1⟩
theorem OkLeg.room0 {d : LegD} (h : OkLeg d) : ∀ m, m ≤ 3 → 0 ≤ roomN d m
  | 0, _ => by have := h.2.1.1; unfold roomN; omega
  | m + 1, hm => by
    have ih := OkLeg.room0 h m (by omega)
    have := (h.2.2.2 m (by omega)).1
    simp only [roomN]; omega

set_option maxRecDepth 100000 in
set_option maxHeartbeats 8000000 in
theorem roomM (d : LegD) (p : LegP) (c : Nat) (hc : c < 3) (w : World) (h : LegIn w d p) (hz : Sized d) :
    Calls Tryz.prog 77 #[LegV d p, .int .i64 (c : Int)] w fun e w' => e = .returned (.int .i64 (roomN d (c + 1))) ∧ Below w.heap.size w w' := by
  have hbA : Below w.heap.size w (w.alloc (.cells (LegC d p) 25)) := (Below.refl _ _).alloc (Nat.le_refl _) _
  have hA := LegBox.new w d p
  have HI1 := Lib.hid (h.kept hbA)
  have HbA := Lib.hid hbA
  have HZ := Lib.hid hz
  have hVC : LegV d p = .agg (LegC d p) := rfl
  rw [hVC]
  have b5 := hA.c5
  have HA1 := Lib.hid hA
  have Hc0 : Hid (roomN d 0 = d.cap) := rfl
  generalize hLC : LegC d p = LC at *
  have HLC := Lib.hid hLC
  clear hbA hA h hVC hLC hz
  go_enter Tryz.func77, Tryz.ntmps77
  go_wp2_with fail
  generalize w.alloc (.cells LC 25) = w1 at *
  go_loopw [5, 6] (fun v i wr => ∃ k : Nat, k ≤ c + 1 ∧ v = .int .i64 (roomN d k) ∧ i = .int .i64 k ∧ Below w1.heap.size w1 wr) (fun _ i _ => c + 1 - (intOf i).toNat)
  case atStart => exact ⟨0, Nat.zero_le _, by rw [Hc0.out], rfl, Below.refl _ _⟩
  case round =>
    obtain ⟨k, hk, rfl, rfl, hb2⟩ := hrel
    rcases Nat.lt_or_ge c k with hge | hle
    · obtain rfl : k = c + 1 := by omega
      obtain ⟨R, hRR⟩ : ∃ R, R = roomN d (c + 1) := ⟨_, rfl⟩
      have HRR := Lib.hid hRR
      rw [← hRR]
      clear hRR
      have g0 : ¬ ((c : Int) + 1 ≤ c) := by omega
      go_wp2
      go_ret
      exact ⟨retI HRR.out, bt HbA.out hb2⟩
    · have hlt : k < 3 := by omega
      have hnL := HZ.out.1.1
      obtain ⟨bL, oL, eL, hbL, hcL⟩ := HI1.out.1.cells (by omega)
      have y1 := cell_regrown (cell_kept hb2 hbL (hcL k (by omega)))
      have hbx2 := HA1.out.kept hb2
      have Hb3 := Lib.hid hb2
      have hV : LegV d p = .agg #[.string d.name, .string d.fr, .string d.to, .int .i64 d.dep, .int .i64 d.arr, .int .i64 d.cap, .slice (some ⟨bL, oL, none⟩) 3 p.cL, .slice p.aS d.nS p.cS, .slice p.aB d.nB p.cB, .slice p.aH d.nH p.cH] := by unfold LegV; rw [eL, hnL]
      have e0 := hbx2.c0
      have e1 := hbx2.c1
      have e2 := hbx2.c2
      have e3 := hbx2.c3
      have e4 := hbx2.c4
      have e5 := hbx2.c5
      have e6 := hbx2.c6
      have e7 := hbx2.c7
      have e8 := hbx2.c8
      have e9 := hbx2.c9
      rw [eL, hnL] at e6
      have r0 := cell_regrown e0
      have r1 := cell_regrown e1
      have r2 := cell_regrown e2
      have r3 := cell_regrown e3
      have r4 := cell_regrown e4
      have r5 := cell_regrown e5
      have r6 := cell_regrown e6
      have r7 := cell_regrown e7
      have r8 := cell_regrown e8
      have r9 := cell_regrown e9
      have cU : ∀ dd os, Calls Tryz.prog 44 #[.agg #[.string d.name, .string d.fr, .string d.to, .int .i64 d.dep, .int .i64 d.arr, .int .i64 d.cap, .slice (some ⟨bL, oL, none⟩) 3 p.cL, .slice p.aS d.nS p.cS, .slice p.aB d.nB p.cB, .slice p.aH d.nH p.cH], .int .i64 (k : Int)] (Go.Sort.grow (redrawn wr dd) os) fun e w'' => e = .returned (.int .i64 (usedB d k)) ∧ ∃ p : Regrown, w'' = Go.Sort.grow (redrawn wr p.d) p.os := fun dd os => by
        have hh := usedM d p k hlt (Go.Sort.grow (redrawn wr dd) os) ((HI1.out.kept hb2).kept (below_regrown wr dd os)) HZ.out.2.1 HZ.out.2.2.1
        rw [hV] at hh
        exact Calls.regrown_of hh
      have k1 : (k : Int) ≤ (c : Int) := by omega
      have k3 : (k : Int) < 3 := by omega
      have k0 : (0 : Int) ≤ k := by omega
      have hbx := leftB_box HZ.out.1 HZ.out.2.1 HZ.out.2.2.1 k hlt
      have hlb : leftB d k = d.L k - usedB d k := rfl
      have hnx : Hid (roomN d (k + 1) = min (roomN d k) (leftB d k)) := rfl
      rw [hlb] at hbx hnx
      have hw : IntKind.i64.wrap (d.L k - usedB d k) = d.L k - usedB d k := IntWalk.i64_in _ (by omega)
      clear e0 e1 e2 e3 e4 e5 e6 e7 e8 e9 hV hbx2 eL hcL hb2 hlb
      generalize usedB d k = xu at *
      generalize d.L k = xl at *
      generalize roomN d k = xr at *
      rcases Int.lt_or_le (xl - xu) xr with m1 | m1
      all_goals
        go_wp2_with fail
        refine regionB (by kernel_rfl) (by kernel_rfl) ?_
        repeat (refine QW.step (fun K hK => ?_); go_simp; first | (refine hK.out _ ?_; clear hK K) | (apply Exists.intro; refine And.intro (fun _ => ?_) (hK.out _ ?_); first | (go_at_call 44; exact cU _ _); clear hK K))
        refine QW.nil ?_
        intro _ hw'
        obtain ⟨⟨dq, osq⟩, hw''⟩ := hw'
        subst hw''
        have hb6 := bt Hb3.out (below_regrown wr dq osq)
        generalize Go.Sort.grow (redrawn wr dq) osq = W6 at *
        go_wp2
        go_roundw
        case rel => exact ⟨k + 1, by omega, by rw [hnx.out]; congr 1; omega, by go_num, hb6⟩
        case measure => simp [intOf]; omega

def roomF (d : LegD) (c : Nat) : List (Fin 3) → Int := fun pre => (pre.filter (fun x => decide (x.val ≤ c))).foldl (fun r x => min r (leftB d x.val)) d.cap
theorem roomF_in {d : LegD} {c : Nat} {pre : List (Fin 3)} {x : Fin 3} (h : x.val ≤ c) : roomF d c (pre ++ [x]) = min (roomF d c pre) (leftB d x.val) := by
  simp [roomF, h]
theorem roomF_out {d : LegD} {c : Nat} {pre : List (Fin 3)} {x : Fin 3} (h : c < x.val) : roomF d c (pre ++ [x]) = roomF d c pre := by
  simp [roomF, h]
theorem roomF_all (d : LegD) (c : Nat) (hc : c < 3) : roomF d c three = roomN d (c + 1) := by
  rcases (by omega : c = 0 ∨ c = 1 ∨ c = 2) with rfl | rfl | rfl <;> rfl
theorem roomF_part (d : LegD) (c : Nat) (hc : c < 3) {pre : List (Fin 3)} (h : LPart pre) (hx : ∃ x ∈ pre, c < x.val) : roomF d c pre = roomN d (c + 1) := by
  obtain ⟨k, hk, rfl⟩ := h
  obtain ⟨x, hm, hx⟩ := hx
  rcases (by omega : c = 0 ∨ c = 1 ∨ c = 2) with rfl | rfl | rfl <;> rcases (by omega : k = 0 ∨ k = 1 ∨ k = 2 ∨ k = 3) with rfl | rfl | rfl | rfl <;> first | rfl | (exfalso; revert x; decide)

end Go.Proofs.YtdaccpffdnbkiaaGreatDoor

namespace Go.Proofs.YtdaccpffdnbkiaaGreatDoor
open Go.RowKit
set_option linter.unusedVariables false
set_option linter.unusedSimpArgs false

def Fall2 (z : Nat → Int) (n : Nat) : Prop := ∀ i, i < n → 0 < i → z i ≤ z (i - 1)
def PlainOk (d : LegD) : Prop := WayOk d ∧ (1 ≤ d.cap ∧ d.cap ≤ 9) ∧ d.nL = 3 ∧ d.nS = 3 ∧ d.L 0 = d.cap ∧ (1 ≤ (d.nB : Int) ∧ (d.nB : Int) ≤ 4) ∧ d.nH ≤ 6 ∧
  (∀ i, i < 3 → (0 ≤ d.L i ∧ d.L i ≤ d.cap) ∧ (0 < i → d.L i ≤ d.L (i - 1)) ∧ (0 ≤ d.S i ∧ d.S i ≤ d.cap)) ∧ (∀ i, i < d.nB → (0 ≤ d.B i ∧ d.B i ≤ 1000000000) ∧ (0 < i → d.B i ≤ d.B (i - 1)))
theorem falls_iff {z : Nat → Int} {n : Nat} {most : Int} : Falls z n most ↔ ∀ i, i < n → (0 ≤ z i ∧ z i ≤ most) ∧ (0 < i → z i ≤ z (i - 1)) := by
  constructor
  · intro h i hi
    refine ⟨falls_top h i hi, fun h0 => ?_⟩
    have := (h i hi).2
    rwa [if_neg (by omega)] at this
  · intro h i hi
    refine ⟨(h i hi).1.1, ?_⟩
    split
    · exact (h i hi).1.2
    · exact (h i hi).2 (by omega)
theorem plain_iff (d : LegD) : (PlainOk d ∧ (∀ i, i < d.nH → Hold1 (d.t i) (d.c i) (d.s i) d.cap ∧ (0 < i → d.t (i - 1) < d.t i)) ∧ FitsOk d) ↔ OkLeg d := by
  constructor
  · rintro ⟨⟨h1, h2, h3, h4, h5, h6, h7, h8, h9⟩, hh, hf⟩
    refine ⟨h1, ⟨h2, h3, h4, fun i hi => (h8 i hi).2.2, h6, falls_iff.2 h9, h5, falls_iff.2 fun i hi => ⟨(h8 i hi).1, (h8 i hi).2.1⟩⟩, ⟨h7, fun i hi => ⟨(hh i hi).1, ?_⟩⟩, hf⟩
    split
    · have := (hh i hi).1.1.1; omega
    · exact (hh i hi).2 (by omega)
  · rintro ⟨h1, ⟨h2, h3, h4, h5, h6, h7, h8, h9⟩, ⟨h10, h11⟩, hf⟩
    refine ⟨⟨h1, h2, h3, h4, h8, h6, h10, fun i hi => ⟨(falls_iff.1 h9 i hi).1, (falls_iff.1 h9 i hi).2, h5 i hi⟩, falls_iff.1 h7⟩, fun i hi => ⟨(h11 i hi).1, fun h0 => ?_⟩, hf⟩
    have := (h11 i hi).2
    rwa [if_neg (by omega)] at this

theorem inB (n a b : Int) (v : Bool) (h : (decide (a ≤ n) && decide (n ≤ b)) = v) (w : World) : ∀ dd os, Calls Tryz.prog 43 #[.int .i64 n, .int .i64 a, .int .i64 b] (Go.Sort.grow (redrawn w dd) os) fun e w'' => e = .returned (.bool v) ∧ ∃ p : Regrown, w'' = Go.Sort.grow (redrawn w p.d) p.os :=
  fun dd os => Calls.regrown2 (specInB n a b _ v h)
theorem in_no {n lo hi : Int} (h : ¬ (lo ≤ n ∧ n ≤ hi)) : (decide (lo ≤ n) && decide (n ≤ hi)) = false := by
  rw [Bool.eq_false_iff]; intro e; exact h (by simpa using e)
theorem in_yes {n lo hi : Int} (h : lo ≤ n ∧ n ≤ hi) : (decide (lo ≤ n) && decide (n ≤ hi)) = true := by simpa using h

set_option maxRecDepth 100000 in
set_option maxHeartbeats 16000000 in
theorem plainS (d : LegD) (p : LegP) (w : World) (h : LegIn w d p) (hf : Fits d) :
    Calls Tryz.prog 42 #[LegV d p] w (OkPost (PlainOk d) (Below w.heap.size w)) := by
  have hiff : Hid (PlainOk d ↔ ((nameB d.name.data.toList = true ∧ nameB d.fr.data.toList = true ∧ nameB d.to.data.toList = true ∧ d.fr ≠ d.to ∧ (0 ≤ d.dep ∧ d.dep ≤ 9999) ∧ (d.dep + 1 ≤ d.arr ∧ d.arr ≤ 9999)) ∧ (1 ≤ d.cap ∧ d.cap ≤ 9) ∧ d.nL = 3 ∧ d.nS = 3 ∧ d.L 0 = d.cap ∧ (1 ≤ (d.nB : Int) ∧ (d.nB : Int) ≤ 4) ∧ d.nH ≤ 6 ∧
    (∀ i, i < 3 → (0 ≤ d.L i ∧ d.L i ≤ d.cap) ∧ (0 < i → d.L i ≤ d.L (i - 1)) ∧ (0 ≤ d.S i ∧ d.S i ≤ d.cap)) ∧ (∀ i, i < d.nB → (0 ≤ d.B i ∧ d.B i ≤ 1000000000) ∧ (0 < i → d.B i ≤ d.B (i - 1))))) := Iff.rfl
  generalize PlainOk d = PO at *
  obtain ⟨nm, fr, to, dep, arr, cap, nL, L, nS, S, nB, B, nH, t, c, s⟩ := d
  obtain ⟨aL, cL, aS, cS, aB, cB, aH, cH⟩ := p
  obtain ⟨f1, f2, f3, f4, f5, f6, f7⟩ := hf
  obtain ⟨hi1, hi2, hi3, hi4⟩ := h
  dsimp only at hiff f1 f2 f3 f4 f5 f6 f7 hi1 hi2 hi3
  unfold LegV
  dsimp only
  generalize hV : (#[.string nm, .string fr, .string to, .int .i64 dep, .int .i64 arr, .int .i64 cap, .slice aL nL cL, .slice aS nS cS, .slice aB nB cB, .slice aH nH cH] : Array Value) = V at *
  have hbA : Below w.heap.size w (w.alloc (.cells V 25)) := (Below.refl _ _).alloc (Nat.le_refl _) _
  have hbox : (w.alloc (.cells V 25)).heap[w.heap.size]? = some (.cells V 25 (0, 0)) := heap_alloc_new w _
  have c0 : (w.alloc (.cells V 25)).cell? ⟨w.heap.size, 0, none⟩ = some (.string nm) := by rw [Lib.cell_of_heap hbox, ← hV]; rfl
  have c1 : (w.alloc (.cells V 25)).cell? ⟨w.heap.size, 1, none⟩ = some (.string fr) := by rw [Lib.cell_of_heap hbox, ← hV]; rfl
  have c2 : (w.alloc (.cells V 25)).cell? ⟨w.heap.size, 2, none⟩ = some (.string to) := by rw [Lib.cell_of_heap hbox, ← hV]; rfl
  have c3 : (w.alloc (.cells V 25)).cell? ⟨w.heap.size, 3, none⟩ = some (.int .i64 dep) := by rw [Lib.cell_of_heap hbox, ← hV]; rfl
  have c4 : (w.alloc (.cells V 25)).cell? ⟨w.heap.size, 4, none⟩ = some (.int .i64 arr) := by rw [Lib.cell_of_heap hbox, ← hV]; rfl
  have c5 : (w.alloc (.cells V 25)).cell? ⟨w.heap.size, 5, none⟩ = some (.int .i64 cap) := by rw [Lib.cell_of_heap hbox, ← hV]; rfl
  have c6 : (w.alloc (.cells V 25)).cell? ⟨w.heap.size, 6, none⟩ = some (.slice aL nL cL) := by rw [Lib.cell_of_heap hbox, ← hV]; rfl
  have c7 : (w.alloc (.cells V 25)).cell? ⟨w.heap.size, 7, none⟩ = some (.slice aS nS cS) := by rw [Lib.cell_of_heap hbox, ← hV]; rfl
  have c8 : (w.alloc (.cells V 25)).cell? ⟨w.heap.size, 8, none⟩ = some (.slice aB nB cB) := by rw [Lib.cell_of_heap hbox, ← hV]; rfl
  have c9 : (w.alloc (.cells V 25)).cell? ⟨w.heap.size, 9, none⟩ = some (.slice aH nH cH) := by rw [Lib.cell_of_heap hbox, ← hV]; rfl
  have HI1 := Lib.hid (hi1.kept hbA)
  have HI2 := Lib.hid (hi2.kept hbA)
  have HI3 := Lib.hid (hi3.kept hbA)
  have HbA := Lib.hid hbA
  have sA : w.heap.size < (w.alloc (.cells V 25)).heap.size := by simp
  clear hbA hV hbox hi1 hi2 hi3 hi4
  go_enter Tryz.func42, Tryz.ntmps42
  go_wp2_with fail
  generalize w.alloc (.cells V 25) = W at *
  refine (specName nm _ (by unfold maxLen; omega)).mono ?_
  rintro e w' ⟨rfl, rfl⟩
  cases n0 : nameB nm.data.toList with
  | false =>
    have hno : Hid (¬ PO) := fun h => by have := (hiff.out.1 h).1.1; rw [n0] at this; cases this
    have N0 := Lib.hid n0
    clear n0
    go_wp2
    go_ret
    exact okPost_no rfl hno.out HbA.out
  | true =>
  have N0 := Lib.hid n0
  clear n0
  go_wp2_with fail
  refine (specName fr _ (by unfold maxLen; omega)).mono ?_
  rintro e w' ⟨rfl, rfl⟩
  cases n1 : nameB fr.data.toList with
  | false =>
    have hno : Hid (¬ PO) := fun h => by have := (hiff.out.1 h).1.2.1; rw [n1] at this; cases this
    have N1 := Lib.hid n1
    clear n1
    go_wp2
    go_ret
    exact okPost_no rfl hno.out HbA.out
  | true =>
  have N1 := Lib.hid n1
  clear n1
  go_wp2_with fail
  refine (specName to _ (by unfold maxLen; omega)).mono ?_
  rintro e w' ⟨rfl, rfl⟩
  cases n2 : nameB to.data.toList with
  | false =>
    have hno : Hid (¬ PO) := fun h => by have := (hiff.out.1 h).1.2.2.1; rw [n2] at this; cases this
    have N2 := Lib.hid n2
    clear n2
    go_wp2
    go_ret
    exact okPost_no rfl hno.out HbA.out
  | true =>
  have N2 := Lib.hid n2
  clear n2
  by_cases he : fr = to
  · have hno : Hid (¬ PO) := fun h => (hiff.out.1 h).1.2.2.2.1 he
    have g0 := str_eq he
    clear he
    go_wp2
    go_ret
    exact okPost_no rfl hno.out HbA.out
  have g0 := str_neq he
  have He := Lib.hid he
  clear he
  go_wp2_with fail
  refine (specIn _ _ _ _).mono ?_
  rintro e w' ⟨rfl, rfl⟩
  cases i0 : (decide ((0 : Int) ≤ dep) && decide (dep ≤ 9999)) with
  | false =>
    have hno : Hid (¬ PO) := fun h => by have := (within_is i0).2 (hiff.out.1 h).1.2.2.2.2.1; cases this
    have I0 := Lib.hid i0
    clear i0
    go_wp2
    go_ret
    exact okPost_no rfl hno.out HbA.out
  | true =>
  have j0 := (within_is i0).1 rfl
  have J0 := Lib.hid j0
  have I0 := Lib.hid i0
  clear i0
  go_wp2_with fail
  refine (specIn _ _ _ _).mono ?_
  rintro e w' ⟨rfl, rfl⟩
  cases i1 : (decide ((dep + 1 : Int) ≤ arr) && decide (arr ≤ 9999)) with
  | false =>
    have hno : Hid (¬ PO) := fun h => by have := (within_is i1).2 (hiff.out.1 h).1.2.2.2.2.2; cases this
    have I1 := Lib.hid i1
    clear i1
    go_wp2
    go_ret
    exact okPost_no rfl hno.out HbA.out
  | true =>
  have j1 := (within_is i1).1 rfl
  have J1 := Lib.hid j1
  have I1 := Lib.hid i1
  clear i1
  go_wp2_with fail
  refine (specIn _ _ _ _).mono ?_
  rintro e w' ⟨rfl, rfl⟩
  cases i2 : (decide ((1 : Int) ≤ cap) && decide (cap ≤ 9)) with
  | false =>
    have hno : Hid (¬ PO) := fun h => by have := (within_is i2).2 (hiff.out.1 h).2.1; cases this
    have I2 := Lib.hid i2
    clear i2
    go_wp2
    go_ret
    exact okPost_no rfl hno.out HbA.out
  | true =>
  have j2 := (within_is i2).1 rfl
  have J2 := Lib.hid j2
  have I2 := Lib.hid i2
  clear i2
  clear c0 c1 c2 c3 c4 g0 j0 j1
  have k5 := cell_regrown c5
  have k6 := cell_regrown c6
  have k7 := cell_regrown c7
  have k8 := cell_regrown c8
  have k9 := cell_regrown c9
  by_cases e1 : nL = 3
  rotate_left
  · have hno : Hid (¬ PO) := fun h => e1 (hiff.out.1 h).2.2.1
    have q1 : (nL : Int) ≠ 3 := by omega
    clear e1
    go_wp2_with fail
    refine regionB (by kernel_rfl) (by kernel_rfl) ?_
    repeat (refine QW.step (fun K hK => ?_); go_simp; refine hK.out _ ?_; clear hK K)
    refine QW.nil ?_
    intro _ hw'
    obtain ⟨⟨dq, osq⟩, hw''⟩ := hw'
    subst hw''
    go_wp2
    go_ret
    exact okPost_no rfl hno.out (bt HbA.out (below_regrown W dq osq))
  by_cases e2 : nS = 3
  rotate_left
  · have hno : Hid (¬ PO) := fun h => e2 (hiff.out.1 h).2.2.2.1
    have q1 : (nL : Int) = 3 := by omega
    have q2 : (nS : Int) ≠ 3 := by omega
    subst e1
    clear e2
    go_wp2_with fail
    refine regionB (by kernel_rfl) (by kernel_rfl) ?_
    repeat (refine QW.step (fun K hK => ?_); go_simp; refine hK.out _ ?_; clear hK K)
    refine QW.nil ?_
    intro _ hw'
    obtain ⟨⟨dq, osq⟩, hw''⟩ := hw'
    subst hw''
    go_wp2
    go_ret
    exact okPost_no rfl hno.out (bt HbA.out (below_regrown W dq osq))
  subst e1 e2
  obtain ⟨bL, oL, rfl, hbL, hcL⟩ := HI1.out.cells (by omega)
  obtain ⟨bS, oS, rfl, hbS, hcS⟩ := HI2.out.cells (by omega)
  have HcL := Lib.hid hcL
  have HcS := Lib.hid hcS
  have x0 := hcL 0 (by omega)
  simp only [Nat.add_zero] at x0
  have kx := cell_regrown x0
  clear hcL hcS
  by_cases e3 : L 0 = cap
  rotate_left
  · have hno : Hid (¬ PO) := fun h => e3 (hiff.out.1 h).2.2.2.2.1
    go_wp2_with fail
    refine regionB (by kernel_rfl) (by kernel_rfl) ?_
    repeat (refine QW.step (fun K hK => ?_); go_simp; refine hK.out _ ?_; clear hK K)
    refine QW.nil ?_
    intro _ hw'
    obtain ⟨⟨dq, osq⟩, hw''⟩ := hw'
    subst hw''
    go_wp2
    go_ret
    exact okPost_no rfl hno.out (bt HbA.out (below_regrown W dq osq))
  have E3 := Lib.hid e3
  rw [e3] at kx
  clear e3 x0
  by_cases e4 : 1 ≤ (nB : Int) ∧ (nB : Int) ≤ 4
  rotate_left
  · have hno : Hid (¬ PO) := fun h => e4 (hiff.out.1 h).2.2.2.2.2.1
    have cI := inB (nB : Int) 1 4 false (in_no e4) W
    clear e4
    go_wp2_with fail
    refine regionB (by kernel_rfl) (by kernel_rfl) ?_
    repeat (refine QW.step (fun K hK => ?_); go_simp; first | (refine hK.out _ ?_; clear hK K) | (apply Exists.intro; refine And.intro (fun _ => ?_) (hK.out _ ?_); exact cI _ _; clear hK K))
    refine QW.nil ?_
    intro _ hw'
    obtain ⟨⟨dq, osq⟩, hw''⟩ := hw'
    subst hw''
    go_wp2
    go_ret
    exact okPost_no rfl hno.out (bt HbA.out (below_regrown W dq osq))
  have cI := inB (nB : Int) 1 4 true (in_yes e4) W
  have E4 := Lib.hid e4
  clear e4
  rcases Nat.lt_or_ge 6 nH with h6 | h6
  · have hno : Hid (¬ PO) := fun h => by have := (hiff.out.1 h).2.2.2.2.2.2.1; omega
    have q6 : (6 : Int) < nH := by omega
    go_wp2_with fail
    refine regionB (by kernel_rfl) (by kernel_rfl) ?_
    repeat (refine QW.step (fun K hK => ?_); go_simp; first | (refine hK.out _ ?_; clear hK K) | (apply Exists.intro; refine And.intro (fun _ => ?_) (hK.out _ ?_); exact cI _ _; clear hK K))
    refine QW.nil ?_
    intro _ hw'
    obtain ⟨⟨dq, osq⟩, hw''⟩ := hw'
    subst hw''
    go_wp2
    go_ret
    exact okPost_no rfl hno.out (bt HbA.out (below_regrown W dq osq))
  have q6 : (nH : Int) ≤ 6 := by omega
  go_wp2_with fail
  refine regionB (by kernel_rfl) (by kernel_rfl) ?_
  repeat (refine QW.step (fun K hK => ?_); go_simp; first | (refine hK.out _ ?_; clear hK K) | (apply Exists.intro; refine And.intro (fun _ => ?_) (hK.out _ ?_); exact cI _ _; clear hK K))
  refine QW.nil ?_
  intro _ hw'
  obtain ⟨⟨dq, osq⟩, hw''⟩ := hw'
  subst hw''
  have hbW := below_regrown W dq osq
  have HbW := Lib.hid hbW
  generalize Go.Sort.grow (redrawn W dq) osq = W2 at *
  clear k5 k6 k7 k8 k9 kx cI hbW
  go_wp2_with fail
  go_loopw [3] (fun v wr => ∃ k : Nat, k ≤ 3 ∧ v = .int .i64 k ∧ Hid (∀ i, i < k → (0 ≤ L i ∧ L i ≤ cap) ∧ (0 < i → L i ≤ L (i - 1)) ∧ (0 ≤ S i ∧ S i ≤ cap)) ∧ Below W.heap.size W wr) (fun v _ => 3 - (intOf v).toNat)
  case atStart => exact ⟨0, by omega, rfl, fun i hi => absurd hi (Nat.not_lt_zero _), HbW.out⟩
  case round =>
    obtain ⟨k, hk, rfl, hto, hb⟩ := hrel
    have s5 := cell_kept hb sA c5
    have s6 := cell_kept hb sA c6
    have s7 := cell_kept hb sA c7
    have k5 := cell_regrown s5
    have k6 := cell_regrown s6
    have k7 := cell_regrown s7
    have Hb := Lib.hid hb
    rcases Nat.lt_or_ge k 3 with hlt | hge
    · have y1 := cell_kept hb hbL (HcL.out k hlt)
      have y2 := cell_kept hb hbS (HcS.out k hlt)
      have kl := cell_regrown y1
      have ks := cell_regrown y2
      have k1 : (k : Int) < 3 := by omega
      have k0 : (0 : Int) ≤ k := by omega
      generalize hx : L k = x at *
      have HX := Lib.hid hx
      generalize hy : S k = y at *
      have HY := Lib.hid hy
      clear hx hy hb
      by_cases l1 : 0 ≤ x ∧ x ≤ cap
      rotate_left
      · have hno : Hid (¬ PO) := fun h => l1 (by rw [← HX.out]; exact ((hiff.out.1 h).2.2.2.2.2.2.2.1 k hlt).1)
        have cI := inB x 0 cap false (in_no l1) wr
        clear l1
        go_wp2_with fail
        refine regionB (by kernel_rfl) (by kernel_rfl) ?_
        repeat (refine QW.step (fun K hK => ?_); go_simp; first | (refine hK.out _ ?_; clear hK K) | (apply Exists.intro; refine And.intro (fun _ => ?_) (hK.out _ ?_); exact cI _ _; clear hK K))
        refine QW.nil ?_
        intro _ hw'
        obtain ⟨⟨dq, osq⟩, hw''⟩ := hw'
        subst hw''
        go_wp2
        go_ret
        exact okPost_no rfl hno.out (bt HbA.out (bt Hb.out (below_regrown wr dq osq)))
      have cI := inB x 0 cap true (in_yes l1) wr
      have L1 := Lib.hid l1
      clear l1
      have NEXT : 0 ≤ y ∧ y ≤ cap → (0 < k → x ≤ L (k - 1)) → Hid (∀ i, i < k + 1 → (0 ≤ L i ∧ L i ≤ cap) ∧ (0 < i → L i ≤ L (i - 1)) ∧ (0 ≤ S i ∧ S i ≤ cap)) := by
        intro hy1 hx1 i hi
        rcases Nat.lt_or_ge i k with h1 | h1
        · exact hto.out i h1
        · obtain rfl : i = k := by omega
          rw [HX.out, HY.out]; exact ⟨L1.out, hx1, hy1⟩
      have BADS : ¬ (0 ≤ y ∧ y ≤ cap) → Hid (¬ PO) := fun hn h => hn (by rw [← HY.out]; exact ((hiff.out.1 h).2.2.2.2.2.2.2.1 k hlt).2.2)
      have BADX : 0 < k → ¬ x ≤ L (k - 1) → Hid (¬ PO) := fun h0 hn h => hn (by rw [← HX.out]; exact ((hiff.out.1 h).2.2.2.2.2.2.2.1 k hlt).2.1 h0)
      rcases Nat.eq_zero_or_pos k with hk0 | hkp
      · subst hk0
        simp only [Nat.add_zero] at y1 kl y2 ks
        have NEXT0 := fun hy1 => NEXT hy1 (fun h => absurd h (Nat.lt_irrefl 0))
        clear NEXT BADX k1 k0
        by_cases l2 : 0 ≤ y ∧ y ≤ cap
        rotate_left
        · have hno := BADS l2
          have cJ := inB y 0 cap false (in_no l2) wr
          clear l2 BADS NEXT0
          go_wp2_with fail
          refine regionB (by kernel_rfl) (by kernel_rfl) ?_
          repeat (refine QW.step (fun K hK => ?_); go_simp; first | (refine hK.out _ ?_; clear hK K) | (apply Exists.intro; refine And.intro (fun _ => ?_) (hK.out _ ?_); first | (go_at_call_of 43 x; exact cI _ _) | (go_at_call_of 43 y; exact cJ _ _); clear hK K))
          refine QW.nil ?_
          intro _ hw'
          obtain ⟨⟨dq, osq⟩, hw''⟩ := hw'
          subst hw''
          go_wp2
          go_ret
          exact okPost_no rfl hno.out (bt HbA.out (bt Hb.out (below_regrown wr dq osq)))
        have hnx := NEXT0 l2
        have cJ := inB y 0 cap true (in_yes l2) wr
        clear l2 BADS NEXT0
        go_wp2_with fail
        refine regionB (by kernel_rfl) (by kernel_rfl) ?_
        repeat (refine QW.step (fun K hK => ?_); go_simp; first | (refine hK.out _ ?_; clear hK K) | (apply Exists.intro; refine And.intro (fun _ => ?_) (hK.out _ ?_); first | (go_at_call_of 43 x; exact cI _ _) | (go_at_call_of 43 y; exact cJ _ _); clear hK K))
        refine QW.nil ?_
        intro _ hw'
        obtain ⟨⟨dq, osq⟩, hw''⟩ := hw'
        subst hw''
        have hb2 := bt Hb.out (below_regrown wr dq osq)
        generalize Go.Sort.grow (redrawn wr dq) osq = W3 at *
        go_wp2
        go_roundw
        case rel => exact ⟨1, by omega, by go_num, hnx.out, hb2⟩
        case measure => simp [intOf]; try omega
      · have z0 : (0 : Int) < (k : Int) := by omega
        obtain ⟨j, rfl⟩ : ∃ j, k = j + 1 := ⟨k - 1, by omega⟩
        have y3 := cell_kept Hb.out hbL (HcL.out j (by omega))
        have kj := cell_regrown y3
        have w1 : IntKind.i64.wrap ((j : Int) + 1 - 1) = (j : Int) := by rw [IntWalk.i64_in _ (by omega)]; omega
        have j3 : (j : Int) < 3 := by omega
        have jp : (0 : Int) ≤ (j : Int) + 1 := by omega
        have w2 : IntKind.i64.wrap (j : Int) = (j : Int) := IntWalk.i64_in _ (by omega)
        have zb1 : decide ((0 : Int) < (j : Int) + 1) = true := decide_eq_true (by omega)
        have zb2 : decide (0 < j + 1) = true := decide_eq_true (by omega)
        have zb3 : decide ((0 : Int) < ((j + 1 : Nat) : Int)) = true := decide_eq_true (by omega)
        have j00 : (0 : Int) ≤ j := by omega
        simp only [Nat.add_sub_cancel] at BADX NEXT
        generalize L j = u at *
        rcases Int.lt_or_le u x with l3 | l3
        · have hno := BADX hkp (by omega)
          have zb4 : decide (u < x) = true := by simp; omega
          clear BADS BADX NEXT
          go_wp2_with fail
          refine regionB (by kernel_rfl) (by kernel_rfl) ?_
          repeat (refine QW.step (fun K hK => ?_); go_simp; first | (refine hK.out _ ?_; clear hK K) | (apply Exists.intro; refine And.intro (fun _ => ?_) (hK.out _ ?_); first | (go_at_call_of 43 x; exact cI _ _) | (go_at_call_of 43 y; exact cJ _ _); clear hK K))
          refine QW.nil ?_
          intro _ hw'
          obtain ⟨⟨dq, osq⟩, hw''⟩ := hw'
          subst hw''
          go_wp2
          go_ret
          exact okPost_no rfl hno.out (bt HbA.out (bt Hb.out (below_regrown wr dq osq)))
        have zb4 : decide (u < x) = false := by simp; omega
        by_cases l2 : 0 ≤ y ∧ y ≤ cap
        rotate_left
        · have hno := BADS l2
          have cJ := inB y 0 cap false (in_no l2) wr
          clear l2 BADS BADX NEXT
          go_wp2_with fail
          refine regionB (by kernel_rfl) (by kernel_rfl) ?_
          repeat (refine QW.step (fun K hK => ?_); go_simp; first | (refine hK.out _ ?_; clear hK K) | (apply Exists.intro; refine And.intro (fun _ => ?_) (hK.out _ ?_); first | (go_at_call_of 43 x; exact cI _ _) | (go_at_call_of 43 y; exact cJ _ _); clear hK K))
          refine QW.nil ?_
          intro _ hw'
          obtain ⟨⟨dq, osq⟩, hw''⟩ := hw'
          subst hw''
          go_wp2
          go_ret
          exact okPost_no rfl hno.out (bt HbA.out (bt Hb.out (below_regrown wr dq osq)))
        have hnx := NEXT l2 (fun _ => l3)
        have cJ := inB y 0 cap true (in_yes l2) wr
        clear l2 BADS BADX NEXT
        go_wp2_with fail
        refine regionB (by kernel_rfl) (by kernel_rfl) ?_
        repeat (refine QW.step (fun K hK => ?_); go_simp; first | (refine hK.out _ ?_; clear hK K) | (apply Exists.intro; refine And.intro (fun _ => ?_) (hK.out _ ?_); first | (go_at_call_of 43 x; exact cI _ _) | (go_at_call_of 43 y; exact cJ _ _); clear hK K))
        refine QW.nil ?_
        intro _ hw'
        obtain ⟨⟨dq, osq⟩, hw''⟩ := hw'
        subst hw''
        have hb2 := bt Hb.out (below_regrown wr dq osq)
        generalize Go.Sort.grow (redrawn wr dq) osq = W3 at *
        go_wp2
        go_roundw
        case rel => exact ⟨j + 1 + 1, by omega, by go_num, hnx.out, hb2⟩
        case measure => simp [intOf]; omega
    · have hk3 : k = 3 := by omega
      have HLS : Hid (∀ i, i < 3 → (0 ≤ L i ∧ L i ≤ cap) ∧ (0 < i → L i ≤ L (i - 1)) ∧ (0 ≤ S i ∧ S i ≤ cap)) := by
        have := hto.out
        rw [hk3] at this
        exact this
      have z3 : (3 : Int) ≤ (k : Int) := by omega
      clear hk3
      have hyes : Hid ((∀ i, i < nB → (0 ≤ B i ∧ B i ≤ 1000000000) ∧ (0 < i → B i ≤ B (i - 1))) → PO) := fun h => hiff.out.2 ⟨⟨N0.out, N1.out, N2.out, He.out, J0.out, J1.out⟩, J2.out, (by first | rfl | trivial), (by first | rfl | trivial), E3.out, E4.out, h6, HLS.out, h⟩
      clear hto k5 k6 k7 s5 s6 s7 hb hge hk
      generalize k = k3 at *
      generalize wr = wx at *
      go_wp2_with fail
      go_loopw [4] (fun v wr => ∃ k : Nat, k ≤ nB ∧ v = .int .i64 k ∧ Hid (∀ i, i < k → (0 ≤ B i ∧ B i ≤ 1000000000) ∧ (0 < i → B i ≤ B (i - 1))) ∧ Below W.heap.size W wr) (fun v _ => nB - (intOf v).toNat)
      case atStart => exact ⟨0, by omega, rfl, fun i hi => absurd hi (Nat.not_lt_zero _), Hb.out⟩
      case round =>
        obtain ⟨k, hk, rfl, hto, hb⟩ := hrel
        have s8 := cell_kept hb sA c8
        have k8 := cell_regrown s8
        have Hb2 := Lib.hid hb
        rcases Nat.lt_or_ge k nB with hlt | hge
        · obtain ⟨bB, oB, rfl, hbB, hcB⟩ := HI3.out.cells (by omega)
          have y1 := cell_kept hb hbB (hcB k hlt)
          have kl := cell_regrown y1
          have k1 : (k : Int) < nB := by omega
          have k0 : (0 : Int) ≤ k := by omega
          have HcB := Lib.hid hcB
          generalize hx : B k = x at *
          have HX := Lib.hid hx
          clear hx hb hcB
          by_cases l1 : 0 ≤ x ∧ x ≤ 1000000000
          rotate_left
          · have hno : Hid (¬ PO) := fun h => l1 (by rw [← HX.out]; exact ((hiff.out.1 h).2.2.2.2.2.2.2.2 k hlt).1)
            have cI := inB x 0 1000000000 false (in_no l1) wr
            clear l1
            go_wp2_with fail
            refine regionB (by kernel_rfl) (by kernel_rfl) ?_
            repeat (refine QW.step (fun K hK => ?_); go_simp; first | (refine hK.out _ ?_; clear hK K) | (apply Exists.intro; refine And.intro (fun _ => ?_) (hK.out _ ?_); exact cI _ _; clear hK K))
            refine QW.nil ?_
            intro _ hw'
            obtain ⟨⟨dq, osq⟩, hw''⟩ := hw'
            subst hw''
            go_wp2
            go_ret
            exact okPost_no rfl hno.out (bt HbA.out (bt Hb2.out (below_regrown wr dq osq)))
          have cI := inB x 0 1000000000 true (in_yes l1) wr
          have L1 := Lib.hid l1
          clear l1
          have NEXT : (0 < k → x ≤ B (k - 1)) → Hid (∀ i, i < k + 1 → (0 ≤ B i ∧ B i ≤ 1000000000) ∧ (0 < i → B i ≤ B (i - 1))) := by
            intro hx1 i hi
            rcases Nat.lt_or_ge i k with h1 | h1
            · exact hto.out i h1
            · obtain rfl : i = k := by omega
              rw [HX.out]; exact ⟨L1.out, hx1⟩
          have BADX : 0 < k → ¬ x ≤ B (k - 1) → Hid (¬ PO) := fun h0 hn h => hn (by rw [← HX.out]; exact ((hiff.out.1 h).2.2.2.2.2.2.2.2 k hlt).2 h0)
          rcases Nat.eq_zero_or_pos k with hk0 | hkp
          · subst hk0
            simp only [Nat.add_zero] at y1 kl
            have hnx := NEXT (fun h => absurd h (Nat.lt_irrefl 0))
            have nb0 : (0 : Int) < (nB : Int) := by omega
            clear NEXT BADX k1 k0
            go_wp2_with fail
            refine regionB (by kernel_rfl) (by kernel_rfl) ?_
            repeat (refine QW.step (fun K hK => ?_); go_simp; first | (refine hK.out _ ?_; clear hK K) | (apply Exists.intro; refine And.intro (fun _ => ?_) (hK.out _ ?_); exact cI _ _; clear hK K))
            refine QW.nil ?_
            intro _ hw'
            obtain ⟨⟨dq, osq⟩, hw''⟩ := hw'
            subst hw''
            have hb2 := bt Hb2.out (below_regrown wr dq osq)
            generalize Go.Sort.grow (redrawn wr dq) osq = W3 at *
            go_wp2
            go_roundw
            case rel => exact ⟨1, by omega, by go_num, hnx.out, hb2⟩
            case measure => simp [intOf]; try omega
          · obtain ⟨j, rfl⟩ : ∃ j, k = j + 1 := ⟨k - 1, by omega⟩
            have y3 := cell_kept Hb2.out hbB (HcB.out j (by omega))
            have kj := cell_regrown y3
            have w1 : IntKind.i64.wrap ((j : Int) + 1 - 1) = (j : Int) := by rw [IntWalk.i64_in _ (by omega)]; omega
            have w2 : IntKind.i64.wrap (j : Int) = (j : Int) := IntWalk.i64_in _ (by omega)
            have j3 : (j : Int) < nB := by omega
            have j4 : (j : Int) + 1 < nB := by omega
            have jp : (0 : Int) ≤ (j : Int) + 1 := by omega
            have zb1 : decide ((0 : Int) < (j : Int) + 1) = true := decide_eq_true (by omega)
            have zb2 : decide (0 < j + 1) = true := decide_eq_true (by omega)
            have zb3 : decide ((0 : Int) < ((j + 1 : Nat) : Int)) = true := decide_eq_true (by omega)
            have j00 : (0 : Int) ≤ j := by omega
            simp only [Nat.add_sub_cancel] at BADX NEXT
            generalize B j = u at *
            rcases Int.lt_or_le u x with l3 | l3
            · have hno := BADX hkp (by omega)
              have zb4 : decide (u < x) = true := by simp; omega
              clear BADX NEXT
              go_wp2_with fail
              refine regionB (by kernel_rfl) (by kernel_rfl) ?_
              repeat (refine QW.step (fun K hK => ?_); go_simp; first | (refine hK.out _ ?_; clear hK K) | (apply Exists.intro; refine And.intro (fun _ => ?_) (hK.out _ ?_); exact cI _ _; clear hK K))
              refine QW.nil ?_
              intro _ hw'
              obtain ⟨⟨dq, osq⟩, hw''⟩ := hw'
              subst hw''
              go_wp2
              go_ret
              exact okPost_no rfl hno.out (bt HbA.out (bt Hb2.out (below_regrown wr dq osq)))
            have zb4 : decide (u < x) = false := by simp; omega
            have hnx := NEXT (fun _ => l3)
            clear BADX NEXT
            go_wp2_with fail
            refine regionB (by kernel_rfl) (by kernel_rfl) ?_
            repeat (refine QW.step (fun K hK => ?_); go_simp; first | (refine hK.out _ ?_; clear hK K) | (apply Exists.intro; refine And.intro (fun _ => ?_) (hK.out _ ?_); exact cI _ _; clear hK K))
            refine QW.nil ?_
            intro _ hw'
            obtain ⟨⟨dq, osq⟩, hw''⟩ := hw'
            subst hw''
            have hb2 := bt Hb2.out (below_regrown wr dq osq)
            generalize Go.Sort.grow (redrawn wr dq) osq = W3 at *
            go_wp2
            go_roundw
            case rel => exact ⟨j + 1 + 1, by omega, by go_num, hnx.out, hb2⟩
            case measure => simp [intOf]; omega
        · obtain rfl : k = nB := by omega
          have hyes2 : Hid PO := hyes.out hto.out
          go_wp2
          go_ret
          exact okPost_yes rfl hyes2.out (bt HbA.out hb)
end Go.Proofs.YtdaccpffdnbkiaaGreatDoor
