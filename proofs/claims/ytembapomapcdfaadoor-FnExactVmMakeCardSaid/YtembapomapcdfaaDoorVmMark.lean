/-
  How many numbers an op takes, and what is marked at a place: the model's side.
-/
import Derived.Test.YtembapomapcdfaaDoorVmPlain
import Derived.Test.YtembapomapcdfaaDoorRuleFits
namespace Go.Proofs.YtembapomapcdfaaDoor
open Go.RowKit
set_option linter.unusedVariables false
set_option linter.unusedSimpArgs false

def takesV (o : Int) : Int × Int := if o = 1 ∨ o = 2 then (0, 1) else if o = 10 then (1, 1) else if o = 3 ∨ o = 4 ∨ o = 5 ∨ o = 7 ∨ o = 8 then (2, 1) else if o = 6 then (3, 1) else if o = 9 then (2, 0) else if o = 11 then (0, 0) else (-1, 0)
theorem takes_bad {o : Int} (h : ¬ (1 ≤ o ∧ o ≤ 11)) : takesV o = (-1, 0) := by
  unfold takesV
  repeat rw [if_neg (by omega)]
theorem ops11 {o : Int} (h : 1 ≤ o ∧ o ≤ 11) : o = 1 ∨ o = 2 ∨ o = 3 ∨ o = 4 ∨ o = 5 ∨ o = 6 ∨ o = 7 ∨ o = 8 ∨ o = 9 ∨ o = 10 ∨ o = 11 := by omega
set_option maxRecDepth 20000 in
set_option maxHeartbeats 8000000 in
theorem specTakes (o : Int) (w : World) : Calls Tryd.prog 69 #[.int .i64 o] w fun e w' => e = .returned (.tuple #[.int .i64 (takesV o).1, .int .i64 (takesV o).2]) ∧ w' = w := by
  by_cases hin : 1 ≤ o ∧ o ≤ 11
  · rcases ops11 hin with rfl | rfl | rfl | rfl | rfl | rfl | rfl | rfl | rfl | rfl | rfl
    all_goals
      clear hin
      go_enter Tryd.func69, Tryd.ntmps69
      go_wp2
      go_ret2
      exact ⟨rfl, rfl⟩
  · rw [takes_bad hin]
    have b1 : (o == 1) = false := by simp; omega
    have b2 : (o == 2) = false := by simp; omega
    have b3 : (o == 3) = false := by simp; omega
    have b4 : (o == 4) = false := by simp; omega
    have b5 : (o == 5) = false := by simp; omega
    have b6 : (o == 6) = false := by simp; omega
    have b7 : (o == 7) = false := by simp; omega
    have b8 : (o == 8) = false := by simp; omega
    have b9 : (o == 9) = false := by simp; omega
    have b10 : (o == 10) = false := by simp; omega
    have b11 : (o == 11) = false := by simp; omega
    clear hin
    go_enter Tryd.func69, Tryd.ntmps69
    go_wp2
    go_ret2
    exact ⟨rfl, rfl⟩
/-- What is at hand at a place: marked, or as it was marked before. -/
def markV (hs : List Int) (i : Nat) (n : Int) : List Int × Bool := if 0 ≤ hs.getD i 0 then (hs, hs.getD i 0 == n) else (hs.set i n, true)
theorem markV_len (hs : List Int) (i : Nat) (n : Int) : (markV hs i n).1.length = hs.length := by
  unfold markV
  split <;> simp
/-- The numbers at hand in memory of one's own. -/
def HighR (w : World) (base g m c : Nat) (hs : List Int) : Prop := m = hs.length ∧ w.ownsRow base 3 1 (.slice (some ⟨g, 0, none⟩) m c) m (hs.map (Value.int .i64))
theorem HighR.at {w : World} {base g m c : Nat} {hs : List Int} (h : HighR w base g m c hs) {i : Nat} (hi : i < m) : w.cell? ⟨g, i, none⟩ = some (.int .i64 (hs.getD i 0)) := by
  have hl : i < hs.length := by rw [← h.1]; exact hi
  rw [h.2.cellAt i (by omega)]
  simp [hl]
theorem HighR.set {w : World} {base g m c : Nat} {hs : List Int} (h : HighR w base g m c hs) (i : Nat) (n : Int) : HighR (w.setCell ⟨g, i, none⟩ (.int .i64 n)) base g m c (hs.set i n) := by
  refine ⟨by rw [List.length_set]; exact h.1, ?_⟩
  rw [List.map_set]
  exact (h.2.stored i _).1
def MarkP (hs : List Int) (i : Nat) (n : Int) (base g m c : Nat) (w : World) (e : Ending) (w' : World) : Prop := e = .returned (.bool (markV hs i n).2) ∧ HighR w' base g m c (markV hs i n).1 ∧ w.grownBy w' (some g)
set_option maxHeartbeats 8000000 in
theorem specMark (hs : List Int) (i : Nat) (n : Int) (base g m c : Nat) (w : World) (h : HighR w base g m c hs) (hi : i < m) :
    Calls Tryd.prog 71 #[.slice (some ⟨g, 0, none⟩) m c, .int .i64 i, .int .i64 n] w (MarkP hs i n base g m c w) := by
  have c0 := h.at hi
  have fz := h.2.frozenAt i
  have HSET := Lib.hid (h.set i n)
  have HG := Lib.hid (grown_set w ⟨g, i, none⟩ (.int .i64 n))
  have H := Lib.hid h
  have k0 : (0 : Int) ≤ i := by omega
  have k1 : (i : Int) < m := by omega
  unfold MarkP markV
  clear h
  generalize hs.getD i 0 = v at *
  rcases Int.lt_or_le v 0 with hv | hv
  · have z : decide (0 ≤ v) = false := decide_eq_false (by omega)
    rw [if_neg (by omega)]
    clear hv
    go_enter Tryd.func71, Tryd.ntmps71
    go_wp2
    go_ret
    exact ⟨rfl, HSET.out, HG.out⟩
  · have z : decide (0 ≤ v) = true := decide_eq_true hv
    rw [if_pos hv]
    clear hv
    go_enter Tryd.func71, Tryd.ntmps71
    go_wp2
    go_ret
    exact ⟨rfl, H.out, grown_any (Below.refl _ _)⟩
end Go.Proofs.YtembapomapcdfaaDoor
