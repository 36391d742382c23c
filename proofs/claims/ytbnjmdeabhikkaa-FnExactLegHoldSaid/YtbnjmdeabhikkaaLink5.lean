/-
  What is held of a leg, put into a linked list one by one.
-/
import Derived.Test.YtbnjmdeabhikkaaLink4
namespace Go.Proofs.Ytbnjmdeabhikkaa
open Go.RowKit
set_option linter.unusedVariables false
set_option linter.unusedSimpArgs false

/-- The list has the first k of what is held. -/
def RdN (L : List Nd) (t c s : Nat → Int) (k : Nat) : Prop := L.length = k ∧ ∀ (i : Nat) (n : Nd), L[i]? = some n → n.t = t i ∧ n.c = c i ∧ n.s = s i
theorem RdN.snoc {L : List Nd} {t c s : Nat → Int} {k b : Nat} (h : RdN L t c s k) : RdN (L ++ [⟨b, t k, c k, s k⟩]) t c s (k + 1) := by
  refine ⟨by simp [h.1], fun i n hi => ?_⟩
  rcases Nat.lt_or_ge i L.length with h1 | h1
  · rw [List.getElem?_append_left h1] at hi; exact h.2 i n hi
  · rw [List.getElem?_append_right h1] at hi
    have : i - L.length = 0 := by
      rcases Nat.eq_zero_or_pos (i - L.length) with q | q
      · exact q
      · rw [List.getElem?_eq_none (by simp; omega)] at hi; cases hi
    rw [this] at hi
    have hik : i = k := by have := h.1; omega
    subst hik
    simp at hi
    subst hi
    exact ⟨rfl, rfl, rfl⟩
theorem RdN.tN {L : List Nd} {t c s : Nat → Int} {k : Nat} (h : RdN L t c s k) {i : Nat} (hi : i < k) : tN L i = t i ∧ cN L i = c i ∧ sN L i = s i := by
  have hl : i < L.length := by rw [h.1]; exact hi
  have e := List.getElem?_eq_getElem hl
  have := h.2 i _ e
  simp only [Go.Proofs.Ytbnjmdeabhikkaa.tN, cN, sN, List.getD_eq_getElem?_getD, List.getElem?_map, e]
  exact this

set_option maxHeartbeats 4000000 in
theorem heldOfI (d : LegD) (p : LegP) (w : World) (h : LegIn w d p) (hh : HoldsOk d) :
    Calls Try.prog 43 #[LegV d p] w fun e w' => (∃ hb L, e = .returned (.pointer (some ⟨hb, 0, none⟩)) ∧ HList w.heap.size w' hb L ∧ RdN L d.t d.c d.s d.nH) ∧ Below w.heap.size w w' := by
  have hbA : Below w.heap.size w (w.alloc (.cells (LegC d p) 31)) := (Below.refl _ _).alloc (Nat.le_refl _) _
  have hA := LegBox.new w d p
  have hbB : Below w.heap.size w ((w.alloc (.cells (LegC d p) 31)).alloc (.cells #[.pointer none] 77)) := hbA.alloc (by simp) _
  have b9 := (hA.kept ((Below.refl _ _).alloc (Nat.le_refl _) (.cells #[.pointer none] 77))).c9
  have hl0 : HList w.heap.size ((w.alloc (.cells (LegC d p) 31)).alloc (.cells #[.pointer none] 77)) (w.heap.size + 1) [] :=
    ⟨by omega, fun k n hk => (by cases hk), by have := heap_alloc_new (w.alloc (.cells (LegC d p) 31)) (.cells #[.pointer none] 77); rwa [World.size_alloc] at this, fun k n hk => (by cases hk), fun k n hk => (by cases hk), fun i j m n hi => (by cases hi)⟩
  have HIn := Lib.hid h.2.2.2
  have HbB := Lib.hid hbB
  have HL0 := Lib.hid hl0
  have HH := Lib.hid hh
  have hn6 := hh.1
  have hVC : LegV d p = .agg (LegC d p) := rfl
  rw [hVC]
  generalize hLC : LegC d p = LC at *
  clear hbA hbB hA hl0 hLC h hh hVC
  go_enter Try.func43, Try.ntmps43
  go_wp2_with fail
  have hsz : w.heap.size ≤ ((w.alloc (.cells LC 31)).alloc (.cells #[.pointer none] 77)).heap.size := HbB.out.size
  generalize (w.alloc (.cells LC 31)).alloc (.cells #[.pointer none] 77) = W at *
  go_loopw [11] (fun v wr => ∃ k : Nat, k ≤ d.nH ∧ v = .int .i64 k ∧ ∃ L, Hid (HList w.heap.size wr (w.heap.size + 1) L ∧ RdN L d.t d.c d.s k) ∧ Below w.heap.size w wr) (fun v _ => d.nH - (intOf v).toNat)
  case atStart => exact ⟨0, Nat.zero_le _, rfl, [], ⟨HL0.out, rfl, fun i n hi => (by cases hi)⟩, HbB.out⟩
  case round =>
    obtain ⟨k, hk, rfl, L, HLk, hb⟩ := hrel
    rcases Nat.lt_or_ge k d.nH with hlt | hge
    · obtain ⟨bH, oH, eH, hbH, hcH⟩ := HIn.out.cells (by omega)
      rw [eH]
      have c1 := cell_kept hb hbH (hcH k hlt).1
      have c2 := cell_kept hb hbH (hcH k hlt).2.1
      have c3 := cell_kept hb hbH (hcH k hlt).2.2
      have k1 : (k : Int) < d.nH := by omega
      have k0 : (0 : Int) ≤ k := by omega
      have hasc : Hid (AtPos L (d.t k) L.length) := by
        refine ⟨Nat.le_refl _, fun i n hi hn => ?_, fun n hn => by rw [List.getElem?_eq_none (Nat.le_refl _)] at hn; cases hn⟩
        rw [(HLk.out.2.2 i n hn).1]
        have hik : i < k := by rw [← HLk.out.2.1]; exact hi
        have : ∀ j, i + j + 1 ≤ k → d.t i < d.t (i + j + 1) := by
          intro j
          induction j with
          | zero => intro hj; have := (HH.out.2 (i + 1) (by omega)).2; simpa using this
          | succ j ih => intro hj; have h1 := ih (by omega); have := (HH.out.2 (i + (j + 1) + 1) (by omega)).2; simp at this; rw [show i + j + 1 = i + (j + 1) from by omega] at h1; omega
        have := this (k - i - 1) (by omega)
        rwa [show i + (k - i - 1) + 1 = k from by omega] at this
      have hrd := HLk.out.2
      have HRd := Lib.hid hrd
      clear hcH eH hrd
      generalize hx1 : d.t k = x1 at *
      generalize hx2 : d.c k = x2 at *
      generalize hx3 : d.s k = x3 at *
      have HX := Lib.hid (And.intro hx1 (And.intro hx2 hx3))
      clear hx1 hx2 hx3
      have Hb := Lib.hid hb
      have hb1 : Below wr.heap.size wr (wr.alloc (.cells #[.int .i64 x1, .int .i64 x2, .int .i64 x3] 35)) := (Below.refl _ _).alloc (Nat.le_refl _) _
      have Hb1 := Lib.hid hb1
      obtain ⟨d0, d1, d2⟩ := row3 (heap_alloc_new wr (.cells #[.int .i64 x1, .int .i64 x2, .int .i64 x3] 35))
      clear hb1 hb
      go_wp2_with fail
      refine (putI w.heap.size (w.heap.size + 1) L x1 x2 x3 _ (HLk.out.1.kept Hb1.out) (Nat.le_trans Hb.out.size Hb1.out.size)).mono ?_
      rintro e w6 ⟨⟨v, rfl⟩, ⟨k', b', hp', hl'⟩, hb6⟩
      have hnx : Hid (HList w.heap.size w6 (w.heap.size + 1) (L ++ [⟨b', x1, x2, x3⟩]) ∧ RdN (L ++ [⟨b', x1, x2, x3⟩]) d.t d.c d.s (k + 1)) := by
        have e := hp'.one hasc.out
        rw [e, List.insertIdx_length_self] at hl'
        refine ⟨hl', ?_⟩
        rw [← HX.out.1, ← HX.out.2.1, ← HX.out.2.2]
        exact HRd.out.snoc
      have hb7 := (Hb.out.trans (Hb1.out.mono Hb.out.size)).trans hb6
      clear hp' hl' hb6 c1 c2 c3 d0 d1 d2
      go_wp2
      go_roundw
      case rel => exact ⟨k + 1, by omega, by go_num, _, hnx.out, hb7⟩
      case measure => simp [intOf]; omega
    · obtain rfl : k = d.nH := by omega
      go_wp2
      go_ret
      exact ⟨⟨_, L, rfl, HLk.out.1, HLk.out.2⟩, hb⟩
end Go.Proofs.Ytbnjmdeabhikkaa
