/-
  When a text begins with a word, and which words a text is: in plain words; no program is walked here.
-/
import Derived.Test.YtifpdamghmlcfaaDoorDig
import Derived.Test.YtifpdamghmlcfaaDoorWireDef
namespace Go.Proofs.YtifpdamghmlcfaaDoor
open Go.RowKit
set_option linter.unusedVariables false

/-- A text begins with a word. -/
def Begins (t : List UInt8) (x : ByteArray) : Prop := wire1 x <+: t
theorem wire1_eq (x : ByteArray) (r : List UInt8) : wire1 x ++ r = Lib.decDigits x.size ++ 58 :: (x.data.toList ++ 44 :: r) := by simp [wire1]
theorem begins_cut {t : List UInt8} {x : ByteArray} (h : Begins t x) : ∃ r, Lib.cut t [58] = (Lib.decDigits x.size, x.data.toList ++ 44 :: r, true) ∧ t = wire1 x ++ r := by
  obtain ⟨r, rfl⟩ := h
  refine ⟨r, ?_, rfl⟩
  rw [wire1_eq, cut_colon _ _ (dec_no_colon _)]
theorem wire1_pos (x : ByteArray) : 1 ≤ (wire1 x).length := by
  simp only [wire1, List.length_append, List.length_cons, List.length_nil]; omega
theorem begins_size {t : List UInt8} {x : ByteArray} (h : Begins t x) : x.size + 3 ≤ t.length := by
  obtain ⟨r, rfl⟩ := h
  have := dec_pos x.size
  have e : x.data.toList.length = x.size := by simp
  simp only [wire1, List.length_append, List.length_cons, List.length_nil, e]; omega
theorem begins_one {t : List UInt8} {x y : ByteArray} (hs : t.length ≤ 1000000000) (h : Begins t x) (h' : Begins t y) : x = y := by
  have s1 := begins_size h
  have s2 := begins_size h'
  obtain ⟨r, e1, -⟩ := begins_cut h
  obtain ⟨r', e2, -⟩ := begins_cut h'
  rw [e1] at e2
  have e3 : Lib.decDigits x.size = Lib.decDigits y.size := congrArg Prod.fst e2
  have e4 : x.data.toList ++ 44 :: r = y.data.toList ++ 44 :: r' := congrArg (fun p => p.2.1) e2
  have e5 := num_digits x.size (by omega)
  rw [e3, num_digits y.size (by omega)] at e5
  have e6 : x.data.toList.length = y.data.toList.length := by simp; omega
  have := (List.append_inj e4 e6).1
  exact ByteArray.ext (by simpa using this)

theorem wireL_app (a b : List ByteArray) : wireL (a ++ b) = wireL a ++ wireL b := by
  induction a with
  | nil => simp [wireL]
  | cons x r ih => simp only [List.cons_append, wireL, ih, List.append_assoc]
theorem wireL_count (a : List ByteArray) : a.length ≤ (wireL a).length := by
  induction a with
  | nil => simp [wireL]
  | cons x r ih => simp only [wireL, List.length_append, List.length_cons]; have := wire1_pos x; omega
/-- Words ahead of a rest are the first of all words that the text is. -/
theorem wireL_split : ∀ (ws vs : List ByteArray) (r : List UInt8), (wireL vs).length ≤ 1000000000 → wireL ws ++ r = wireL vs → ∃ us, vs = ws ++ us ∧ r = wireL us
  | [], vs, r, _, h => ⟨vs, rfl, by simpa [wireL] using h⟩
  | x :: ws, [], r, _, h => by
    have h1 := congrArg List.length h
    have := wire1_pos x
    simp only [wireL, List.length_append, List.length_nil] at h1; omega
  | x :: ws, y :: vs, r, hs, h => by
    have h1 : Begins (wireL (y :: vs)) x := ⟨wireL ws ++ r, by rw [← h, wireL, List.append_assoc]⟩
    have h2 : Begins (wireL (y :: vs)) y := ⟨wireL vs, rfl⟩
    have := begins_one hs h1 h2
    subst this
    simp only [wireL, List.append_assoc] at h
    have h3 := List.append_cancel_left h
    have hs2 : (wireL vs).length ≤ 1000000000 := by simp only [wireL, List.length_append] at hs; omega
    obtain ⟨us, rfl, rfl⟩ := wireL_split ws vs r hs2 h3
    exact ⟨us, rfl, rfl⟩

/-- What WireGet says of a text. -/
def GetIs (t : List UInt8) (ws : List ByteArray) (b : Bool) : Prop :=
  (b = true ∧ t.length ≤ 6000 ∧ ws.length ≤ 40 ∧ t = wireL ws) ∨ (b = false ∧ ws = [] ∧ (6000 < t.length ∨ ∀ vs, t = wireL vs → 40 < vs.length))
theorem get_one {t : List UInt8} {ws vs : List ByteArray} {b c : Bool} (h : GetIs t ws b) (h' : GetIs t vs c) : ws = vs ∧ b = c := by
  rcases h with ⟨rfl, h1, h2, h3⟩ | ⟨rfl, rfl, h4⟩
  · rcases h' with ⟨rfl, k1, k2, k3⟩ | ⟨rfl, rfl, k4⟩
    · obtain ⟨us, e1, e2⟩ := wireL_split ws vs [] (by rw [← k3]; omega) (by rw [List.append_nil, ← h3, k3])
      refine ⟨?_, rfl⟩
      cases us with
      | nil => simpa using e1.symm
      | cons x r =>
        have := wire1_pos x
        have := congrArg List.length e2
        simp [wireL] at this; omega
    · rcases k4 with k | k
      · omega
      · have := k ws h3; omega
  · rcases h' with ⟨rfl, k1, k2, k3⟩ | ⟨rfl, rfl, k4⟩
    · rcases h4 with k | k
      · omega
      · have := k vs k3; omega
    · exact ⟨rfl, rfl⟩
/-- No word begins behind the first words: the text is no words. -/
theorem get_bad {t r : List UInt8} {ws : List ByteArray} (hs : t.length ≤ 6000) (h : t = wireL ws ++ r) (h0 : r ≠ []) (hb : ∀ x, ¬ Begins r x) : GetIs t [] false := by
  refine Or.inr ⟨rfl, rfl, Or.inr fun vs e => ?_⟩
  obtain ⟨us, e1, e2⟩ := wireL_split ws vs r (by rw [← e]; omega) (by rw [← h, e])
  cases us with
  | nil => exact absurd e2 h0
  | cons x q => exact absurd ⟨wireL q, e2.symm⟩ (hb x)
theorem get_many {t r : List UInt8} {ws : List ByteArray} (hs : t.length ≤ 6000) (h : t = wireL ws ++ r) (h0 : 40 < ws.length ∨ 40 ≤ ws.length ∧ r ≠ []) : GetIs t [] false := by
  refine Or.inr ⟨rfl, rfl, Or.inr fun vs e => ?_⟩
  obtain ⟨us, e1, e2⟩ := wireL_split ws vs r (by rw [← e]; omega) (by rw [← h, e])
  subst e1
  rcases h0 with h0 | ⟨h0, h1⟩
  · simp; omega
  · cases us with
    | nil => exact absurd e2 h1
    | cons x q => simp; omega
theorem get_long {t : List UInt8} (hs : 6000 < t.length) : GetIs t [] false := Or.inr ⟨rfl, rfl, Or.inl hs⟩
theorem get_ok {t : List UInt8} {ws : List ByteArray} (hs : t.length ≤ 6000) (h : t = wireL ws) (hl : ws.length ≤ 40) : GetIs t ws true := Or.inl ⟨rfl, hs, hl, h⟩
end Go.Proofs.YtifpdamghmlcfaaDoor
