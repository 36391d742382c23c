/-
  Plain facts on rules as trees: what each op has, how many parts a rule has, its text; no law is proved here.
-/
import Derived.Test.YtjhgmmcglonokaaGreatDoorJ1
import Derived.Test.YtjhgmmcglonokaaGreatDoorJ10
import Derived.Test.YtjhgmmcglonokaaGreatDoorIntText
import Derived.Test.YtjhgmmcglonokaaGreatDoorJoinS
namespace Go.Proofs.YtjhgmmcglonokaaGreatDoor
open Go.RowKit
set_option linter.unusedVariables false
set_option linter.unusedSimpArgs false

/-- From and Price of marks. -/
def mF (ms : List (Int × Int)) (i : Nat) : Int := (ms.getD i (0, 0)).1
def mP (ms : List (Int × Int)) (i : Nat) : Int := (ms.getD i (0, 0)).2
instance (f p : Nat → Int) (i : Nat) : Decidable (Good f p i) := by unfold Good; infer_instance
instance (f p : Nat → Int) (n : Nat) : Decidable (MOk f p n) := by unfold MOk; infer_instance

def kidsN (o : Int) : Int :=
  if o = 1 ∨ o = 2 then 0 else if o = 10 then 1 else if o = 6 then 3 else if o = 9 then 4 else if 3 ≤ o ∧ o ≤ 8 then 2 else -1
/-- All but the kids is what the op has. -/
def HoldsN (o n : Int) (s : ByteArray) (ms : List (Int × Int)) : Prop :=
  if o = 1 then (-1000000000 ≤ n ∧ n ≤ 1000000000) ∧ s.size = 0 ∧ ms.length = 0
  else if o = 2 then nameB s.data.toList = true ∧ n = 0 ∧ ms.length = 0
  else if o = 10 then n = 0 ∧ s.size = 0 ∧ MOk (mF ms) (mP ms) ms.length
  else n = 0 ∧ s.size = 0 ∧ ms.length = 0
instance (o n : Int) (s : ByteArray) (ms : List (Int × Int)) : Decidable (HoldsN o n s ms) := by unfold HoldsN; infer_instance
def PlainN (o n : Int) (s : ByteArray) (k : Nat) (ms : List (Int × Int)) : Prop := (k : Int) = kidsN o ∧ HoldsN o n s ms
instance (o n : Int) (s : ByteArray) (k : Nat) (ms : List (Int × Int)) : Decidable (PlainN o n s k ms) := by unfold PlainN; infer_instance

mutual
/-- How many parts are left of so many; below 0 if the rule is not ok. -/
def partsT : Tr → Nat → Int → Int
  | .node o n s ks ms, d, left => if left - 1 < 0 ∨ 6 < d ∨ ¬ PlainN o n s ks.length ms then -1 else partsL ks (d + 1) (left - 1)
def partsL : List Tr → Nat → Int → Int
  | [], _, n => n
  | t :: r, d, n => if n < 0 then n else partsL r d (partsT t d n)
end

mutual
theorem partsT_le : ∀ (t : Tr) (d : Nat) (l : Int), 0 ≤ partsT t d l → partsT t d l + wT t ≤ l
  | .node o n s ks ms, d, l, h => by
    rw [partsT] at h ⊢
    split at h
    · omega
    · rename_i hc
      rw [if_neg hc]
      have := partsL_le ks (d + 1) (l - 1) h
      rw [wT]; omega
theorem partsL_le : ∀ (ks : List Tr) (d : Nat) (n : Int), 0 ≤ partsL ks d n → partsL ks d n + wL ks ≤ n
  | [], d, n, h => by rw [partsL, wL]; omega
  | t :: r, d, n, h => by
    rw [partsL] at h ⊢
    split at h
    · omega
    · rename_i hc
      rw [if_neg hc]
      have h2 := partsL_le r d _ h
      have h3 := partsT_le t d n (by have : 0 ≤ (wL r : Int) := Int.natCast_nonneg _; omega)
      rw [wL]; omega
end
theorem partsT_low (t : Tr) (d : Nat) (l : Int) (hl : 0 ≤ l) : -1 ≤ partsT t d l := by
  suffices h : ∀ k, (∀ t d l, wT t ≤ k → 0 ≤ l → -1 ≤ partsT t d l) from h (wT t) t d l (Nat.le_refl _) hl
  intro k
  induction k with
  | zero => intro t d l h; cases t; rw [wT] at h; omega
  | succ k ih =>
    intro t d l h hl
    obtain ⟨o, n, s, ks, ms⟩ := t
    rw [partsT]
    split
    · omega
    · rename_i hc
      rw [wT] at h
      have hL : ∀ ks : List Tr, wL ks ≤ k → ∀ d n, -1 ≤ n → -1 ≤ partsL ks d n := by
        intro ks
        induction ks with
        | nil => intro _ d n hn; rw [partsL]; exact hn
        | cons t r ihr =>
          intro hw d n hn
          rw [wL] at hw
          rw [partsL]
          split
          · exact hn
          · exact ihr (by omega) d _ (ih t d n (by omega) (by omega))
      exact hL ks (by omega) _ _ (by omega)
theorem partsL_neg {ks : List Tr} {d : Nat} {n : Int} (h : n < 0) : partsL ks d n = n := by
  cases ks with
  | nil => rw [partsL]
  | cons t r => rw [partsL, if_pos h]
theorem partsL_drop (ks : List Tr) (d : Nat) (n : Int) (k : Nat) (hk : k < ks.length) (hn : 0 ≤ n) : partsL (ks.drop k) d n = partsL (ks.drop (k + 1)) d (partsT ks[k] d n) := by
  rw [List.drop_eq_getElem_cons hk, partsL, if_neg (by omega)]

/-- A part of a rule that has what the table says. -/
def OkP (t : Tr) : Prop := ∃ (d : Nat) (l : Int), l ≤ 30 ∧ 0 ≤ partsT t d l
theorem partsL_mem : ∀ {ks : List Tr} {d : Nat} {n : Int}, 0 ≤ partsL ks d n → ∀ t ∈ ks, ∃ m : Int, m ≤ n ∧ 0 ≤ partsT t d m
  | [], d, n, h, t, ht => by simp at ht
  | x :: r, d, n, h, t, ht => by
    rw [partsL] at h
    split at h
    · omega
    · have h2 := partsL_le r d _ h
      have h2' : 0 ≤ (wL r : Int) := Int.natCast_nonneg _
      have h3 := partsT_le x d n (by omega)
      have h3' : 0 ≤ (wT x : Int) := Int.natCast_nonneg _
      rcases List.mem_cons.1 ht with rfl | ht
      · exact ⟨n, Int.le_refl _, by omega⟩
      · obtain ⟨m, hm, hm2⟩ := partsL_mem h t ht
        exact ⟨m, by omega, hm2⟩
theorem okP_parts {o n : Int} {s : ByteArray} {ks : List Tr} {ms : List (Int × Int)} (h : OkP (.node o n s ks ms)) : PlainN o n s ks.length ms ∧ ∀ t ∈ ks, OkP t := by
  obtain ⟨d, l, hl, h⟩ := h
  rw [partsT] at h
  split at h
  · omega
  · rename_i hc
    refine ⟨Decidable.not_not.1 fun hp => hc (Or.inr (Or.inr hp)), fun t ht => ?_⟩
    obtain ⟨m, hm, hm2⟩ := partsL_mem h t ht
    exact ⟨_, m, by omega, hm2⟩
theorem okP_w {t : Tr} (h : OkP t) : wT t ≤ 30 := by
  obtain ⟨d, l, hl, h⟩ := h
  have := partsT_le t d l h
  omega

/-- The op's word. -/
def wordT (o : Int) : List UInt8 :=
  if o = 3 then [97, 100, 100] else if o = 4 then [115, 117, 98] else if o = 5 then [109, 117, 108] else if o = 6 then [112, 97, 114, 116] else if o = 7 then [109, 105, 110]
  else if o = 8 then [109, 97, 120] else if o = 9 then [105, 102] else if o = 10 then [116, 105, 101, 114, 115] else []
theorem ite_len {c : Prop} [Decidable c] {a b : List UInt8} (ha : a.length ≤ 5) (hb : b.length ≤ 5) : (if c then a else b).length ≤ 5 := by split <;> assumption
theorem wordT_len (o : Int) : (wordT o).length ≤ 5 := by
  unfold wordT
  iterate 8 refine ite_len (by decide) ?_
  decide
def markT (m : Int × Int) : ByteArray := intB m.1 ++ ⟨#[58]⟩ ++ intB m.2
/-- Marks, one behind the other with a byte between. -/
def marksT (sep : UInt8) (ms : List (Int × Int)) : List UInt8 := joinS sep (ms.map markT)
mutual
def textT : Tr → List UInt8
  | .node o n s ks ms => if o = 1 then Lib.itoa n else if o = 2 then s.data.toList else wordT o ++ 40 :: (joinS 44 (textsL ks) ++ ((if ms.length = 0 then [] else 59 :: marksT 44 ms) ++ [41]))
def textsL : List Tr → List ByteArray
  | [] => []
  | t :: r => ⟨(textT t).toArray⟩ :: textsL r
end
def textB (t : Tr) : ByteArray := ⟨(textT t).toArray⟩
theorem textsL_eq : ∀ ks : List Tr, textsL ks = ks.map textB
  | [] => by rw [textsL]; rfl
  | t :: r => by rw [textsL, textsL_eq r]; rfl
theorem textB_size (t : Tr) : (textB t).size = (textT t).length := by show (textT t).toArray.size = _; simp
theorem nmB_size {s : ByteArray} (h : nameB s.data.toList = true) : s.size ≤ 8 := by
  simp only [nameB, Bool.and_eq_true, decide_eq_true_eq] at h
  have : s.data.toList.length = s.size := by simp
  omega
theorem markT_size {m : Int × Int} (h0 : -9223372036854775807 ≤ m.1) (h1 : m.1 ≤ 9223372036854775807) (h2 : -9223372036854775807 ≤ m.2) (h3 : m.2 ≤ 9223372036854775807) : (markT m).size ≤ 43 := by
  have a := intB_size h0 h1
  have b := intB_size h2 h3
  simp only [markT, ByteArray.size_append]
  have : (⟨#[58]⟩ : ByteArray).size = 1 := rfl
  omega
/-- Marks that are ok are small. -/
theorem mok_mem {ms : List (Int × Int)} (h : MOk (mF ms) (mP ms) ms.length) : ms.length ≤ 5 ∧ ∀ m ∈ ms, (0 ≤ m.1 ∧ m.1 ≤ 1000000000) ∧ (0 ≤ m.2 ∧ m.2 ≤ 1000000) := by
  refine ⟨h.2.1, fun m hm => ?_⟩
  obtain ⟨i, hi, rfl⟩ := List.mem_iff_getElem.1 hm
  have g := h.2.2.2 i hi
  have nn : ∀ i, i < ms.length → 0 ≤ mF ms i := by
    intro i
    induction i with
    | zero => intro _; have := h.2.2.1; omega
    | succ i ih =>
      intro hi
      have h1 := ih (by omega)
      have h2 := (h.2.2.2 (i + 1) hi).2.2.2 (by omega)
      simp only [Nat.add_sub_cancel] at h2
      omega
  have n0 := nn i hi
  have e : ms.getD i (0, 0) = ms[i] := by simp [hi]
  simp only [Good, mF, mP, e] at g n0
  omega
theorem marksT_len {ms : List (Int × Int)} (sep : UInt8) (h : MOk (mF ms) (mP ms) ms.length) : (marksT sep ms).length ≤ 220 := by
  obtain ⟨h5, hm⟩ := mok_mem h
  have := joinS_len sep 43 (ms.map markT) (fun x hx => by
    obtain ⟨m, hmm, rfl⟩ := List.mem_map.1 hx
    have := hm m hmm
    exact markT_size (by omega) (by omega) (by omega) (by omega))
  rw [List.length_map] at this
  unfold marksT
  omega
/-- The text of a rule that has what the table says is not long. -/
theorem itoa_len {n : Int} (h0 : -9223372036854775807 ≤ n) (h1 : n ≤ 9223372036854775807) : (Lib.itoa n).length ≤ 21 := by
  have := intB_size h0 h1
  simpa [intB, ByteArray.size] using this
theorem joinS_total (sep : UInt8) : ∀ l : List ByteArray, (joinS sep l).length ≤ (l.map (·.size + 1)).sum
  | [] => by simp [joinS, Lib.join_nil]
  | x :: r => by
    unfold joinS
    rw [List.map_cons, Lib.join_length]
    have e : ∀ r : List ByteArray, Lib.lens (r.map (·.data.toList)) + r.length = (r.map (·.size + 1)).sum := by
      intro r
      induction r with
      | nil => simp [Lib.lens]
      | cons y r ih =>
        have hy : y.data.toList.length = y.size := by simp
        simp only [Lib.lens, List.map_cons, List.sum_cons, List.length_cons] at ih ⊢
        omega
    have h1 := e (x :: r)
    simp only [List.map_cons, List.length_cons, List.length_nil, List.length_map] at h1 ⊢
    omega
theorem textT_len : ∀ (k : Nat) (t : Tr), wT t ≤ k → OkP t → (textT t).length ≤ 240 * wT t := by
  intro k
  induction k with
  | zero => intro t h; cases t; rw [wT] at h; omega
  | succ k ih =>
    intro t hk h
    obtain ⟨o, n, s, ks, ms⟩ := t
    obtain ⟨⟨h1, h2⟩, h3⟩ := okP_parts h
    rw [wT] at hk ⊢
    have hL : ((textsL ks).map (·.size + 1)).sum ≤ 241 * wL ks ∧ (ks.length ≤ 4 → ((textsL ks).map (·.size + 1)).sum ≤ 240 * wL ks + 4) := by
      rw [textsL_eq]
      have e : ∀ ks : List Tr, wL ks ≤ k → (∀ t ∈ ks, OkP t) → ((ks.map textB).map (·.size + 1)).sum ≤ 240 * wL ks + ks.length ∧ ks.length ≤ wL ks := by
        intro ks
        induction ks with
        | nil => intro _ _; simp [wL]
        | cons t r ihr =>
          intro hw ho
          rw [wL] at hw ⊢
          have a := ihr (by omega) (fun x hx => ho x (by simp [hx]))
          have b := ih t (by omega) (ho t (by simp))
          have c : 1 ≤ wT t := by cases t; rw [wT]; omega
          simp only [List.map_cons, List.sum_cons, List.length_cons, textB_size] at a ⊢
          omega
      have := e ks (by omega) h3
      omega
    have hJ := joinS_total 44 (textsL ks)
    have hk4 : ks.length ≤ 4 := by
      unfold kidsN at h1
      repeat (split at h1; · omega)
      omega
    have hJ2 := hL.2 hk4
    have hw := wordT_len o
    rw [textT]
    unfold HoldsN at h2
    split
    · rename_i ho
      rw [if_pos ho] at h2
      have := itoa_len (n := n) (by omega) (by omega)
      omega
    · rename_i ho
      rw [if_neg ho] at h2
      split
      · rename_i ho2
        rw [if_pos ho2] at h2
        have := nmB_size h2.1
        have e : s.data.toList.length = s.size := by simp
        omega
      · rename_i ho2
        rw [if_neg ho2] at h2
        have hm : (if ms.length = 0 then [] else 59 :: marksT 44 ms).length ≤ 221 := by
          split
          · simp
          · rename_i hm0
            split at h2
            · have := marksT_len 44 h2.2.2
              simp; omega
            · omega
        simp only [List.length_append, List.length_cons, List.length_nil] at hm ⊢
        omega
end Go.Proofs.YtjhgmmcglonokaaGreatDoor
