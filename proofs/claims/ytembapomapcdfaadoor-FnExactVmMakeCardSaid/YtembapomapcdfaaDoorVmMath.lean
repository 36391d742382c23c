/-
  What a program has at hand at each place: the mathematical answer.
-/
import Derived.Test.YtembapomapcdfaaDoorVmMark
namespace Go.Proofs.YtembapomapcdfaaDoor
open Go.RowKit
set_option linter.unusedVariables false
set_option linter.unusedSimpArgs false

/-- The two marks that a place makes. -/
def marksV (i : Nat) (d : Pl) (n : Int) (hs : List Int) : List Int × Bool :=
  if d.op = 9 then (if (markV hs (i + 1) n).2 then markV (markV hs (i + 1) n).1 (i + 1 + d.num.toNat) n else markV hs (i + 1) n)
  else if d.op = 11 then markV hs (i + 1 + d.num.toNat) n
  else markV hs (i + 1) n
def leftV (i : Nat) (d : Pl) (hs : List Int) : Int := hs.getD i 0 - (takesV d.op).1 + (takesV d.op).2
def stepV (q i : Nat) (d : Pl) (hs : List Int) : Option (List Int) :=
  if (takesV d.op).1 < 0 ∨ ¬ HoldsV d.op d.num ((q : Int) - i - 1) d.nm d.ms then none
  else if hs.getD i 0 < 0 then some hs
  else if hs.getD i 0 < (takesV d.op).1 ∨ 12 < leftV i d hs then none
  else if (marksV i d (leftV i d hs) hs).2 then some (marksV i d (leftV i d hs) hs).1 else none
def runV (q : Nat) : Nat → List Pl → List Int → Option (List Int)
  | _, [], hs => some hs
  | i, d :: r, hs => (stepV q i d hs).bind (runV q (i + 1) r)
def firstV (q : Nat) : List Int := 0 :: List.replicate q (-1)
def heightsV (ds : List Pl) : Option (List Int) := (runV ds.length 0 ds (firstV ds.length)).bind fun hs => if hs.getD ds.length 0 = 1 then some hs else none
/-- Every number at hand is within bounds. -/
def InV (hs : List Int) : Prop := ∀ x ∈ hs, -1 ≤ x ∧ x ≤ 12
theorem inV_first (q : Nat) : InV (firstV q) := by
  intro x hx
  unfold firstV at hx
  rcases List.mem_cons.1 hx with rfl | hx
  · omega
  · have := List.eq_of_mem_replicate hx; omega
theorem inV_getD {hs : List Int} (h : InV hs) (i : Nat) : -1 ≤ hs.getD i 0 ∧ hs.getD i 0 ≤ 12 := by
  rcases Nat.lt_or_ge i hs.length with hi | hi
  · have : hs.getD i 0 = hs[i] := by simp [hi]
    rw [this]; exact h _ (List.getElem_mem _)
  · have : hs.getD i 0 = 0 := by simp [List.getD, List.getElem?_eq_none hi]
    rw [this]; omega
theorem inV_mark {hs : List Int} (h : InV hs) (i : Nat) {n : Int} (n0 : -1 ≤ n) (n1 : n ≤ 12) : InV (markV hs i n).1 := by
  unfold markV
  split
  · exact h
  · intro x hx
    rcases List.mem_or_eq_of_mem_set hx with h1 | rfl
    · exact h x h1
    · exact ⟨n0, n1⟩
theorem inV_marks {hs : List Int} (h : InV hs) (i : Nat) (d : Pl) {n : Int} (n0 : -1 ≤ n) (n1 : n ≤ 12) : InV (marksV i d n hs).1 := by
  unfold marksV
  split
  · split
    · exact inV_mark (inV_mark h _ n0 n1) _ n0 n1
    · exact inV_mark h _ n0 n1
  split
  · exact inV_mark h _ n0 n1
  · exact inV_mark h _ n0 n1
theorem takes_bd (o : Int) : -1 ≤ (takesV o).1 ∧ (takesV o).1 ≤ 3 ∧ 0 ≤ (takesV o).2 ∧ (takesV o).2 ≤ 1 := by
  unfold takesV
  repeat (split; · simp)
  simp
theorem marks_len (i : Nat) (d : Pl) (n : Int) (hs : List Int) : (marksV i d n hs).1.length = hs.length := by
  unfold marksV
  split
  · split
    · rw [markV_len, markV_len]
    · exact markV_len _ _ _
  split
  · exact markV_len _ _ _
  · exact markV_len _ _ _
theorem step_len {q i : Nat} {d : Pl} {hs hs' : List Int} (h : stepV q i d hs = some hs') : hs'.length = hs.length := by
  unfold stepV at h
  split at h
  · cases h
  split at h
  · cases h; rfl
  split at h
  · cases h
  split at h
  · cases h; exact marks_len _ _ _ _
  · cases h
theorem step_in {q i : Nat} {d : Pl} {hs hs' : List Int} (hi : InV hs) (h : stepV q i d hs = some hs') : InV hs' := by
  unfold stepV at h
  split at h
  · cases h
  split at h
  · cases h; exact hi
  split at h
  · cases h
  rename_i h1 h2 h3
  split at h
  · cases h
    have hb := takes_bd d.op
    have : ¬ hs.getD i 0 < (takesV d.op).1 ∧ ¬ 12 < leftV i d hs := ⟨fun x => h3 (.inl x), fun x => h3 (.inr x)⟩
    have hl : leftV i d hs = hs.getD i 0 - (takesV d.op).1 + (takesV d.op).2 := rfl
    exact inV_marks hi i d (by omega) (by omega)
  · cases h
theorem runV_drop {q k : Nat} {ds : List Pl} (h : k < ds.length) (hs : List Int) : runV q k (ds.drop k) hs = (stepV q k ds[k] hs).bind (runV q (k + 1) (ds.drop (k + 1))) := by
  rw [List.drop_eq_getElem_cons h, runV]
end Go.Proofs.YtembapomapcdfaaDoor
