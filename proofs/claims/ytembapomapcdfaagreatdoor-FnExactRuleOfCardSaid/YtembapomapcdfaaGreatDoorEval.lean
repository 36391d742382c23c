/-
  What a rule says by names' numbers and fuel: the mathematical answer.
-/
import Derived.Test.YtembapomapcdfaaGreatDoorRuleCost
import Derived.Test.YtembapomapcdfaaGreatDoorMoneyAdd
import Derived.Test.YtembapomapcdfaaGreatDoorMoneyPart
import Derived.Test.YtembapomapcdfaaGreatDoorTiers2
namespace Go.Proofs.YtembapomapcdfaaGreatDoor
open Go.RowKit
set_option linter.unusedVariables false
set_option linter.unusedSimpArgs false

/-- What is said: a value, a code, and the fuel that is left. -/
structure Said where
  v : Int
  c : Int
  f : Int
def varV : List (ByteArray × Int) → ByteArray → Int × Int
  | [], _ => (0, 4)
  | p :: r, s => if p.1 = s then (if okB p.2 then (p.2, 0) else (0, 2)) else varV r s
/-- One number, or two much. -/
def orB (x : Int) (b : Bool) : Int × Int := if b then (x, 0) else (0, 2)
def twoV (o a b : Int) : Int × Int :=
  if o = 3 then orB (a + b) (okB (a + b)) else if o = 4 then orB (a - b) (okB (a - b)) else if o = 5 then orB (a * b) (okB (a * b))
  else if o = 7 then (if b < a then b else a, 0) else (if a < b then b else a, 0)
def partW (a b c : Int) : Int × Int := if c = 0 then (0, 3) else orB (partV a b c) (partOk a b c)
def tierV (ms : List (Int × Int)) (a : Int) : Int × Int := if a < 0 then (0, 2) else orB (tSum (mF ms) (mP ms) ms.length a ms.length) (decide (tSum (mF ms) (mP ms) ms.length a ms.length ≤ 1000000000000))
def doR (ns : List (ByteArray × Int)) (o n : Int) (s : ByteArray) (ms : List (Int × Int)) (l : List Int) : Int × Int :=
  if o = 1 then (n, 0) else if o = 2 then varV ns s else if o = 6 then partW (l.getD 0 0) (l.getD 1 0) (l.getD 2 0)
  else if o = 10 then tierV ms (l.getD 0 0) else twoV o (l.getD 0 0) (l.getD 1 0)
/-- Kids one behind the other: their values, a code, and the fuel that is left. -/
def seqF : List (Int → Said) → Int → List Int × Int × Int
  | [], fu => ([], 0, fu)
  | g :: r, fu => if (g fu).c = 0 then ((g fu).v :: (seqF r (g fu).f).1, (seqF r (g fu).f).2) else ([], (g fu).c, (g fu).f)
def noSaid : Int → Said := fun fu => ⟨0, 0, fu⟩
def nodeV (ns : List (ByteArray × Int)) (o n : Int) (s : ByteArray) (ms : List (Int × Int)) (gs : List (Int → Said)) (fu : Int) : Said :=
  if (seqF (gs.take (if o = 9 then 2 else gs.length)) fu).2.1 ≠ 0 then ⟨0, (seqF (gs.take (if o = 9 then 2 else gs.length)) fu).2.1, (seqF (gs.take (if o = 9 then 2 else gs.length)) fu).2.2⟩
  else if (seqF (gs.take (if o = 9 then 2 else gs.length)) fu).2.2 < 1 + ms.length then ⟨0, 1, (seqF (gs.take (if o = 9 then 2 else gs.length)) fu).2.2⟩
  else if o = 9 then
    (if (seqF (gs.take (if o = 9 then 2 else gs.length)) fu).1.getD 0 0 < (seqF (gs.take (if o = 9 then 2 else gs.length)) fu).1.getD 1 0 then gs.getD 2 noSaid else gs.getD 3 noSaid) ((seqF (gs.take (if o = 9 then 2 else gs.length)) fu).2.2 - (1 + ms.length))
  else ⟨(doR ns o n s ms (seqF (gs.take (if o = 9 then 2 else gs.length)) fu).1).1, (doR ns o n s ms (seqF (gs.take (if o = 9 then 2 else gs.length)) fu).1).2, (seqF (gs.take (if o = 9 then 2 else gs.length)) fu).2.2 - (1 + ms.length)⟩
mutual
def evalT (ns : List (ByteArray × Int)) : Tr → Int → Said
  | .node o n s ks ms => nodeV ns o n s ms (evalFs ns ks)
def evalFs (ns : List (ByteArray × Int)) : List Tr → List (Int → Said)
  | [] => []
  | t :: r => evalT ns t :: evalFs ns r
end
theorem evalFs_eq (ns : List (ByteArray × Int)) : ∀ ks : List Tr, evalFs ns ks = ks.map (evalT ns)
  | [] => by rw [evalFs]; rfl
  | t :: r => by rw [evalFs, evalFs_eq ns r]; rfl
/-- A value within limits, a code that is known, no more fuel than there was. -/
def SOk (fu : Int) (r : Said) : Prop := okB r.v = true ∧ (0 ≤ r.c ∧ r.c ≤ 4) ∧ (0 ≤ r.f ∧ r.f ≤ fu) ∧ (r.c ≠ 0 → r.v = 0)
theorem okB0 : okB 0 = true := by decide
theorem varV_ok : ∀ (ns : List (ByteArray × Int)) (s : ByteArray), okB (varV ns s).1 = true ∧ (0 ≤ (varV ns s).2 ∧ (varV ns s).2 ≤ 4) ∧ ((varV ns s).2 ≠ 0 → (varV ns s).1 = 0)
  | [], s => by simp [varV, okB0]
  | p :: r, s => by
    rw [varV]
    split
    · split
      · rename_i h; simp [h]
      · simp [okB0]
    · exact varV_ok r s
theorem orB_ok {x : Int} {b : Bool} (h : b = true → okB x = true) : okB (orB x b).1 = true ∧ (0 ≤ (orB x b).2 ∧ (orB x b).2 ≤ 4) ∧ ((orB x b).2 ≠ 0 → (orB x b).1 = 0) := by
  cases b with
  | true => simp [orB, h rfl]
  | false => simp [orB, okB0]
theorem partOk_ok {a b c : Int} (h : partOk a b c = true) : okB (partV a b c) = true := by
  have h2 := h
  unfold partOk at h2
  simp only [Bool.and_eq_true] at h2
  rw [partV, if_pos h]
  exact h2.2
/-- What an op is given: amounts, as many as it wants. -/
def Args (o : Int) (l : List Int) : Prop := (l.length : Int) = (if o = 9 then 2 else kidsN o) ∧ ∀ x ∈ l, okB x = true
theorem getD_ok {l : List Int} (h : ∀ x ∈ l, okB x = true) (i : Nat) : okB (l.getD i 0) = true := by
  rcases Nat.lt_or_ge i l.length with hi | hi
  · have : l.getD i 0 = l[i] := by simp [hi]
    rw [this]; exact h _ (List.getElem_mem _)
  · have : l.getD i 0 = 0 := by simp [List.getD, List.getElem?_eq_none hi]
    rw [this]; exact okB0
theorem doR_ok {ns : List (ByteArray × Int)} {o n : Int} {s : ByteArray} {ms : List (Int × Int)} {l : List Int} (hp : HoldsN o n s ms) (hl : ∀ x ∈ l, okB x = true) : okB (doR ns o n s ms l).1 = true ∧ (0 ≤ (doR ns o n s ms l).2 ∧ (doR ns o n s ms l).2 ≤ 4) ∧ ((doR ns o n s ms l).2 ≠ 0 → (doR ns o n s ms l).1 = 0) := by
  have g0 := okB_yes (getD_ok hl 0)
  have g1 := okB_yes (getD_ok hl 1)
  unfold doR
  split
  · rename_i h1
    unfold HoldsN at hp
    rw [if_pos h1] at hp
    exact ⟨okB_mk (by simp only; omega), by simp, by simp⟩
  split
  · exact varV_ok ns s
  split
  · unfold partW
    split
    · exact ⟨okB0, by simp, by simp⟩
    · exact orB_ok partOk_ok
  split
  · rename_i h1 h2 h6 h10
    unfold tierV
    split
    · exact ⟨okB0, by simp, by simp⟩
    · rename_i hn
      refine orB_ok fun h => okB_mk ?_
      have h3 := of_decide_eq_true h
      unfold HoldsN at hp
      rw [if_neg h1, if_neg h2, if_pos h10] at hp
      have := (tSum_bd hp.2.2 (by omega : 0 ≤ l.getD 0 0) g0.2 ms.length (Nat.le_refl _)).1
      omega
  · unfold twoV
    split
    · exact orB_ok fun h => h
    split
    · exact orB_ok fun h => h
    split
    · exact orB_ok fun h => h
    split
    · refine ⟨?_, by simp, by simp⟩
      simp only
      split
      · exact getD_ok hl 1
      · exact getD_ok hl 0
    · refine ⟨?_, by simp, by simp⟩
      simp only
      split
      · exact getD_ok hl 1
      · exact getD_ok hl 0
theorem seqF_ok : ∀ (gs : List (Int → Said)) (fu : Int), 0 ≤ fu → (∀ g ∈ gs, ∀ fu, 0 ≤ fu → SOk fu (g fu)) → (0 ≤ (seqF gs fu).2.1 ∧ (seqF gs fu).2.1 ≤ 4) ∧ (0 ≤ (seqF gs fu).2.2 ∧ (seqF gs fu).2.2 ≤ fu) ∧ (∀ x ∈ (seqF gs fu).1, okB x = true) ∧ ((seqF gs fu).2.1 = 0 → (seqF gs fu).1.length = gs.length)
  | [], fu, h0, h => by simp [seqF, h0]
  | g :: r, fu, h0, h => by
    have hg := h g (by simp) fu h0
    obtain ⟨k1, k2, k3, k4⟩ := hg
    rw [seqF]
    split
    · have ih := seqF_ok r (g fu).f k3.1 (fun g' hg' => h g' (by simp [hg']))
      refine ⟨ih.1, ⟨ih.2.1.1, Int.le_trans ih.2.1.2 k3.2⟩, fun x hx => ?_, fun e => ?_⟩
      · simp only [List.mem_cons] at hx
        rcases hx with rfl | hx
        · exact k1
        · exact ih.2.2.1 x hx
      · simp [ih.2.2.2 e]
    · rename_i hc
      exact ⟨k2, k3, by simp, fun e => absurd e hc⟩
theorem eval_ok (ns : List (ByteArray × Int)) : ∀ (k : Nat) (t : Tr), wT t ≤ k → OkP t → ∀ fu, 0 ≤ fu → SOk fu (evalT ns t fu) := by
  intro k
  induction k with
  | zero => intro t h; cases t; rw [wT] at h; omega
  | succ k ih =>
    intro t hk h fu h0
    obtain ⟨o, n, s, ks, ms⟩ := t
    obtain ⟨hp, h3⟩ := okP_parts h
    rw [wT] at hk
    have hg : ∀ g ∈ ks.map (evalT ns), ∀ fu, 0 ≤ fu → SOk fu (g fu) := fun g hg fu hf => by
      obtain ⟨t, ht, rfl⟩ := List.mem_map.1 hg
      exact ih t (by have := wL_mem ht; omega) (h3 t ht) fu hf
    rw [evalT, evalFs_eq]
    have hs := seqF_ok ((ks.map (evalT ns)).take (if o = 9 then 2 else (ks.map (evalT ns)).length)) fu h0 (fun g h => hg g (List.mem_of_mem_take h))
    unfold nodeV
    generalize seqF ((ks.map (evalT ns)).take (if o = 9 then 2 else (ks.map (evalT ns)).length)) fu = q at *
    obtain ⟨q1, q2, q3, q4⟩ := hs
    split
    · exact ⟨okB0, q1, q2, fun _ => rfl⟩
    split
    · exact ⟨okB0, by simp, q2, fun _ => rfl⟩
    split
    · rename_i h9
      subst h9
      have hk4 := if_kids hp
      have hf2 : 0 ≤ q.2.2 - (1 + (ms.length : Int)) := by omega
      have hm : ∀ i, i < 4 → SOk (q.2.2 - (1 + (ms.length : Int))) (((ks.map (evalT ns)).getD i noSaid) (q.2.2 - (1 + (ms.length : Int)))) := fun i hi => by
        have : (ks.map (evalT ns)).getD i noSaid = evalT ns (ks[i]'(by omega)) := by simp [List.getD, show i < ks.length by omega]
        rw [this]
        exact ih _ (by have := wL_mem (List.getElem_mem (l := ks) (n := i) (by omega)); omega) (h3 _ (List.getElem_mem _)) _ hf2
      have up : ∀ {r : Said}, SOk (q.2.2 - (1 + (ms.length : Int))) r → SOk fu r := fun h => ⟨h.1, h.2.1, ⟨h.2.2.1.1, by have := h.2.2.1.2; omega⟩, h.2.2.2⟩
      split
      · exact up (hm 2 (by omega))
      · exact up (hm 3 (by omega))
    · have hd := doR_ok (ns := ns) (o := o) (n := n) (s := s) (ms := ms) hp.2 q3
      exact ⟨hd.1, hd.2.1, ⟨by simp only; omega, by simp only; omega⟩, hd.2.2⟩
end Go.Proofs.YtembapomapcdfaaGreatDoor
