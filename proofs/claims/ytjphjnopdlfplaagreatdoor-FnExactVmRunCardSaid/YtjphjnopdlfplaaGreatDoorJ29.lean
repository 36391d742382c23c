/-
  More fuel changes nothing but that there is enough; only names count; the two of a rule turned: plain facts, no law is proved here.
  What a program comes to: the mathematical answer, and plain facts on it; no law is proved here.
-/
import Derived.Test.YtjphjnopdlfplaaGreatDoorJ21
import Derived.Test.YtjphjnopdlfplaaGreatDoorNamesMath
import Derived.Test.YtjphjnopdlfplaaGreatDoorJ17
namespace Go.Proofs.YtjphjnopdlfplaaGreatDoor
open Go.RowKit
set_option linter.unusedVariables false
set_option linter.unusedSimpArgs false

theorem varV_ne1 : ∀ (ns : List (ByteArray × Int)) (s : ByteArray), (varV ns s).2 ≠ 1
  | [], s => by simp [varV]
  | p :: r, s => by
    rw [varV]
    split
    · split <;> simp
    · exact varV_ne1 r s
theorem orB_ne1 (x : Int) (b : Bool) : (orB x b).2 ≠ 1 := by unfold orB; split <;> simp
theorem doR_ne1 (ns : List (ByteArray × Int)) (o n : Int) (s : ByteArray) (ms : List (Int × Int)) (l : List Int) : (doR ns o n s ms l).2 ≠ 1 := by
  unfold doR
  split
  · simp
  split
  · exact varV_ne1 ns s
  split
  · unfold partW
    split
    · simp
    · exact orB_ne1 _ _
  split
  · unfold tierV
    split
    · simp
    · exact orB_ne1 _ _
  · unfold twoV
    split
    · exact orB_ne1 _ _
    split
    · exact orB_ne1 _ _
    split
    · exact orB_ne1 _ _
    split <;> simp
/-- With more fuel it says the same, if it did not lack. -/
def MonoF (g : Int → Said) : Prop := ∀ fu fu' : Int, fu ≤ fu' → (g fu).c ≠ 1 → g fu' = ⟨(g fu).v, (g fu).c, (g fu).f + (fu' - fu)⟩
theorem noSaid_mono : MonoF noSaid := fun fu fu' h _ => by simp only [noSaid, Said.mk.injEq, true_and]; omega
theorem seqF_mono : ∀ (gs : List (Int → Said)) (fu fu' : Int), fu ≤ fu' → (∀ g ∈ gs, MonoF g) → (seqF gs fu).2.1 ≠ 1 → seqF gs fu' = ((seqF gs fu).1, (seqF gs fu).2.1, (seqF gs fu).2.2 + (fu' - fu))
  | [], fu, fu', h, hg, hc => by simp only [seqF, Prod.mk.injEq, true_and]; omega
  | g :: r, fu, fu', h, hg, hc => by
    have hm := hg g (by simp) fu fu' h
    rw [seqF] at hc ⊢
    rw [seqF]
    by_cases c0 : (g fu).c = 0
    · rw [if_pos c0] at hc ⊢
      have e := hm (by omega)
      have ih := seqF_mono r (g fu).f (g fu').f (by rw [e]; simp only; omega) (fun g' hg' => hg g' (by simp [hg'])) hc
      rw [if_pos (by rw [e]; exact c0), ih, e]
      simp only [Prod.mk.injEq, true_and]
      omega
    · rw [if_neg c0] at hc ⊢
      have e := hm hc
      rw [if_neg (by rw [e]; exact c0), e]
theorem getD_mono {gs : List (Int → Said)} (h : ∀ g ∈ gs, MonoF g) (i : Nat) : MonoF (gs.getD i noSaid) := by
  rcases Nat.lt_or_ge i gs.length with hi | hi
  · have : gs.getD i noSaid = gs[i] := by simp [hi]
    rw [this]; exact h _ (List.getElem_mem _)
  · have : gs.getD i noSaid = noSaid := by simp [List.getD, List.getElem?_eq_none hi]
    rw [this]; exact noSaid_mono
theorem nodeV_mono (ns : List (ByteArray × Int)) (o n : Int) (s : ByteArray) (ms : List (Int × Int)) (gs : List (Int → Said)) (hg : ∀ g ∈ gs, MonoF g) : MonoF (nodeV ns o n s ms gs) := by
  intro fu fu' h hc
  have hs := seqF_mono (gs.take (if o = 9 then 2 else gs.length)) fu fu' h (fun g h => hg g (List.mem_of_mem_take h))
  unfold nodeV at hc ⊢
  generalize hq : seqF (gs.take (if o = 9 then 2 else gs.length)) fu = q at *
  generalize hq' : seqF (gs.take (if o = 9 then 2 else gs.length)) fu' = q' at *
  obtain ⟨l, c, f⟩ := q
  dsimp only at *
  by_cases c1 : c = 0
  · have e := hs (by omega)
    subst e
    dsimp only at *
    simp only [c1, ne_eq, not_true_eq_false, if_false] at hc ⊢
    by_cases c2 : f < 1 + (ms.length : Int)
    · rw [if_pos c2] at hc; exact absurd rfl hc
    rw [if_neg c2] at hc ⊢
    rw [if_neg (by omega)]
    by_cases c9 : o = 9
    · simp only [c9, if_true] at hc ⊢
      have hm : MonoF (if l.getD 0 0 < l.getD 1 0 then gs.getD 2 noSaid else gs.getD 3 noSaid) := by
        split
        · exact getD_mono hg 2
        · exact getD_mono hg 3
      have := hm (f - (1 + (ms.length : Int))) (f + (fu' - fu) - (1 + (ms.length : Int))) (by omega) hc
      rw [this]
      simp only [Said.mk.injEq, true_and]; omega
    · simp only [c9, if_false] at hc ⊢
      simp only [Said.mk.injEq, true_and]; omega
  · rw [if_pos c1] at hc
    have e := hs hc
    subst e
    dsimp only at *
    rw [if_pos c1, if_pos c1]
theorem eval_mono (ns : List (ByteArray × Int)) : ∀ (k : Nat) (t : Tr), wT t ≤ k → MonoF (evalT ns t) := by
  intro k
  induction k with
  | zero => intro t h; cases t; rw [wT] at h; omega
  | succ k ih =>
    intro t hk
    obtain ⟨o, n, s, ks, ms⟩ := t
    rw [wT] at hk
    have e : evalT ns (.node o n s ks ms) = nodeV ns o n s ms (ks.map (evalT ns)) := by funext fu; rw [evalT, evalFs_eq]
    rw [e]
    refine nodeV_mono ns o n s ms _ fun g hg => ?_
    obtain ⟨t, ht, rfl⟩ := List.mem_map.1 hg
    exact ih t (by have := wL_mem ht; omega)
/-- With as much as it may need it never lacks. -/
def EnoughF (g : Int → Said) (c : Int) : Prop := ∀ fu, c ≤ fu → (g fu).c ≠ 1 ∧ fu - c ≤ (g fu).f
theorem seqF_enough (ns : List (ByteArray × Int)) : ∀ (ts : List Tr) (fu : Int), (∀ t ∈ ts, 0 ≤ costT t ∧ EnoughF (evalT ns t) (costT t)) → (ts.map costT).sum ≤ fu → (seqF (ts.map (evalT ns)) fu).2.1 ≠ 1 ∧ fu - (ts.map costT).sum ≤ (seqF (ts.map (evalT ns)) fu).2.2
  | [], fu, h, hc => by simp [seqF]
  | t :: r, fu, h, hc => by
    have h1 := h t (by simp)
    have hr : 0 ≤ (r.map costT).sum := by
      have : ∀ l : List Tr, (∀ t ∈ l, 0 ≤ costT t) → 0 ≤ (l.map costT).sum := by
        intro l
        induction l with
        | nil => intro _; simp
        | cons a l ih => intro hl; simp only [List.map_cons, List.sum_cons]; have := hl a (by simp); have := ih (fun x hx => hl x (by simp [hx])); omega
      exact this r fun x hx => (h x (by simp [hx])).1
    simp only [List.map_cons, List.sum_cons] at hc ⊢
    obtain ⟨e1, e2⟩ := h1.2 fu (by omega)
    rw [seqF]
    split
    · have ih := seqF_enough ns r (evalT ns t fu).f (fun x hx => h x (by simp [hx])) (by omega)
      exact ⟨ih.1, by simp only; omega⟩
    · exact ⟨e1, by simp only; omega⟩
theorem eval_enough (ns : List (ByteArray × Int)) : ∀ (k : Nat) (t : Tr), wT t ≤ k → OkP t → EnoughF (evalT ns t) (costT t) := by
  intro k
  induction k with
  | zero => intro t h; cases t; rw [wT] at h; omega
  | succ k ih =>
    intro t hk h fu hfu
    obtain ⟨o, n, s, ks, ms⟩ := t
    obtain ⟨hp, h3⟩ := okP_parts h
    rw [wT] at hk
    have hK : ∀ t ∈ ks, 0 ≤ costT t ∧ EnoughF (evalT ns t) (costT t) := fun t ht => ⟨by have := (cost_bd _ t (Nat.le_refl _) (h3 t ht)).1; omega, ih t (by have := wL_mem ht; omega) (h3 t ht)⟩
    rw [costT, costsL_eq] at hfu
    rw [evalT, evalFs_eq, costT, costsL_eq]
    by_cases c9 : o = 9
    · subst c9
      have h4 := if_kids hp
      obtain ⟨a, b, c, d, rfl⟩ := four h4
      simp only [if_true, List.map_cons, List.map_nil, ifC] at hfu ⊢
      have hs := seqF_enough ns [a, b] fu (fun t ht => hK t (by simp at ht ⊢; rcases ht with h | h <;> simp [h])) (by
        have := (hK c (by simp)).1
        have := (hK d (by simp)).1
        simp only [List.map_cons, List.map_nil, List.sum_cons, List.sum_nil]; split at hfu <;> omega)
      unfold nodeV
      simp only [if_true, List.map_cons, List.map_nil, List.sum_cons, List.sum_nil, List.take_succ_cons, List.take_zero] at hs ⊢
      generalize seqF [evalT ns a, evalT ns b] fu = q at *
      obtain ⟨l, cc, f⟩ := q
      dsimp only at *
      have m1 := (hK c (by simp)).1
      have m2 := (hK d (by simp)).1
      by_cases c1 : cc = 0
      · simp only [c1, ne_eq, not_true_eq_false, if_false]
        rw [if_neg (by split at hfu <;> omega)]
        have e2 : [evalT ns a, evalT ns b, evalT ns c, evalT ns d].getD 2 noSaid = evalT ns c := rfl
        have e3 : [evalT ns a, evalT ns b, evalT ns c, evalT ns d].getD 3 noSaid = evalT ns d := rfl
        rw [e2, e3]
        by_cases hl : l.getD 0 0 < l.getD 1 0
        · rw [if_pos hl]
          have := (hK c (by simp)).2 (f - (1 + (ms.length : Int))) (by split at hfu <;> omega)
          refine ⟨this.1, ?_⟩
          split at hfu <;> omega
        · rw [if_neg hl]
          have := (hK d (by simp)).2 (f - (1 + (ms.length : Int))) (by split at hfu <;> omega)
          refine ⟨this.1, ?_⟩
          split at hfu <;> omega
      · rw [if_pos c1]
        refine ⟨hs.1, ?_⟩
        simp only
        split at hfu <;> omega
    · simp only [c9, if_false] at hfu ⊢
      have hs := seqF_enough ns ks fu hK (by omega)
      unfold nodeV
      simp only [c9, if_false, List.take_length] at hs ⊢
      generalize seqF (ks.map (evalT ns)) fu = q at *
      obtain ⟨l, cc, f⟩ := q
      dsimp only at *
      by_cases c1 : cc = 0
      · simp only [c1, ne_eq, not_true_eq_false, if_false]
        rw [if_neg (by omega)]
        exact ⟨doR_ne1 _ _ _ _ _ _, by simp only; omega⟩
      · rw [if_pos c1]
        exact ⟨hs.1, by simp only; omega⟩
/-- P11: as much as it may need is enough, and more than was enough changes nothing. -/
theorem fuel_law (ns : List (ByteArray × Int)) {t : Tr} (h : OkP t) (fu : Int) : (evalT ns t (costT t)).c ≠ 1 ∧ ((evalT ns t fu).c = 1 ∨ ((evalT ns t fu).v = (evalT ns t (costT t)).v ∧ (evalT ns t fu).c = (evalT ns t (costT t)).c)) := by
  have e := eval_enough ns _ t (Nat.le_refl _) h
  have m := eval_mono ns _ t (Nat.le_refl _)
  refine ⟨(e _ (Int.le_refl _)).1, ?_⟩
  by_cases c : (evalT ns t fu).c = 1
  · exact .inl c
  · rcases Int.le_total fu (costT t) with h1 | h1
    · have := m fu (costT t) h1 c
      exact .inr (by rw [this]; exact ⟨rfl, rfl⟩)
    · have := m (costT t) fu h1 (e _ (Int.le_refl _)).1
      exact .inr (by rw [this]; exact ⟨rfl, rfl⟩)
theorem namesL_mem {ks : List Tr} {t : Tr} (h : t ∈ ks) {x : List UInt8} (hx : x ∈ namesT t) : x ∈ namesL ks := by
  induction ks with
  | nil => simp at h
  | cons y r ih =>
    rw [namesL]
    rcases List.mem_cons.1 h with rfl | h
    · exact List.mem_append_left _ hx
    · exact List.mem_append_right _ (ih h)
theorem doR_only {ns ns' : List (ByteArray × Int)} {o n : Int} {s : ByteArray} {ms : List (Int × Int)} {l : List Int} (h : o = 2 → varV ns' s = varV ns s) : doR ns' o n s ms l = doR ns o n s ms l := by
  unfold doR
  split
  · rfl
  split
  · exact h ‹_›
  · rfl
/-- A rule hangs on its names alone. -/
theorem eval_only (ns ns' : List (ByteArray × Int)) : ∀ (k : Nat) (t : Tr), wT t ≤ k → (∀ s : ByteArray, s.data.toList ∈ namesT t → varV ns' s = varV ns s) → evalT ns' t = evalT ns t := by
  intro k
  induction k with
  | zero => intro t h; cases t; rw [wT] at h; omega
  | succ k ih =>
    intro t hk h
    obtain ⟨o, n, s, ks, ms⟩ := t
    rw [wT] at hk
    have e : ks.map (evalT ns') = ks.map (evalT ns) := List.map_congr_left fun t ht => ih t (by have := wL_mem ht; omega) (fun s hs => h s (by rw [namesT]; exact List.mem_append_right _ (namesL_mem ht hs)))
    funext fu
    rw [evalT, evalT, evalFs_eq, evalFs_eq, e]
    unfold nodeV
    rw [doR_only (ns := ns) (ns' := ns') (fun ho => h s (by rw [namesT, if_pos ho]; simp))]
theorem varV_filter (L : List (List UInt8)) (s : ByteArray) (hs : s.data.toList ∈ L) : ∀ ns : List (ByteArray × Int), varV (ns.filter fun p => decide (p.1.data.toList ∈ L)) s = varV ns s
  | [] => rfl
  | p :: r => by
    rw [List.filter_cons]
    by_cases c : p.1.data.toList ∈ L
    · rw [if_pos (by simpa using c), varV, varV, varV_filter L s hs r]
    · rw [if_neg (by simpa using c), varV_filter L s hs r, varV, if_neg]
      intro e
      exact c (by rw [e]; exact hs)
mutual
/-- All of a rule at a depth has what the table says, and is not too deep. -/
def okD : Tr → Nat → Prop
  | .node o n s ks ms, d => d ≤ 6 ∧ PlainN o n s ks.length ms ∧ okDL ks (d + 1)
def okDL : List Tr → Nat → Prop
  | [], _ => True
  | t :: r, d => okD t d ∧ okDL r d
end
mutual
theorem parts_okD : ∀ (t : Tr) (d : Nat) (l : Int), 0 ≤ partsT t d l → okD t d ∧ partsT t d l = l - wT t
  | .node o n s ks ms, d, l, h => by
    rw [partsT] at h ⊢
    rw [okD, wT]
    split at h
    · omega
    · rename_i hc
      rw [if_neg hc]
      obtain ⟨h1, h2⟩ := partsL_okD ks (d + 1) (l - 1) h
      exact ⟨⟨by omega, Decidable.not_not.1 fun hp => hc (Or.inr (Or.inr hp)), h1⟩, by omega⟩
theorem partsL_okD : ∀ (ks : List Tr) (d : Nat) (n : Int), 0 ≤ partsL ks d n → okDL ks d ∧ partsL ks d n = n - wL ks
  | [], d, n, h => by rw [partsL, wL, okDL]; exact ⟨trivial, by omega⟩
  | t :: r, d, n, h => by
    rw [partsL] at h ⊢
    rw [okDL, wL]
    split at h
    · omega
    · rename_i hc
      rw [if_neg hc]
      obtain ⟨h1, h2⟩ := partsL_okD r d _ h
      have : 0 ≤ (wL r : Int) := Int.natCast_nonneg _
      obtain ⟨h3, h4⟩ := parts_okD t d n (by omega)
      exact ⟨⟨h3, h1⟩, by omega⟩
end
mutual
theorem okD_parts : ∀ (t : Tr) (d : Nat) (l : Int), okD t d → (wT t : Int) ≤ l → partsT t d l = l - wT t
  | .node o n s ks ms, d, l, h, hl => by
    rw [okD] at h
    rw [wT] at hl ⊢
    have : 0 ≤ (wL ks : Int) := Int.natCast_nonneg _
    rw [partsT, if_neg (by rintro (a | a | a); · omega
                           · omega
                           · exact a h.2.1), okDL_parts ks (d + 1) (l - 1) h.2.2 (by omega)]
    omega
theorem okDL_parts : ∀ (ks : List Tr) (d : Nat) (n : Int), okDL ks d → (wL ks : Int) ≤ n → partsL ks d n = n - wL ks
  | [], d, n, h, hl => by rw [partsL, wL]; omega
  | t :: r, d, n, h, hl => by
    rw [okDL] at h
    rw [wL] at hl ⊢
    have : 0 ≤ (wL r : Int) := Int.natCast_nonneg _
    have : 0 ≤ (wT t : Int) := Int.natCast_nonneg _
    rw [partsL, if_neg (by omega), okD_parts t d n h.1 (by omega), okDL_parts r d _ h.2 (by omega)]
    omega
end
theorem parts_iff (t : Tr) (d : Nat) (l : Int) : 0 ≤ partsT t d l ↔ okD t d ∧ (wT t : Int) ≤ l := by
  constructor
  · intro h; obtain ⟨a, b⟩ := parts_okD t d l h; exact ⟨a, by omega⟩
  · rintro ⟨a, b⟩; rw [okD_parts t d l a b]; omega
/-- What an answer is, whatever fuel there is, if it is enough. -/
theorem eval_same (ns : List (ByteArray × Int)) {t : Tr} (h : OkP t) {fu : Int} (hf : costT t ≤ fu) : (evalT ns t fu).v = (evalT ns t (costT t)).v ∧ (evalT ns t fu).c = (evalT ns t (costT t)).c := by
  have := eval_mono ns _ t (Nat.le_refl _) (costT t) fu hf (eval_enough ns _ t (Nat.le_refl _) h _ (Int.le_refl _)).1
  rw [this]; exact ⟨rfl, rfl⟩
theorem eval_two (ns : List (ByteArray × Int)) {o n : Int} {s : ByteArray} {a b : Tr} {ms : List (Int × Int)} (h : OkP (.node o n s [a, b] ms)) (h9 : o ≠ 9) {fu : Int} (hf : costT (.node o n s [a, b] ms) ≤ fu) :
    (evalT ns (.node o n s [a, b] ms) fu).c = (if (evalT ns a (costT a)).c ≠ 0 then (evalT ns a (costT a)).c else if (evalT ns b (costT b)).c ≠ 0 then (evalT ns b (costT b)).c else (doR ns o n s ms [(evalT ns a (costT a)).v, (evalT ns b (costT b)).v]).2) ∧
    ((evalT ns (.node o n s [a, b] ms) fu).c = 0 → (evalT ns (.node o n s [a, b] ms) fu).v = (doR ns o n s ms [(evalT ns a (costT a)).v, (evalT ns b (costT b)).v]).1) := by
  obtain ⟨hp, h3⟩ := okP_parts h
  have ha := h3 a (by simp)
  have hb := h3 b (by simp)
  have ca := (cost_bd _ a (Nat.le_refl _) ha).1
  have cb := (cost_bd _ b (Nat.le_refl _) hb).1
  rw [costT, costsL_eq] at hf
  simp only [h9, if_false, List.map_cons, List.map_nil, List.sum_cons, List.sum_nil] at hf
  obtain ⟨va, ka⟩ := eval_same ns ha (fu := fu) (by omega)
  have fa := (eval_enough ns _ a (Nat.le_refl _) ha fu (by omega)).2
  rw [evalT, evalFs_eq]
  unfold nodeV
  simp only [h9, if_false, List.map_cons, List.map_nil, List.length_cons, List.length_nil, Nat.zero_add, List.take_succ_cons, List.take_zero]
  rw [← va, ← ka]
  by_cases c1 : (evalT ns a fu).c = 0
  · obtain ⟨vb, kb⟩ := eval_same ns hb (fu := (evalT ns a fu).f) (by omega)
    have fb := (eval_enough ns _ b (Nat.le_refl _) hb (evalT ns a fu).f (by omega)).2
    rw [← vb, ← kb]
    by_cases c2 : (evalT ns b (evalT ns a fu).f).c = 0
    · have hq : seqF [evalT ns a, evalT ns b] fu = ([(evalT ns a fu).v, (evalT ns b (evalT ns a fu).f).v], 0, (evalT ns b (evalT ns a fu).f).f) := by simp [seqF, c1, c2]
      rw [hq]
      dsimp only
      rw [if_neg (by simp), if_neg (by omega), if_neg (by simp [c1]), if_neg (by simp [c2])]
      exact ⟨rfl, fun _ => rfl⟩
    · have hq : seqF [evalT ns a, evalT ns b] fu = ([(evalT ns a fu).v], (evalT ns b (evalT ns a fu).f).c, (evalT ns b (evalT ns a fu).f).f) := by simp [seqF, c1, c2]
      rw [hq]
      dsimp only
      rw [if_pos c2, if_neg (by simp [c1]), if_pos c2]
      exact ⟨rfl, fun e => absurd e c2⟩
  · have hq : seqF [evalT ns a, evalT ns b] fu = ([], (evalT ns a fu).c, (evalT ns a fu).f) := by simp [seqF, c1]
    rw [hq]
    dsimp only
    rw [if_pos c1, if_pos c1]
    exact ⟨rfl, fun e => absurd e c1⟩
theorem twoV_swap {o : Int} (ho : o = 3 ∨ o = 5 ∨ o = 7 ∨ o = 8) (a b : Int) : twoV o a b = twoV o b a := by
  rcases ho with rfl | rfl | rfl | rfl
  · simp only [twoV, if_true, Int.add_comm]
  · unfold twoV; simp only [show ¬ ((5 : Int) = 3) by decide, show ¬ ((5 : Int) = 4) by decide, if_false, if_true, Int.mul_comm]
  · unfold twoV; simp only [show ¬ ((7 : Int) = 3) by decide, show ¬ ((7 : Int) = 4) by decide, show ¬ ((7 : Int) = 5) by decide, if_false, if_true]
    split <;> split <;> simp <;> omega
  · unfold twoV; simp only [show ¬ ((8 : Int) = 3) by decide, show ¬ ((8 : Int) = 4) by decide, show ¬ ((8 : Int) = 5) by decide, show ¬ ((8 : Int) = 7) by decide, if_false]
    split <;> split <;> simp <;> omega
theorem doR_swap (ns : List (ByteArray × Int)) {o n n' : Int} {s s' : ByteArray} {ms ms' : List (Int × Int)} (ho : o = 3 ∨ o = 5 ∨ o = 7 ∨ o = 8) (a b : Int) : doR ns o n s ms [a, b] = doR ns o n' s' ms' [b, a] := by
  have e : ∀ (n : Int) (s : ByteArray) (ms : List (Int × Int)) (a b : Int), doR ns o n s ms [a, b] = twoV o a b := by
    intro n s ms a b
    unfold doR
    rw [if_neg (by omega), if_neg (by omega), if_neg (by omega), if_neg (by omega)]
    rfl
  rw [e, e, twoV_swap ho]
theorem swap_op {o n : Int} {s : ByteArray} {a b : Tr} {ms : List (Int × Int)} (h : OkP (.node o n s [a, b] ms)) (h4 : o ≠ 4) : o = 3 ∨ o = 5 ∨ o = 7 ∨ o = 8 := by
  have h1 := (okP_parts h).1.1
  simp only [List.length_cons, List.length_nil] at h1
  unfold kidsN at h1
  repeat (split at h1; · omega)
  omega
theorem swap_parts {o n : Int} {s : ByteArray} {a b : Tr} {ms : List (Int × Int)} (ho : o = 3 ∨ o = 5 ∨ o = 7 ∨ o = 8) {d : Nat} {l : Int} (h : 0 ≤ partsT (.node o n s [a, b] ms) d l) : 0 ≤ partsT (.node o 0 ⟨#[]⟩ [b, a] []) d l := by
  rw [parts_iff] at h ⊢
  obtain ⟨h1, h2⟩ := h
  rw [okD] at h1 ⊢
  rw [wT] at h2 ⊢
  simp only [okDL, wL] at h1 h2 ⊢
  refine ⟨⟨h1.1, ⟨h1.2.1.1, ?_⟩, h1.2.2.2.1, h1.2.2.1, trivial⟩, by omega⟩
  unfold HoldsN
  rw [if_neg (by omega), if_neg (by omega), if_neg (by omega)]
  exact ⟨rfl, rfl, rfl⟩
/-- P14: the two turned, it says the same. -/
theorem swap_law (ns : List (ByteArray × Int)) {o n : Int} {s : ByteArray} {a b : Tr} {ms : List (Int × Int)} (h : OkP (.node o n s [a, b] ms)) (h' : OkP (.node o 0 ⟨#[]⟩ [b, a] [])) (ho : o = 3 ∨ o = 5 ∨ o = 7 ∨ o = 8) :
    ((evalT ns (.node o n s [a, b] ms) 1000).c = 0 ↔ (evalT ns (.node o 0 ⟨#[]⟩ [b, a] []) 1000).c = 0) ∧ ((evalT ns (.node o n s [a, b] ms) 1000).c = 0 → (evalT ns (.node o n s [a, b] ms) 1000).v = (evalT ns (.node o 0 ⟨#[]⟩ [b, a] []) 1000).v) := by
  have w1 := okP_w h
  have w2 := okP_w h'
  have c1 := (cost_bd _ _ (Nat.le_refl _) h).2
  have c2 := (cost_bd _ _ (Nat.le_refl _) h').2
  obtain ⟨e1, e2⟩ := eval_two ns h (by omega) (fu := 1000) (by omega)
  obtain ⟨f1, f2⟩ := eval_two ns h' (by omega) (fu := 1000) (by omega)
  have sw := doR_swap ns (n := n) (n' := 0) (s := s) (s' := ⟨#[]⟩) (ms := ms) (ms' := []) ho (evalT ns a (costT a)).v (evalT ns b (costT b)).v
  rw [← sw] at f1 f2
  have key : (evalT ns (.node o n s [a, b] ms) 1000).c = 0 ↔ (evalT ns (.node o 0 ⟨#[]⟩ [b, a] []) 1000).c = 0 := by
    rw [e1, f1]
    by_cases x : (evalT ns a (costT a)).c = 0 <;> by_cases y : (evalT ns b (costT b)).c = 0 <;> simp [x, y]
  exact ⟨key, fun hz => by rw [e2 hz, f2 (key.1 hz)]⟩
end Go.Proofs.YtjphjnopdlfplaaGreatDoor

namespace Go.Proofs.YtjphjnopdlfplaaGreatDoor
open Go.RowKit
set_option linter.unusedVariables false
set_option linter.unusedSimpArgs false

/-- How much fuel a place takes. -/
def costP (d : Pl) : Int := if d.op = 11 then 0 else 1 + d.ms.length
/-- What a program comes to from a place on, with so much at hand, and so much fuel. -/
def machV (ns : List (ByteArray × Int)) : List Pl → List Int → Int → Said
  | [], st, fu => ⟨st.getD 0 0, 0, fu⟩
  | d :: r, st, fu =>
    if fu < costP d then ⟨0, 1, fu⟩
    else if d.op = 11 then machV ns (r.drop d.num.toNat) st (fu - costP d)
    else if d.op = 9 then
      (if (st.drop (st.length - 2)).getD 0 0 < (st.drop (st.length - 2)).getD 1 0 then machV ns r (st.take (st.length - 2)) (fu - costP d)
       else machV ns (r.drop d.num.toNat) (st.take (st.length - 2)) (fu - costP d))
    else if (doR ns d.op d.num d.nm d.ms (st.drop (st.length - (takesV d.op).1.toNat))).2 ≠ 0 then ⟨0, (doR ns d.op d.num d.nm d.ms (st.drop (st.length - (takesV d.op).1.toNat))).2, fu - costP d⟩
    else machV ns r (st.take (st.length - (takesV d.op).1.toNat) ++ [(doR ns d.op d.num d.nm d.ms (st.drop (st.length - (takesV d.op).1.toNat))).1]) (fu - costP d)
termination_by l => l.length
decreasing_by all_goals (simp only [List.length_drop, List.length_cons]; omega)
theorem mach_nil (ns : List (ByteArray × Int)) (st : List Int) (fu : Int) : machV ns [] st fu = ⟨st.getD 0 0, 0, fu⟩ := by rw [machV]
theorem mach_lack (ns : List (ByteArray × Int)) {d : Pl} {r : List Pl} {st : List Int} {fu : Int} (h : fu < costP d) : machV ns (d :: r) st fu = ⟨0, 1, fu⟩ := by rw [machV, if_pos h]
theorem mach_skip (ns : List (ByteArray × Int)) {d : Pl} {r : List Pl} {st : List Int} {fu : Int} (h : ¬ fu < costP d) (ho : d.op = 11) : machV ns (d :: r) st fu = machV ns (r.drop d.num.toNat) st (fu - costP d) := by rw [machV, if_neg h, if_pos ho]
theorem mach_less (ns : List (ByteArray × Int)) {d : Pl} {r : List Pl} {st : List Int} {fu : Int} (h : ¬ fu < costP d) (ho : d.op = 9) (hl : (st.drop (st.length - 2)).getD 0 0 < (st.drop (st.length - 2)).getD 1 0) : machV ns (d :: r) st fu = machV ns r (st.take (st.length - 2)) (fu - costP d) := by rw [machV, if_neg h, if_neg (by omega), if_pos ho, if_pos hl]
theorem mach_more (ns : List (ByteArray × Int)) {d : Pl} {r : List Pl} {st : List Int} {fu : Int} (h : ¬ fu < costP d) (ho : d.op = 9) (hl : ¬ (st.drop (st.length - 2)).getD 0 0 < (st.drop (st.length - 2)).getD 1 0) : machV ns (d :: r) st fu = machV ns (r.drop d.num.toNat) (st.take (st.length - 2)) (fu - costP d) := by rw [machV, if_neg h, if_neg (by omega), if_pos ho, if_neg hl]
theorem mach_bad (ns : List (ByteArray × Int)) {d : Pl} {r : List Pl} {st : List Int} {fu : Int} (h : ¬ fu < costP d) (h11 : d.op ≠ 11) (h9 : d.op ≠ 9) (hb : (doR ns d.op d.num d.nm d.ms (st.drop (st.length - (takesV d.op).1.toNat))).2 ≠ 0) : machV ns (d :: r) st fu = ⟨0, (doR ns d.op d.num d.nm d.ms (st.drop (st.length - (takesV d.op).1.toNat))).2, fu - costP d⟩ := by rw [machV, if_neg h, if_neg h11, if_neg h9, if_pos hb]
theorem mach_do (ns : List (ByteArray × Int)) {d : Pl} {r : List Pl} {st : List Int} {fu : Int} (h : ¬ fu < costP d) (h11 : d.op ≠ 11) (h9 : d.op ≠ 9) (hb : (doR ns d.op d.num d.nm d.ms (st.drop (st.length - (takesV d.op).1.toNat))).2 = 0) : machV ns (d :: r) st fu = machV ns r (st.take (st.length - (takesV d.op).1.toNat) ++ [(doR ns d.op d.num d.nm d.ms (st.drop (st.length - (takesV d.op).1.toNat))).1]) (fu - costP d) := by rw [machV, if_neg h, if_neg h11, if_neg h9, if_neg (by simpa using hb)]
/-- Heights in the end. -/
theorem getD_set_ne {hs : List Int} {i j : Nat} {n : Int} (h : j ≠ i) : (hs.set i n).getD j 0 = hs.getD j 0 := by
  simp only [List.getD, List.getElem?_set_ne (Ne.symm h)]
theorem getD_set_eq {hs : List Int} {i : Nat} {n : Int} (h : i < hs.length) : (hs.set i n).getD i 0 = n := by
  simp [List.getD, h]
theorem mark_keep {hs : List Int} {i j : Nat} {n : Int} (h : 0 ≤ hs.getD j 0) : (markV hs i n).1.getD j 0 = hs.getD j 0 := by
  unfold markV
  split
  · rfl
  · rename_i c
    exact getD_set_ne (fun e => c (by rw [← e]; exact h))
theorem mark_other {hs : List Int} {i j : Nat} {n : Int} (h : j ≠ i) : (markV hs i n).1.getD j 0 = hs.getD j 0 := by
  unfold markV
  split
  · rfl
  · exact getD_set_ne h
theorem mark_at {hs : List Int} {i : Nat} {n : Int} (h : (markV hs i n).2 = true) (hi : i < hs.length) : (markV hs i n).1.getD i 0 = n := by
  unfold markV at h ⊢
  split
  · rename_i c
    rw [if_pos c] at h
    simpa using h
  · exact getD_set_eq hi
theorem marks_keep {hs : List Int} {i j : Nat} {d : Pl} {n : Int} (h : 0 ≤ hs.getD j 0) : (marksV i d n hs).1.getD j 0 = hs.getD j 0 := by
  unfold marksV
  split
  · split
    · rw [mark_keep (by rw [mark_keep h]; exact h), mark_keep h]
    · exact mark_keep h
  split
  · exact mark_keep h
  · exact mark_keep h
theorem marks_low {hs : List Int} {i j : Nat} {d : Pl} {n : Int} (h : j ≤ i) : (marksV i d n hs).1.getD j 0 = hs.getD j 0 := by
  unfold marksV
  split
  · split
    · rw [mark_other (by omega), mark_other (by omega)]
    · exact mark_other (by omega)
  split
  · exact mark_other (by omega)
  · exact mark_other (by omega)
/-- What holds in the end of a place that is reached. -/
def FinV (q : Nat) (hs : List Int) (i : Nat) (d : Pl) : Prop :=
  (0 ≤ (takesV d.op).1 ∧ HoldsV d.op d.num ((q : Int) - i - 1) d.nm d.ms) ∧ (0 ≤ hs.getD i 0 → (takesV d.op).1 ≤ hs.getD i 0 ∧ leftV i d hs ≤ 12 ∧ (d.op = 11 → hs.getD (i + 1 + d.num.toNat) 0 = leftV i d hs) ∧ (d.op = 9 → hs.getD (i + 1) 0 = leftV i d hs ∧ hs.getD (i + 1 + d.num.toNat) 0 = leftV i d hs) ∧ (d.op ≠ 9 → d.op ≠ 11 → hs.getD (i + 1) 0 = leftV i d hs))
theorem step_low {q i : Nat} {d : Pl} {hs hs' : List Int} (h : stepV q i d hs = some hs') {j : Nat} (hj : j ≤ i) : hs'.getD j 0 = hs.getD j 0 := by
  unfold stepV at h
  split at h
  · cases h
  split at h
  · cases h; rfl
  split at h
  · cases h
  split at h
  · cases h; exact marks_low hj
  · cases h
theorem step_keep {q i : Nat} {d : Pl} {hs hs' : List Int} (h : stepV q i d hs = some hs') {j : Nat} (hj : 0 ≤ hs.getD j 0) : hs'.getD j 0 = hs.getD j 0 := by
  unfold stepV at h
  split at h
  · cases h
  split at h
  · cases h; rfl
  split at h
  · cases h
  split at h
  · cases h; exact marks_keep hj
  · cases h
theorem run_facts (q : Nat) : ∀ (ds : List Pl) (i : Nat) (hs hs' : List Int), hs.length = q + 1 → i + ds.length = q → runV q i ds hs = some hs' →
    (∀ j, 0 ≤ hs.getD j 0 → hs'.getD j 0 = hs.getD j 0) ∧ (∀ j, j ≤ i → hs'.getD j 0 = hs.getD j 0) ∧ ∀ k, (h : k < ds.length) → FinV q hs' (i + k) ds[k]
  | [], i, hs, hs', hl, hq, h => by
    rw [runV] at h; cases h
    exact ⟨fun _ _ => rfl, fun _ _ => rfl, fun k hk => by simp at hk⟩
  | d :: r, i, hs, hs', hl, hq, h => by
    rw [runV] at h
    obtain ⟨h1, hst, hr⟩ := Option.bind_eq_some_iff.1 h
    simp only [List.length_cons] at hq
    have hl1 := step_len hst
    obtain ⟨a, b, c⟩ := run_facts q r (i + 1) h1 hs' (by omega) (by omega) hr
    refine ⟨fun j hj => ?_, fun j hj => ?_, fun k hk => ?_⟩
    · have e := step_keep hst hj
      rw [a j (by rw [e]; exact hj), e]
    · rw [b j (by omega), step_low hst hj]
    · cases k with
      | succ k =>
        have := c k (by simpa using hk)
        simpa [Nat.add_assoc, Nat.add_comm 1 k] using this
      | zero =>
        simp only [List.getElem_cons_zero, Nat.add_zero]
        have ei : hs'.getD i 0 = hs.getD i 0 := by rw [b i (by omega), step_low hst (Nat.le_refl _)]
        have el : leftV i d hs' = leftV i d hs := by unfold leftV; rw [ei]
        have tb := takes_bd d.op
        have h0 := hst
        unfold stepV at h0
        split at h0
        · cases h0
        rename_i c1
        have hv : HoldsV d.op d.num ((q : Int) - i - 1) d.nm d.ms := Decidable.not_not.1 fun x => c1 (.inr x)
        refine ⟨⟨by omega, hv⟩, fun hh => ?_⟩
        rw [ei] at hh ⊢
        rw [el]
        rw [if_neg (by omega)] at h0
        split at h0
        · cases h0
        rename_i c3
        split at h0
        · rename_i c4
          cases h0
          have hlv : leftV i d hs = hs.getD i 0 - (takesV d.op).1 + (takesV d.op).2 := rfl
          have l0 : 0 ≤ leftV i d hs := by omega
          refine ⟨by omega, by omega, fun ho => ?_, fun ho => ?_, fun h9 h11 => ?_⟩
          · have hk : d.num.toNat < q - i := by
              have hv2 := hv
              unfold HoldsV at hv2
              rw [if_pos (.inr ho)] at hv2
              omega
            have e : (marksV i d (leftV i d hs) hs).1.getD (i + 1 + d.num.toNat) 0 = leftV i d hs := by
              unfold marksV at c4 ⊢
              rw [if_neg (by omega), if_pos ho] at c4 ⊢
              exact mark_at c4 (by omega)
            rw [a _ (by rw [e]; exact l0), e]
          · have hk : d.num.toNat < q - i := by
              have hv2 := hv
              unfold HoldsV at hv2
              rw [if_pos (.inl ho)] at hv2
              omega
            have e : (marksV i d (leftV i d hs) hs).1.getD (i + 1) 0 = leftV i d hs ∧ (marksV i d (leftV i d hs) hs).1.getD (i + 1 + d.num.toNat) 0 = leftV i d hs := by
              unfold marksV at c4 ⊢
              rw [if_pos ho] at c4 ⊢
              by_cases cm : (markV hs (i + 1) (leftV i d hs)).2 = true
              · rw [if_pos cm] at c4 ⊢
                have e1 := mark_at cm (by omega)
                exact ⟨by rw [mark_keep (by rw [e1]; exact l0), e1], mark_at c4 (by rw [markV_len]; omega)⟩
              · rw [if_neg cm] at c4
                exact absurd c4 cm
            exact ⟨by rw [a _ (by rw [e.1]; exact l0), e.1], by rw [a _ (by rw [e.2]; exact l0), e.2]⟩
          · have e : (marksV i d (leftV i d hs) hs).1.getD (i + 1) 0 = leftV i d hs := by
              unfold marksV at c4 ⊢
              rw [if_neg h9, if_neg h11] at c4 ⊢
              exact mark_at c4 (by omega)
            rw [a _ (by rw [e]; exact l0), e]
        · cases h0
theorem run_len (q : Nat) : ∀ (ds : List Pl) (i : Nat) (hs hs' : List Int), runV q i ds hs = some hs' → hs'.length = hs.length
  | [], i, hs, hs', h => by rw [runV] at h; cases h; rfl
  | d :: r, i, hs, hs', h => by
    rw [runV] at h
    obtain ⟨h1, hst, hr⟩ := Option.bind_eq_some_iff.1 h
    rw [run_len q r (i + 1) h1 hs' hr, step_len hst]
/-- A program whose ways fit together, with how much is at hand at each place. -/
structure WayV (ds : List Pl) (hs : List Int) : Prop where
  first : hs.getD 0 0 = 0
  last : hs.getD ds.length 0 = 1
  len : hs.length = ds.length + 1
  fin : ∀ k, (h : k < ds.length) → FinV ds.length hs k ds[k]
theorem way_of {ds : List Pl} {hs : List Int} (h : heightsV ds = some hs) : WayV ds hs := by
  unfold heightsV at h
  obtain ⟨h1, hr, h2⟩ := Option.bind_eq_some_iff.1 h
  split at h2
  · cases h2
    rename_i hl
    obtain ⟨a, b, c⟩ := run_facts ds.length ds 0 _ _ (by simp [firstV]) (by omega) hr
    refine ⟨by rw [b 0 (Nat.le_refl _)]; rfl, hl, by rw [run_len _ _ _ _ _ hr]; simp [firstV], fun k hk => by have := c k hk; rwa [Nat.zero_add] at this⟩
  · cases h2
/-- Where a program is: so much is at hand as its ways say, and all of it amounts. -/
def AtV (ds : List Pl) (hs : List Int) (i : Nat) (st : List Int) : Prop := i ≤ ds.length ∧ hs.getD i 0 = st.length ∧ ∀ x ∈ st, okB x = true
theorem at_first {ds : List Pl} {hs : List Int} (h : WayV ds hs) : AtV ds hs 0 [] := ⟨Nat.zero_le _, by rw [h.first]; rfl, by simp⟩
theorem at_nums {ds : List Pl} {hs : List Int} {i : Nat} {st : List Int} (h : WayV ds hs) (ha : AtV ds hs i st) (hi : i < ds.length) : FinV ds.length hs i ds[i] ∧ (takesV ds[i].op).1.toNat ≤ st.length ∧ leftV i ds[i] hs = (st.length - (takesV ds[i].op).1.toNat : Nat) + (takesV ds[i].op).2 := by
  have f := h.fin i hi
  have g := f.2 (by rw [ha.2.1]; exact Int.natCast_nonneg _)
  have e := ha.2.1
  have h1 := f.1.1
  have h2 := g.1
  refine ⟨f, by omega, ?_⟩
  unfold leftV
  rw [e]
  omega
theorem holds_jump {q i : Nat} {d : Pl} (h : HoldsV d.op d.num ((q : Int) - i - 1) d.nm d.ms) (ho : d.op = 9 ∨ d.op = 11) : i + 1 + d.num.toNat ≤ q ∧ 0 ≤ d.num := by
  unfold HoldsV at h
  rw [if_pos ho] at h
  omega
theorem at_skip {ds : List Pl} {hs : List Int} {i : Nat} {st : List Int} (h : WayV ds hs) (ha : AtV ds hs i st) (hi : i < ds.length) (ho : ds[i].op = 11) : AtV ds hs (i + 1 + ds[i].num.toNat) st := by
  obtain ⟨f, k1, k2⟩ := at_nums h ha hi
  have g := f.2 (by rw [ha.2.1]; exact Int.natCast_nonneg _)
  refine ⟨(holds_jump f.1.2 (.inr ho)).1, ?_, ha.2.2⟩
  rw [g.2.2.1 ho, k2, ho]
  simp [takesV]
theorem at_test {ds : List Pl} {hs : List Int} {i : Nat} {st : List Int} (h : WayV ds hs) (ha : AtV ds hs i st) (hi : i < ds.length) (ho : ds[i].op = 9) : 2 ≤ st.length ∧ AtV ds hs (i + 1) (st.take (st.length - 2)) ∧ AtV ds hs (i + 1 + ds[i].num.toNat) (st.take (st.length - 2)) := by
  obtain ⟨f, k1, k2⟩ := at_nums h ha hi
  have g := f.2 (by rw [ha.2.1]; exact Int.natCast_nonneg _)
  have e2 : (takesV ds[i].op) = (2, 0) := by rw [ho]; rfl
  rw [e2] at k1 k2
  have hl : leftV i ds[i] hs = ((st.take (st.length - 2)).length : Int) := by
    rw [k2, List.length_take]
    show ((st.length - (2 : Int).toNat : Nat) : Int) + 0 = _
    have : (2 : Int).toNat = 2 := rfl
    omega
  have k1' : 2 ≤ st.length := k1
  exact ⟨k1', ⟨by omega, by rw [(g.2.2.2.1 ho).1, hl], fun x hx => ha.2.2 x (List.mem_of_mem_take hx)⟩, ⟨(holds_jump f.1.2 (.inl ho)).1, by rw [(g.2.2.2.1 ho).2, hl], fun x hx => ha.2.2 x (List.mem_of_mem_take hx)⟩⟩
theorem takes_puts {o : Int} (h : 0 ≤ (takesV o).1) (h9 : o ≠ 9) (h11 : o ≠ 11) : (takesV o).2 = 1 ∧ (1 ≤ o ∧ o ≤ 10) ∧ ((takesV o).1 = kidsN o) := by
  have ho : 1 ≤ o ∧ o ≤ 11 := Decidable.not_not.1 fun c => by rw [takes_bad c] at h; simp at h
  obtain ⟨a, b⟩ := ho
  have : o = 1 ∨ o = 2 ∨ o = 3 ∨ o = 4 ∨ o = 5 ∨ o = 6 ∨ o = 7 ∨ o = 8 ∨ o = 10 := by omega
  rcases this with rfl | rfl | rfl | rfl | rfl | rfl | rfl | rfl | rfl <;> exact ⟨rfl, by omega, rfl⟩
theorem at_do {ds : List Pl} {hs : List Int} {i : Nat} {st : List Int} {v : Int} (h : WayV ds hs) (ha : AtV ds hs i st) (hi : i < ds.length) (h9 : ds[i].op ≠ 9) (h11 : ds[i].op ≠ 11) :
    (takesV ds[i].op).1.toNat ≤ st.length ∧ HoldsN ds[i].op ds[i].num ds[i].nm ds[i].ms ∧ (∀ x ∈ st.drop (st.length - (takesV ds[i].op).1.toNat), okB x = true) ∧ (okB v = true → AtV ds hs (i + 1) (st.take (st.length - (takesV ds[i].op).1.toNat) ++ [v])) := by
  obtain ⟨f, k1, k2⟩ := at_nums h ha hi
  have g := f.2 (by rw [ha.2.1]; exact Int.natCast_nonneg _)
  have hv := f.1.2
  unfold HoldsV at hv
  rw [if_neg (by omega)] at hv
  refine ⟨k1, hv, fun x hx => ha.2.2 x (List.mem_of_mem_drop hx), fun hv => ⟨by omega, ?_, fun x hx => ?_⟩⟩
  · rw [g.2.2.2.2 h9 h11, k2, (takes_puts f.1.1 h9 h11).1]
    simp only [List.length_append, List.length_take, List.length_cons, List.length_nil]
    omega
  · rcases List.mem_append.1 hx with h1 | h1
    · exact ha.2.2 x (List.mem_of_mem_take h1)
    · simp at h1; rw [h1]; exact hv
/-- A program's answer is an amount, or a code; fuel is left. -/
theorem mach_ok (ns : List (ByteArray × Int)) {ds : List Pl} {hs : List Int} (h : WayV ds hs) : ∀ (k i : Nat) (st : List Int) (fu : Int), ds.length - i ≤ k → AtV ds hs i st → 0 ≤ fu → SOk fu (machV ns (ds.drop i) st fu) := by
  intro k
  induction k with
  | zero =>
    intro i st fu hk ha h0
    have hi : i = ds.length := by have := ha.1; omega
    subst hi
    rw [List.drop_length, mach_nil]
    have hl := ha.2.1
    rw [h.last] at hl
    obtain ⟨x, rfl⟩ : ∃ x, st = [x] := by
      match st, hl with
      | [x], _ => exact ⟨x, rfl⟩
      | [], hl => simp at hl
      | x :: y :: r, hl => simp at hl; omega
    exact ⟨ha.2.2 x (by simp), by simp, ⟨h0, Int.le_refl _⟩, fun e => absurd rfl e⟩
  | succ k ih =>
    intro i st fu hk ha h0
    rcases Nat.lt_or_ge i ds.length with hi | hi
    rotate_left
    · exact ih i st fu (by omega) ha h0
    rw [List.drop_eq_getElem_cons hi]
    have hc0 : 0 ≤ costP ds[i] := by unfold costP; split <;> omega
    by_cases hc : fu < costP ds[i]
    · rw [mach_lack ns hc]; exact ⟨okB0, by simp, ⟨h0, Int.le_refl _⟩, fun _ => rfl⟩
    have up : ∀ {r : Said}, SOk (fu - costP ds[i]) r → SOk fu r := fun h => ⟨h.1, h.2.1, ⟨h.2.2.1.1, by have := h.2.2.1.2; omega⟩, h.2.2.2⟩
    by_cases h11 : ds[i].op = 11
    · rw [mach_skip ns hc h11, List.drop_drop]
      exact up (ih _ _ _ (by omega) (at_skip h ha hi h11) (by omega))
    by_cases h9 : ds[i].op = 9
    · obtain ⟨t1, t2, t3⟩ := at_test h ha hi h9
      by_cases hl : (st.drop (st.length - 2)).getD 0 0 < (st.drop (st.length - 2)).getD 1 0
      · rw [mach_less ns hc h9 hl]; exact up (ih _ _ _ (by omega) t2 (by omega))
      · rw [mach_more ns hc h9 hl, List.drop_drop]; exact up (ih _ _ _ (by omega) t3 (by omega))
    obtain ⟨d1, d2, d3, d4⟩ := at_do (v := (doR ns ds[i].op ds[i].num ds[i].nm ds[i].ms (st.drop (st.length - (takesV ds[i].op).1.toNat))).1) h ha hi h9 h11
    have hd := doR_ok (ns := ns) d2 d3
    by_cases hb : (doR ns ds[i].op ds[i].num ds[i].nm ds[i].ms (st.drop (st.length - (takesV ds[i].op).1.toNat))).2 = 0
    · rw [mach_do ns hc h11 h9 hb]; exact up (ih _ _ _ (by omega) (d4 hd.1) (by omega))
    · rw [mach_bad ns hc h11 h9 hb]; exact ⟨okB0, hd.2.1, ⟨by simp only; omega, by simp only; omega⟩, fun _ => rfl⟩
/-- With more fuel it comes to the same, if it did not lack. -/
theorem mach_mono (ns : List (ByteArray × Int)) : ∀ (k : Nat) (l : List Pl) (st : List Int), l.length ≤ k → MonoF (machV ns l st) := by
  intro k
  induction k with
  | zero =>
    intro l st hk fu fu' h hc
    obtain rfl := List.eq_nil_of_length_eq_zero (Nat.le_zero.1 hk)
    rw [mach_nil, mach_nil]; simp only [Said.mk.injEq, true_and]; omega
  | succ k ih =>
    intro l st hk fu fu' h hc
    cases l with
    | nil => rw [mach_nil, mach_nil]; simp only [Said.mk.injEq, true_and]; omega
    | cons d r =>
      simp only [List.length_cons] at hk
      by_cases c : fu < costP d
      · rw [mach_lack ns c] at hc; exact absurd rfl hc
      have c' : ¬ fu' < costP d := by omega
      have up : ∀ {l' : List Pl} {st' : List Int}, l'.length ≤ k → machV ns (d :: r) st fu = machV ns l' st' (fu - costP d) → machV ns (d :: r) st fu' = machV ns l' st' (fu' - costP d) → machV ns (d :: r) st fu' = ⟨(machV ns (d :: r) st fu).v, (machV ns (d :: r) st fu).c, (machV ns (d :: r) st fu).f + (fu' - fu)⟩ := by
        intro l' st' hl e1 e2
        rw [e1] at hc ⊢
        rw [e2, ih l' st' hl (fu - costP d) (fu' - costP d) (by omega) hc]
        simp only [Said.mk.injEq, true_and]; omega
      by_cases h11 : d.op = 11
      · exact up (by simp only [List.length_drop]; omega) (mach_skip ns c h11) (mach_skip ns c' h11)
      by_cases h9 : d.op = 9
      · by_cases hl : (st.drop (st.length - 2)).getD 0 0 < (st.drop (st.length - 2)).getD 1 0
        · exact up (by omega) (mach_less ns c h9 hl) (mach_less ns c' h9 hl)
        · exact up (by simp only [List.length_drop]; omega) (mach_more ns c h9 hl) (mach_more ns c' h9 hl)
      by_cases hb : (doR ns d.op d.num d.nm d.ms (st.drop (st.length - (takesV d.op).1.toNat))).2 = 0
      · exact up (by omega) (mach_do ns c h11 h9 hb) (mach_do ns c' h11 h9 hb)
      · rw [mach_bad ns c h11 h9 hb, mach_bad ns c' h11 h9 hb]; simp only [Said.mk.injEq, true_and]; omega
/-- A program behind which others stand, and what is at hand below. -/
theorem mach_app (ns : List (ByteArray × Int)) {ds : List Pl} {hs : List Int} (h : WayV ds hs) (bs : List Int) (r : List Pl) : ∀ (k i : Nat) (st : List Int) (fu : Int), ds.length - i ≤ k → AtV ds hs i st →
    machV ns (ds.drop i ++ r) (bs ++ st) fu = if (machV ns (ds.drop i) st fu).c ≠ 0 then machV ns (ds.drop i) st fu else machV ns r (bs ++ [(machV ns (ds.drop i) st fu).v]) (machV ns (ds.drop i) st fu).f := by
  intro k
  induction k with
  | zero =>
    intro i st fu hk ha
    have hi : i = ds.length := by have := ha.1; omega
    subst hi
    rw [List.drop_length, mach_nil, List.nil_append]
    have hl := ha.2.1
    rw [h.last] at hl
    obtain ⟨x, rfl⟩ : ∃ x, st = [x] := by
      match st, hl with
      | [x], _ => exact ⟨x, rfl⟩
      | [], hl => simp at hl
      | x :: y :: r, hl => simp at hl; omega
    rfl
  | succ k ih =>
    intro i st fu hk ha
    rcases Nat.lt_or_ge i ds.length with hi | hi
    rotate_left
    · exact ih i st fu (by omega) ha
    rw [List.drop_eq_getElem_cons hi, List.cons_append]
    by_cases hc : fu < costP ds[i]
    · rw [mach_lack ns hc, mach_lack ns hc, if_pos (by simp)]
    have tk : ∀ n, n ≤ st.length → (bs ++ st).take ((bs ++ st).length - n) = bs ++ st.take (st.length - n) := fun n hn => by
      rw [List.take_append, List.length_append, List.take_of_length_le (by omega), show bs.length + st.length - n - bs.length = st.length - n by omega]
    have dr : ∀ n, n ≤ st.length → (bs ++ st).drop ((bs ++ st).length - n) = st.drop (st.length - n) := fun n hn => by
      rw [List.drop_append, List.length_append, List.drop_eq_nil_of_le (by omega), List.nil_append, show bs.length + st.length - n - bs.length = st.length - n by omega]
    have dd : ∀ n, i + 1 + n ≤ ds.length → (ds.drop (i + 1) ++ r).drop n = ds.drop (i + 1 + n) ++ r := fun n hn => by
      rw [List.drop_append, List.drop_drop, List.length_drop, show n - (ds.length - (i + 1)) = 0 by omega, List.drop_zero]
    by_cases h11 : ds[i].op = 11
    · have hn := at_skip h ha hi h11
      rw [mach_skip ns hc h11, mach_skip ns hc h11, dd _ hn.1, List.drop_drop]
      exact ih _ _ _ (by omega) hn
    by_cases h9 : ds[i].op = 9
    · obtain ⟨t1, t2, t3⟩ := at_test h ha hi h9
      by_cases hl : (st.drop (st.length - 2)).getD 0 0 < (st.drop (st.length - 2)).getD 1 0
      · rw [mach_less ns hc h9 hl, mach_less ns hc h9 (by rw [dr 2 t1]; exact hl), tk 2 t1]; exact ih _ _ _ (by omega) t2
      · rw [mach_more ns hc h9 hl, mach_more ns hc h9 (by rw [dr 2 t1]; exact hl), tk 2 t1, dd _ t3.1, List.drop_drop]; exact ih _ _ _ (by omega) t3
    obtain ⟨d1, d2, d3, d4⟩ := at_do (v := (doR ns ds[i].op ds[i].num ds[i].nm ds[i].ms (st.drop (st.length - (takesV ds[i].op).1.toNat))).1) h ha hi h9 h11
    have hd := doR_ok (ns := ns) d2 d3
    by_cases hb : (doR ns ds[i].op ds[i].num ds[i].nm ds[i].ms (st.drop (st.length - (takesV ds[i].op).1.toNat))).2 = 0
    · rw [mach_do ns hc h11 h9 hb, mach_do ns hc h11 h9 (by rw [dr _ d1]; exact hb), tk _ d1, dr _ d1, List.append_assoc]; exact ih _ _ _ (by omega) (d4 hd.1)
    · rw [mach_bad ns hc h11 h9 hb, mach_bad ns hc h11 h9 (by rw [dr _ d1]; exact hb), dr _ d1, if_pos hb]
end Go.Proofs.YtjphjnopdlfplaaGreatDoor
