/-
  More fuel changes nothing but that there is enough; only names count; the two of a rule turned: plain facts, no law is proved here.
-/
import Derived.Test.YtemjooejfmkkbaaGreatDoorJ28
import Derived.Test.YtemjooejfmkkbaaGreatDoorNamesMath
import Derived.Test.YtemjooejfmkkbaaGreatDoorJ27
namespace Go.Proofs.YtemjooejfmkkbaaGreatDoor
open Go.RowKit
set_option linter.unusedVariables false
set_option linter.unusedSimpArgs false

theorem varV_ne1 : ∀ (ns : List (ByteArray × Int)) (s : ByteArray), (varV ns s).2 ≠ 1
  | [], s => by simp [varV]
  | p :: r, s => by
    rw [varV]
    split
    · split <;> simp
    · exact varV_ne1 r s
theorem orB_ne1 (x : Int) (b : Bool) : (orB x b).2 ≠ 1 := by unfold orB; split <;> simp
theorem doR_ne1 (ns : List (ByteArray × Int)) (o n : Int) (s : ByteArray) (ms : List (Int × Int)) (l : List Int) : (doR ns o n s ms l).2 ≠ 1 := by
  unfold doR
  split
  · simp
  split
  · exact varV_ne1 ns s
  split
  · unfold partW
    split
    · simp
    · exact orB_ne1 _ _
  split
  · unfold tierV
    split
    · simp
    · exact orB_ne1 _ _
  · unfold twoV
    split
    · exact orB_ne1 _ _
    split
    · exact orB_ne1 _ _
    split
    · exact orB_ne1 _ _
    split <;> simp
/-- With more fuel it says the same, if it did not lack. -/
def MonoF (g : Int → Said) : Prop := ∀ fu fu' : Int, fu ≤ fu' → (g fu).c ≠ 1 → g fu' = ⟨(g fu).v, (g fu).c, (g fu).f + (fu' - fu)⟩
theorem noSaid_mono : MonoF noSaid := fun fu fu' h _ => by simp only [noSaid, Said.mk.injEq, true_and]; omega
theorem seqF_mono : ∀ (gs : List (Int → Said)) (fu fu' : Int), fu ≤ fu' → (∀ g ∈ gs, MonoF g) → (seqF gs fu).2.1 ≠ 1 → seqF gs fu' = ((seqF gs fu).1, (seqF gs fu).2.1, (seqF gs fu).2.2 + (fu' - fu))
  | [], fu, fu', h, hg, hc => by simp only [seqF, Prod.mk.injEq, true_and]; omega
  | g :: r, fu, fu', h, hg, hc => by
    have hm := hg g (by simp) fu fu' h
    rw [seqF] at hc ⊢
    rw [seqF]
    by_cases c0 : (g fu).c = 0
    · rw [if_pos c0] at hc ⊢
      have e := hm (by omega)
      have ih := seqF_mono r (g fu).f (g fu').f (by rw [e]; simp only; omega) (fun g' hg' => hg g' (by simp [hg'])) hc
      rw [if_pos (by rw [e]; exact c0), ih, e]
      simp only [Prod.mk.injEq, true_and]
      omega
    · rw [if_neg c0] at hc ⊢
      have e := hm hc
      rw [if_neg (by rw [e]; exact c0), e]
theorem getD_mono {gs : List (Int → Said)} (h : ∀ g ∈ gs, MonoF g) (i : Nat) : MonoF (gs.getD i noSaid) := by
  rcases Nat.lt_or_ge i gs.length with hi | hi
  · have : gs.getD i noSaid = gs[i] := by simp [hi]
    rw [this]; exact h _ (List.getElem_mem _)
  · have : gs.getD i noSaid = noSaid := by simp [List.getD, List.getElem?_eq_none hi]
    rw [this]; exact noSaid_mono
theorem nodeV_mono (ns : List (ByteArray × Int)) (o n : Int) (s : ByteArray) (ms : List (Int × Int)) (gs : List (Int → Said)) (hg : ∀ g ∈ gs, MonoF g) : MonoF (nodeV ns o n s ms gs) := by
  intro fu fu' h hc
  have hs := seqF_mono (gs.take (if o = 9 then 2 else gs.length)) fu fu' h (fun g h => hg g (List.mem_of_mem_take h))
  unfold nodeV at hc ⊢
  generalize hq : seqF (gs.take (if o = 9 then 2 else gs.length)) fu = q at *
  generalize hq' : seqF (gs.take (if o = 9 then 2 else gs.length)) fu' = q' at *
  obtain ⟨l, c, f⟩ := q
  dsimp only at *
  by_cases c1 : c = 0
  · have e := hs (by omega)
    subst e
    dsimp only at *
    simp only [c1, ne_eq, not_true_eq_false, if_false] at hc ⊢
    by_cases c2 : f < 1 + (ms.length : Int)
    · rw [if_pos c2] at hc; exact absurd rfl hc
    rw [if_neg c2] at hc ⊢
    rw [if_neg (by omega)]
    by_cases c9 : o = 9
    · simp only [c9, if_true] at hc ⊢
      have hm : MonoF (if l.getD 0 0 < l.getD 1 0 then gs.getD 2 noSaid else gs.getD 3 noSaid) := by
        split
        · exact getD_mono hg 2
        · exact getD_mono hg 3
      have := hm (f - (1 + (ms.length : Int))) (f + (fu' - fu) - (1 + (ms.length : Int))) (by omega) hc
      rw [this]
      simp only [Said.mk.injEq, true_and]; omega
    · simp only [c9, if_false] at hc ⊢
      simp only [Said.mk.injEq, true_and]; omega
  · rw [if_pos c1] at hc
    have e := hs hc
    subst e
    dsimp only at *
    rw [if_pos c1, if_pos c1]
theorem eval_mono (ns : List (ByteArray × Int)) : ∀ (k : Nat) (t : Tr), wT t ≤ k → MonoF (evalT ns t) := by
  intro k
  induction k with
  | zero => intro t h; cases t; rw [wT] at h; omega
  | succ k ih =>
    intro t hk
    obtain ⟨o, n, s, ks, ms⟩ := t
    rw [wT] at hk
    have e : evalT ns (.node o n s ks ms) = nodeV ns o n s ms (ks.map (evalT ns)) := by funext fu; rw [evalT, evalFs_eq]
    rw [e]
    refine nodeV_mono ns o n s ms _ fun g hg => ?_
    obtain ⟨t, ht, rfl⟩ := List.mem_map.1 hg
    exact ih t (by have := wL_mem ht; omega)
/-- With as much as it may need it never lacks. -/
def EnoughF (g : Int → Said) (c : Int) : Prop := ∀ fu, c ≤ fu → (g fu).c ≠ 1 ∧ fu - c ≤ (g fu).f
theorem seqF_enough (ns : List (ByteArray × Int)) : ∀ (ts : List Tr) (fu : Int), (∀ t ∈ ts, 0 ≤ costT t ∧ EnoughF (evalT ns t) (costT t)) → (ts.map costT).sum ≤ fu → (seqF (ts.map (evalT ns)) fu).2.1 ≠ 1 ∧ fu - (ts.map costT).sum ≤ (seqF (ts.map (evalT ns)) fu).2.2
  | [], fu, h, hc => by simp [seqF]
  | t :: r, fu, h, hc => by
    have h1 := h t (by simp)
    have hr : 0 ≤ (r.map costT).sum := by
      have : ∀ l : List Tr, (∀ t ∈ l, 0 ≤ costT t) → 0 ≤ (l.map costT).sum := by
        intro l
        induction l with
        | nil => intro _; simp
        | cons a l ih => intro hl; simp only [List.map_cons, List.sum_cons]; have := hl a (by simp); have := ih (fun x hx => hl x (by simp [hx])); omega
      exact this r fun x hx => (h x (by simp [hx])).1
    simp only [List.map_cons, List.sum_cons] at hc ⊢
    obtain ⟨e1, e2⟩ := h1.2 fu (by omega)
    rw [seqF]
    split
    · have ih := seqF_enough ns r (evalT ns t fu).f (fun x hx => h x (by simp [hx])) (by omega)
      exact ⟨ih.1, by simp only; omega⟩
    · exact ⟨e1, by simp only; omega⟩
theorem eval_enough (ns : List (ByteArray × Int)) : ∀ (k : Nat) (t : Tr), wT t ≤ k → OkP t → EnoughF (evalT ns t) (costT t) := by
  intro k
  induction k with
  | zero => intro t h; cases t; rw [wT] at h; omega
  | succ k ih =>
    intro t hk h fu hfu
    obtain ⟨o, n, s, ks, ms⟩ := t
    obtain ⟨hp, h3⟩ := okP_parts h
    rw [wT] at hk
    have hK : ∀ t ∈ ks, 0 ≤ costT t ∧ EnoughF (evalT ns t) (costT t) := fun t ht => ⟨by have := (cost_bd _ t (Nat.le_refl _) (h3 t ht)).1; omega, ih t (by have := wL_mem ht; omega) (h3 t ht)⟩
    rw [costT, costsL_eq] at hfu
    rw [evalT, evalFs_eq, costT, costsL_eq]
    by_cases c9 : o = 9
    · subst c9
      have h4 := if_kids hp
      obtain ⟨a, b, c, d, rfl⟩ := four h4
      simp only [if_true, List.map_cons, List.map_nil, ifC] at hfu ⊢
      have hs := seqF_enough ns [a, b] fu (fun t ht => hK t (by simp at ht ⊢; rcases ht with h | h <;> simp [h])) (by
        have := (hK c (by simp)).1
        have := (hK d (by simp)).1
        simp only [List.map_cons, List.map_nil, List.sum_cons, List.sum_nil]; split at hfu <;> omega)
      unfold nodeV
      simp only [if_true, List.map_cons, List.map_nil, List.sum_cons, List.sum_nil, List.take_succ_cons, List.take_zero] at hs ⊢
      generalize seqF [evalT ns a, evalT ns b] fu = q at *
      obtain ⟨l, cc, f⟩ := q
      dsimp only at *
      have m1 := (hK c (by simp)).1
      have m2 := (hK d (by simp)).1
      by_cases c1 : cc = 0
      · simp only [c1, ne_eq, not_true_eq_false, if_false]
        rw [if_neg (by split at hfu <;> omega)]
        have e2 : [evalT ns a, evalT ns b, evalT ns c, evalT ns d].getD 2 noSaid = evalT ns c := rfl
        have e3 : [evalT ns a, evalT ns b, evalT ns c, evalT ns d].getD 3 noSaid = evalT ns d := rfl
        rw [e2, e3]
        by_cases hl : l.getD 0 0 < l.getD 1 0
        · rw [if_pos hl]
          have := (hK c (by simp)).2 (f - (1 + (ms.length : Int))) (by split at hfu <;> omega)
          refine ⟨this.1, ?_⟩
          split at hfu <;> omega
        · rw [if_neg hl]
          have := (hK d (by simp)).2 (f - (1 + (ms.length : Int))) (by split at hfu <;> omega)
          refine ⟨this.1, ?_⟩
          split at hfu <;> omega
      · rw [if_pos c1]
        refine ⟨hs.1, ?_⟩
        simp only
        split at hfu <;> omega
    · simp only [c9, if_false] at hfu ⊢
      have hs := seqF_enough ns ks fu hK (by omega)
      unfold nodeV
      simp only [c9, if_false, List.take_length] at hs ⊢
      generalize seqF (ks.map (evalT ns)) fu = q at *
      obtain ⟨l, cc, f⟩ := q
      dsimp only at *
      by_cases c1 : cc = 0
      · simp only [c1, ne_eq, not_true_eq_false, if_false]
        rw [if_neg (by omega)]
        exact ⟨doR_ne1 _ _ _ _ _ _, by simp only; omega⟩
      · rw [if_pos c1]
        exact ⟨hs.1, by simp only; omega⟩
/-- P11: as much as it may need is enough, and more than was enough changes nothing. -/
theorem fuel_law (ns : List (ByteArray × Int)) {t : Tr} (h : OkP t) (fu : Int) : (evalT ns t (costT t)).c ≠ 1 ∧ ((evalT ns t fu).c = 1 ∨ ((evalT ns t fu).v = (evalT ns t (costT t)).v ∧ (evalT ns t fu).c = (evalT ns t (costT t)).c)) := by
  have e := eval_enough ns _ t (Nat.le_refl _) h
  have m := eval_mono ns _ t (Nat.le_refl _)
  refine ⟨(e _ (Int.le_refl _)).1, ?_⟩
  by_cases c : (evalT ns t fu).c = 1
  · exact .inl c
  · rcases Int.le_total fu (costT t) with h1 | h1
    · have := m fu (costT t) h1 c
      exact .inr (by rw [this]; exact ⟨rfl, rfl⟩)
    · have := m (costT t) fu h1 (e _ (Int.le_refl _)).1
      exact .inr (by rw [this]; exact ⟨rfl, rfl⟩)
theorem namesL_mem {ks : List Tr} {t : Tr} (h : t ∈ ks) {x : List UInt8} (hx : x ∈ namesT t) : x ∈ namesL ks := by
  induction ks with
  | nil => simp at h
  | cons y r ih =>
    rw [namesL]
    rcases List.mem_cons.1 h with rfl | h
    · exact List.mem_append_left _ hx
    · exact List.mem_append_right _ (ih h)
theorem doR_only {ns ns' : List (ByteArray × Int)} {o n : Int} {s : ByteArray} {ms : List (Int × Int)} {l : List Int} (h : o = 2 → varV ns' s = varV ns s) : doR ns' o n s ms l = doR ns o n s ms l := by
  unfold doR
  split
  · rfl
  split
  · exact h ‹_›
  · rfl
/-- A rule hangs on its names alone. -/
theorem eval_only (ns ns' : List (ByteArray × Int)) : ∀ (k : Nat) (t : Tr), wT t ≤ k → (∀ s : ByteArray, s.data.toList ∈ namesT t → varV ns' s = varV ns s) → evalT ns' t = evalT ns t := by
  intro k
  induction k with
  | zero => intro t h; cases t; rw [wT] at h; omega
  | succ k ih =>
    intro t hk h
    obtain ⟨o, n, s, ks, ms⟩ := t
    rw [wT] at hk
    have e : ks.map (evalT ns') = ks.map (evalT ns) := List.map_congr_left fun t ht => ih t (by have := wL_mem ht; omega) (fun s hs => h s (by rw [namesT]; exact List.mem_append_right _ (namesL_mem ht hs)))
    funext fu
    rw [evalT, evalT, evalFs_eq, evalFs_eq, e]
    unfold nodeV
    rw [doR_only (ns := ns) (ns' := ns') (fun ho => h s (by rw [namesT, if_pos ho]; simp))]
theorem varV_filter (L : List (List UInt8)) (s : ByteArray) (hs : s.data.toList ∈ L) : ∀ ns : List (ByteArray × Int), varV (ns.filter fun p => decide (p.1.data.toList ∈ L)) s = varV ns s
  | [] => rfl
  | p :: r => by
    rw [List.filter_cons]
    by_cases c : p.1.data.toList ∈ L
    · rw [if_pos (by simpa using c), varV, varV, varV_filter L s hs r]
    · rw [if_neg (by simpa using c), varV_filter L s hs r, varV, if_neg]
      intro e
      exact c (by rw [e]; exact hs)
mutual
/-- All of a rule at a depth has what the table says, and is not too deep. -/
def okD : Tr → Nat → Prop
  | .node o n s ks ms, d => d ≤ 6 ∧ PlainN o n s ks.length ms ∧ okDL ks (d + 1)
def okDL : List Tr → Nat → Prop
  | [], _ => True
  | t :: r, d => okD t d ∧ okDL r d
end
mutual
theorem parts_okD : ∀ (t : Tr) (d : Nat) (l : Int), 0 ≤ partsT t d l → okD t d ∧ partsT t d l = l - wT t
  | .node o n s ks ms, d, l, h => by
    rw [partsT] at h ⊢
    rw [okD, wT]
    split at h
    · omega
    · rename_i hc
      rw [if_neg hc]
      obtain ⟨h1, h2⟩ := partsL_okD ks (d + 1) (l - 1) h
      exact ⟨⟨by omega, Decidable.not_not.1 fun hp => hc (Or.inr (Or.inr hp)), h1⟩, by omega⟩
theorem partsL_okD : ∀ (ks : List Tr) (d : Nat) (n : Int), 0 ≤ partsL ks d n → okDL ks d ∧ partsL ks d n = n - wL ks
  | [], d, n, h => by rw [partsL, wL, okDL]; exact ⟨trivial, by omega⟩
  | t :: r, d, n, h => by
    rw [partsL] at h ⊢
    rw [okDL, wL]
    split at h
    · omega
    · rename_i hc
      rw [if_neg hc]
      obtain ⟨h1, h2⟩ := partsL_okD r d _ h
      have : 0 ≤ (wL r : Int) := Int.natCast_nonneg _
      obtain ⟨h3, h4⟩ := parts_okD t d n (by omega)
      exact ⟨⟨h3, h1⟩, by omega⟩
end
mutual
theorem okD_parts : ∀ (t : Tr) (d : Nat) (l : Int), okD t d → (wT t : Int) ≤ l → partsT t d l = l - wT t
  | .node o n s ks ms, d, l, h, hl => by
    rw [okD] at h
    rw [wT] at hl ⊢
    have : 0 ≤ (wL ks : Int) := Int.natCast_nonneg _
    rw [partsT, if_neg (by rintro (a | a | a); · omega
                           · omega
                           · exact a h.2.1), okDL_parts ks (d + 1) (l - 1) h.2.2 (by omega)]
    omega
theorem okDL_parts : ∀ (ks : List Tr) (d : Nat) (n : Int), okDL ks d → (wL ks : Int) ≤ n → partsL ks d n = n - wL ks
  | [], d, n, h, hl => by rw [partsL, wL]; omega
  | t :: r, d, n, h, hl => by
    rw [okDL] at h
    rw [wL] at hl ⊢
    have : 0 ≤ (wL r : Int) := Int.natCast_nonneg _
    have : 0 ≤ (wT t : Int) := Int.natCast_nonneg _
    rw [partsL, if_neg (by omega), okD_parts t d n h.1 (by omega), okDL_parts r d _ h.2 (by omega)]
    omega
end
theorem parts_iff (t : Tr) (d : Nat) (l : Int) : 0 ≤ partsT t d l ↔ okD t d ∧ (wT t : Int) ≤ l := by
  constructor
  · intro h; obtain ⟨a, b⟩ := parts_okD t d l h; exact ⟨a, by omega⟩
  · rintro ⟨a, b⟩; rw [okD_parts t d l a b]; omega
/-- What an answer is, whatever fuel there is, if it is enough. -/
theorem eval_same (ns : List (ByteArray × Int)) {t : Tr} (h : OkP t) {fu : Int} (hf : costT t ≤ fu) : (evalT ns t fu).v = (evalT ns t (costT t)).v ∧ (evalT ns t fu).c = (evalT ns t (costT t)).c := by
  have := eval_mono ns _ t (Nat.le_refl _) (costT t) fu hf (eval_enough ns _ t (Nat.le_refl _) h _ (Int.le_refl _)).1
  rw [this]; exact ⟨rfl, rfl⟩
theorem eval_two (ns : List (ByteArray × Int)) {o n : Int} {s : ByteArray} {a b : Tr} {ms : List (Int × Int)} (h : OkP (.node o n s [a, b] ms)) (h9 : o ≠ 9) {fu : Int} (hf : costT (.node o n s [a, b] ms) ≤ fu) :
    (evalT ns (.node o n s [a, b] ms) fu).c = (if (evalT ns a (costT a)).c ≠ 0 then (evalT ns a (costT a)).c else if (evalT ns b (costT b)).c ≠ 0 then (evalT ns b (costT b)).c else (doR ns o n s ms [(evalT ns a (costT a)).v, (evalT ns b (costT b)).v]).2) ∧
    ((evalT ns (.node o n s [a, b] ms) fu).c = 0 → (evalT ns (.node o n s [a, b] ms) fu).v = (doR ns o n s ms [(evalT ns a (costT a)).v, (evalT ns b (costT b)).v]).1) := by
  obtain ⟨hp, h3⟩ := okP_parts h
  have ha := h3 a (by simp)
  have hb := h3 b (by simp)
  have ca := (cost_bd _ a (Nat.le_refl _) ha).1
  have cb := (cost_bd _ b (Nat.le_refl _) hb).1
  rw [costT, costsL_eq] at hf
  simp only [h9, if_false, List.map_cons, List.map_nil, List.sum_cons, List.sum_nil] at hf
  obtain ⟨va, ka⟩ := eval_same ns ha (fu := fu) (by omega)
  have fa := (eval_enough ns _ a (Nat.le_refl _) ha fu (by omega)).2
  rw [evalT, evalFs_eq]
  unfold nodeV
  simp only [h9, if_false, List.map_cons, List.map_nil, List.length_cons, List.length_nil, Nat.zero_add, List.take_succ_cons, List.take_zero]
  rw [← va, ← ka]
  by_cases c1 : (evalT ns a fu).c = 0
  · obtain ⟨vb, kb⟩ := eval_same ns hb (fu := (evalT ns a fu).f) (by omega)
    have fb := (eval_enough ns _ b (Nat.le_refl _) hb (evalT ns a fu).f (by omega)).2
    rw [← vb, ← kb]
    by_cases c2 : (evalT ns b (evalT ns a fu).f).c = 0
    · have hq : seqF [evalT ns a, evalT ns b] fu = ([(evalT ns a fu).v, (evalT ns b (evalT ns a fu).f).v], 0, (evalT ns b (evalT ns a fu).f).f) := by simp [seqF, c1, c2]
      rw [hq]
      dsimp only
      rw [if_neg (by simp), if_neg (by omega), if_neg (by simp [c1]), if_neg (by simp [c2])]
      exact ⟨rfl, fun _ => rfl⟩
    · have hq : seqF [evalT ns a, evalT ns b] fu = ([(evalT ns a fu).v], (evalT ns b (evalT ns a fu).f).c, (evalT ns b (evalT ns a fu).f).f) := by simp [seqF, c1, c2]
      rw [hq]
      dsimp only
      rw [if_pos c2, if_neg (by simp [c1]), if_pos c2]
      exact ⟨rfl, fun e => absurd e c2⟩
  · have hq : seqF [evalT ns a, evalT ns b] fu = ([], (evalT ns a fu).c, (evalT ns a fu).f) := by simp [seqF, c1]
    rw [hq]
    dsimp only
    rw [if_pos c1, if_pos c1]
    exact ⟨rfl, fun e => absurd e c1⟩
theorem twoV_swap {o : Int} (ho : o = 3 ∨ o = 5 ∨ o = 7 ∨ o = 8) (a b : Int) : twoV o a b = twoV o b a := by
  rcases ho with rfl | rfl | rfl | rfl
  · simp only [twoV, if_true, Int.add_comm]
  · unfold twoV; simp only [show ¬ ((5 : Int) = 3) by decide, show ¬ ((5 : Int) = 4) by decide, if_false, if_true, Int.mul_comm]
  · unfold twoV; simp only [show ¬ ((7 : Int) = 3) by decide, show ¬ ((7 : Int) = 4) by decide, show ¬ ((7 : Int) = 5) by decide, if_false, if_true]
    split <;> split <;> simp <;> omega
  · unfold twoV; simp only [show ¬ ((8 : Int) = 3) by decide, show ¬ ((8 : Int) = 4) by decide, show ¬ ((8 : Int) = 5) by decide, show ¬ ((8 : Int) = 7) by decide, if_false]
    split <;> split <;> simp <;> omega
theorem doR_swap (ns : List (ByteArray × Int)) {o n n' : Int} {s s' : ByteArray} {ms ms' : List (Int × Int)} (ho : o = 3 ∨ o = 5 ∨ o = 7 ∨ o = 8) (a b : Int) : doR ns o n s ms [a, b] = doR ns o n' s' ms' [b, a] := by
  have e : ∀ (n : Int) (s : ByteArray) (ms : List (Int × Int)) (a b : Int), doR ns o n s ms [a, b] = twoV o a b := by
    intro n s ms a b
    unfold doR
    rw [if_neg (by omega), if_neg (by omega), if_neg (by omega), if_neg (by omega)]
    rfl
  rw [e, e, twoV_swap ho]
theorem swap_op {o n : Int} {s : ByteArray} {a b : Tr} {ms : List (Int × Int)} (h : OkP (.node o n s [a, b] ms)) (h4 : o ≠ 4) : o = 3 ∨ o = 5 ∨ o = 7 ∨ o = 8 := by
  have h1 := (okP_parts h).1.1
  simp only [List.length_cons, List.length_nil] at h1
  unfold kidsN at h1
  repeat (split at h1; · omega)
  omega
theorem swap_parts {o n : Int} {s : ByteArray} {a b : Tr} {ms : List (Int × Int)} (ho : o = 3 ∨ o = 5 ∨ o = 7 ∨ o = 8) {d : Nat} {l : Int} (h : 0 ≤ partsT (.node o n s [a, b] ms) d l) : 0 ≤ partsT (.node o 0 ⟨#[]⟩ [b, a] []) d l := by
  rw [parts_iff] at h ⊢
  obtain ⟨h1, h2⟩ := h
  rw [okD] at h1 ⊢
  rw [wT] at h2 ⊢
  simp only [okDL, wL] at h1 h2 ⊢
  refine ⟨⟨h1.1, ⟨h1.2.1.1, ?_⟩, h1.2.2.2.1, h1.2.2.1, trivial⟩, by omega⟩
  unfold HoldsN
  rw [if_neg (by omega), if_neg (by omega), if_neg (by omega)]
  exact ⟨rfl, rfl, rfl⟩
/-- P14: the two turned, it says the same. -/
theorem swap_law (ns : List (ByteArray × Int)) {o n : Int} {s : ByteArray} {a b : Tr} {ms : List (Int × Int)} (h : OkP (.node o n s [a, b] ms)) (h' : OkP (.node o 0 ⟨#[]⟩ [b, a] [])) (ho : o = 3 ∨ o = 5 ∨ o = 7 ∨ o = 8) :
    ((evalT ns (.node o n s [a, b] ms) 1000).c = 0 ↔ (evalT ns (.node o 0 ⟨#[]⟩ [b, a] []) 1000).c = 0) ∧ ((evalT ns (.node o n s [a, b] ms) 1000).c = 0 → (evalT ns (.node o n s [a, b] ms) 1000).v = (evalT ns (.node o 0 ⟨#[]⟩ [b, a] []) 1000).v) := by
  have w1 := okP_w h
  have w2 := okP_w h'
  have c1 := (cost_bd _ _ (Nat.le_refl _) h).2
  have c2 := (cost_bd _ _ (Nat.le_refl _) h').2
  obtain ⟨e1, e2⟩ := eval_two ns h (by omega) (fu := 1000) (by omega)
  obtain ⟨f1, f2⟩ := eval_two ns h' (by omega) (fu := 1000) (by omega)
  have sw := doR_swap ns (n := n) (n' := 0) (s := s) (s' := ⟨#[]⟩) (ms := ms) (ms' := []) ho (evalT ns a (costT a)).v (evalT ns b (costT b)).v
  rw [← sw] at f1 f2
  have key : (evalT ns (.node o n s [a, b] ms) 1000).c = 0 ↔ (evalT ns (.node o 0 ⟨#[]⟩ [b, a] []) 1000).c = 0 := by
    rw [e1, f1]
    by_cases x : (evalT ns a (costT a)).c = 0 <;> by_cases y : (evalT ns b (costT b)).c = 0 <;> simp [x, y]
  exact ⟨key, fun hz => by rw [e2 hz, f2 (key.1 hz)]⟩
end Go.Proofs.YtemjooejfmkkbaaGreatDoor
