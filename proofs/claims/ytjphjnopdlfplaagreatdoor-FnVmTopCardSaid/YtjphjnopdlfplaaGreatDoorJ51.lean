/-
  More fuel changes nothing but that there is enough; only names count; the two of a rule turned: plain facts, no law is proved here.
  What a program comes to: the mathematical answer, and plain facts on it; no law is proved here.
  A program of a rule does what the rule says, and is ok: plain facts, no law is proved here.
  What a program comes to with more fuel, with less, and behind another one: plain facts, no law is proved here.
  One place of a program after the other: where a run stands, and what each place makes of that; no law is proved here.
-/
import Derived.Test.YtjphjnopdlfplaaGreatDoorJ28
import Derived.Test.YtjphjnopdlfplaaGreatDoorNamesMath
import Derived.Test.YtjphjnopdlfplaaGreatDoorJ20
import Derived.Test.YtjphjnopdlfplaaGreatDoorJ21
import Derived.Test.YtjphjnopdlfplaaGreatDoorJ32
namespace Go.Proofs.YtjphjnopdlfplaaGreatDoor
open Go.RowKit
set_option linter.unusedVariables false
set_option linter.unusedSimpArgs false

theorem varV_ne1 : ∀ (ns : List (ByteArray × Int)) (s : ByteArray), (varV ns s).2 ≠ 1
  | [], s => by simp [varV]
  | p :: r, s => by
    rw [varV]
    split
    · split <;> simp
    · exact varV_ne1 r s
theorem orB_ne1 (x : Int) (b : Bool) : (orB x b).2 ≠ 1 := by unfold orB; split <;> simp
theorem doR_ne1 (ns : List (ByteArray × Int)) (o n : Int) (s : ByteArray) (ms : List (Int × Int)) (l : List Int) : (doR ns o n s ms l).2 ≠ 1 := by
  unfold doR
  split
  · simp
  split
  · exact varV_ne1 ns s
  split
  · unfold partW
    split
    · simp
    · exact orB_ne1 _ _
  split
  · unfold tierV
    split
    · simp
    · exact orB_ne1 _ _
  · unfold twoV
    split
    · exact orB_ne1 _ _
    split
    · exact orB_ne1 _ _
    split
    · exact orB_ne1 _ _
    split <;> simp
/-- With more fuel it says the same, if it did not lack. -/
def MonoF (g : Int → Said) : Prop := ∀ fu fu' : Int, fu ≤ fu' → (g fu).c ≠ 1 → g fu' = ⟨(g fu).v, (g fu).c, (g fu).f + (fu' - fu)⟩
/-- With as much as it may need it never lacks. -/
def EnoughF (g : Int → Said) (c : Int) : Prop := ∀ fu, c ≤ fu → (g fu).c ≠ 1 ∧ fu - c ≤ (g fu).f
theorem seqF_enough (ns : List (ByteArray × Int)) : ∀ (ts : List Tr) (fu : Int), (∀ t ∈ ts, 0 ≤ costT t ∧ EnoughF (evalT ns t) (costT t)) → (ts.map costT).sum ≤ fu → (seqF (ts.map (evalT ns)) fu).2.1 ≠ 1 ∧ fu - (ts.map costT).sum ≤ (seqF (ts.map (evalT ns)) fu).2.2
  | [], fu, h, hc => by simp [seqF]
  | t :: r, fu, h, hc => by
    have h1 := h t (by simp)
    have hr : 0 ≤ (r.map costT).sum := by
      have : ∀ l : List Tr, (∀ t ∈ l, 0 ≤ costT t) → 0 ≤ (l.map costT).sum := by
        intro l
        induction l with
        | nil => intro _; simp
        | cons a l ih => intro hl; simp only [List.map_cons, List.sum_cons]; have := hl a (by simp); have := ih (fun x hx => hl x (by simp [hx])); omega
      exact this r fun x hx => (h x (by simp [hx])).1
    simp only [List.map_cons, List.sum_cons] at hc ⊢
    obtain ⟨e1, e2⟩ := h1.2 fu (by omega)
    rw [seqF]
    split
    · have ih := seqF_enough ns r (evalT ns t fu).f (fun x hx => h x (by simp [hx])) (by omega)
      exact ⟨ih.1, by simp only; omega⟩
    · exact ⟨e1, by simp only; omega⟩
theorem eval_enough (ns : List (ByteArray × Int)) : ∀ (k : Nat) (t : Tr), wT t ≤ k → OkP t → EnoughF (evalT ns t) (costT t) := by
  intro k
  induction k with
  | zero => intro t h; cases t; rw [wT] at h; omega
  | succ k ih =>
    intro t hk h fu hfu
    obtain ⟨o, n, s, ks, ms⟩ := t
    obtain ⟨hp, h3⟩ := okP_parts h
    rw [wT] at hk
    have hK : ∀ t ∈ ks, 0 ≤ costT t ∧ EnoughF (evalT ns t) (costT t) := fun t ht => ⟨by have := (cost_bd _ t (Nat.le_refl _) (h3 t ht)).1; omega, ih t (by have := wL_mem ht; omega) (h3 t ht)⟩
    rw [costT, costsL_eq] at hfu
    rw [evalT, evalFs_eq, costT, costsL_eq]
    by_cases c9 : o = 9
    · subst c9
      have h4 := if_kids hp
      obtain ⟨a, b, c, d, rfl⟩ := four h4
      simp only [if_true, List.map_cons, List.map_nil, ifC] at hfu ⊢
      have hs := seqF_enough ns [a, b] fu (fun t ht => hK t (by simp at ht ⊢; rcases ht with h | h <;> simp [h])) (by
        have := (hK c (by simp)).1
        have := (hK d (by simp)).1
        simp only [List.map_cons, List.map_nil, List.sum_cons, List.sum_nil]; split at hfu <;> omega)
      unfold nodeV
      simp only [if_true, List.map_cons, List.map_nil, List.sum_cons, List.sum_nil, List.take_succ_cons, List.take_zero] at hs ⊢
      generalize seqF [evalT ns a, evalT ns b] fu = q at *
      obtain ⟨l, cc, f⟩ := q
      dsimp only at *
      have m1 := (hK c (by simp)).1
      have m2 := (hK d (by simp)).1
      by_cases c1 : cc = 0
      · simp only [c1, ne_eq, not_true_eq_false, if_false]
        rw [if_neg (by split at hfu <;> omega)]
        have e2 : [evalT ns a, evalT ns b, evalT ns c, evalT ns d].getD 2 noSaid = evalT ns c := rfl
        have e3 : [evalT ns a, evalT ns b, evalT ns c, evalT ns d].getD 3 noSaid = evalT ns d := rfl
        rw [e2, e3]
        by_cases hl : l.getD 0 0 < l.getD 1 0
        · rw [if_pos hl]
          have := (hK c (by simp)).2 (f - (1 + (ms.length : Int))) (by split at hfu <;> omega)
          refine ⟨this.1, ?_⟩
          split at hfu <;> omega
        · rw [if_neg hl]
          have := (hK d (by simp)).2 (f - (1 + (ms.length : Int))) (by split at hfu <;> omega)
          refine ⟨this.1, ?_⟩
          split at hfu <;> omega
      · rw [if_pos c1]
        refine ⟨hs.1, ?_⟩
        simp only
        split at hfu <;> omega
    · simp only [c9, if_false] at hfu ⊢
      have hs := seqF_enough ns ks fu hK (by omega)
      unfold nodeV
      simp only [c9, if_false, List.take_length] at hs ⊢
      generalize seqF (ks.map (evalT ns)) fu = q at *
      obtain ⟨l, cc, f⟩ := q
      dsimp only at *
      by_cases c1 : cc = 0
      · simp only [c1, ne_eq, not_true_eq_false, if_false]
        rw [if_neg (by omega)]
        exact ⟨doR_ne1 _ _ _ _ _ _, by simp only; omega⟩
      · rw [if_pos c1]
        exact ⟨hs.1, by simp only; omega⟩
mutual
/-- All of a rule at a depth has what the table says, and is not too deep. -/
def okD : Tr → Nat → Prop
  | .node o n s ks ms, d => d ≤ 6 ∧ PlainN o n s ks.length ms ∧ okDL ks (d + 1)
def okDL : List Tr → Nat → Prop
  | [], _ => True
  | t :: r, d => okD t d ∧ okDL r d
end
mutual
theorem parts_okD : ∀ (t : Tr) (d : Nat) (l : Int), 0 ≤ partsT t d l → okD t d ∧ partsT t d l = l - wT t
  | .node o n s ks ms, d, l, h => by
    rw [partsT] at h ⊢
    rw [okD, wT]
    split at h
    · omega
    · rename_i hc
      rw [if_neg hc]
      obtain ⟨h1, h2⟩ := partsL_okD ks (d + 1) (l - 1) h
      exact ⟨⟨by omega, Decidable.not_not.1 fun hp => hc (Or.inr (Or.inr hp)), h1⟩, by omega⟩
theorem partsL_okD : ∀ (ks : List Tr) (d : Nat) (n : Int), 0 ≤ partsL ks d n → okDL ks d ∧ partsL ks d n = n - wL ks
  | [], d, n, h => by rw [partsL, wL, okDL]; exact ⟨trivial, by omega⟩
  | t :: r, d, n, h => by
    rw [partsL] at h ⊢
    rw [okDL, wL]
    split at h
    · omega
    · rename_i hc
      rw [if_neg hc]
      obtain ⟨h1, h2⟩ := partsL_okD r d _ h
      have : 0 ≤ (wL r : Int) := Int.natCast_nonneg _
      obtain ⟨h3, h4⟩ := parts_okD t d n (by omega)
      exact ⟨⟨h3, h1⟩, by omega⟩
end
end Go.Proofs.YtjphjnopdlfplaaGreatDoor

namespace Go.Proofs.YtjphjnopdlfplaaGreatDoor
open Go.RowKit
set_option linter.unusedVariables false
set_option linter.unusedSimpArgs false

/-- How much fuel a place takes. -/
def costP (d : Pl) : Int := if d.op = 11 then 0 else 1 + d.ms.length
/-- What a program comes to from a place on, with so much at hand, and so much fuel. -/
def machV (ns : List (ByteArray × Int)) : List Pl → List Int → Int → Said
  | [], st, fu => ⟨st.getD 0 0, 0, fu⟩
  | d :: r, st, fu =>
    if fu < costP d then ⟨0, 1, fu⟩
    else if d.op = 11 then machV ns (r.drop d.num.toNat) st (fu - costP d)
    else if d.op = 9 then
      (if (st.drop (st.length - 2)).getD 0 0 < (st.drop (st.length - 2)).getD 1 0 then machV ns r (st.take (st.length - 2)) (fu - costP d)
       else machV ns (r.drop d.num.toNat) (st.take (st.length - 2)) (fu - costP d))
    else if (doR ns d.op d.num d.nm d.ms (st.drop (st.length - (takesV d.op).1.toNat))).2 ≠ 0 then ⟨0, (doR ns d.op d.num d.nm d.ms (st.drop (st.length - (takesV d.op).1.toNat))).2, fu - costP d⟩
    else machV ns r (st.take (st.length - (takesV d.op).1.toNat) ++ [(doR ns d.op d.num d.nm d.ms (st.drop (st.length - (takesV d.op).1.toNat))).1]) (fu - costP d)
termination_by l => l.length
decreasing_by all_goals (simp only [List.length_drop, List.length_cons]; omega)
theorem mach_nil (ns : List (ByteArray × Int)) (st : List Int) (fu : Int) : machV ns [] st fu = ⟨st.getD 0 0, 0, fu⟩ := by rw [machV]
theorem mach_lack (ns : List (ByteArray × Int)) {d : Pl} {r : List Pl} {st : List Int} {fu : Int} (h : fu < costP d) : machV ns (d :: r) st fu = ⟨0, 1, fu⟩ := by rw [machV, if_pos h]
theorem mach_skip (ns : List (ByteArray × Int)) {d : Pl} {r : List Pl} {st : List Int} {fu : Int} (h : ¬ fu < costP d) (ho : d.op = 11) : machV ns (d :: r) st fu = machV ns (r.drop d.num.toNat) st (fu - costP d) := by rw [machV, if_neg h, if_pos ho]
theorem mach_less (ns : List (ByteArray × Int)) {d : Pl} {r : List Pl} {st : List Int} {fu : Int} (h : ¬ fu < costP d) (ho : d.op = 9) (hl : (st.drop (st.length - 2)).getD 0 0 < (st.drop (st.length - 2)).getD 1 0) : machV ns (d :: r) st fu = machV ns r (st.take (st.length - 2)) (fu - costP d) := by rw [machV, if_neg h, if_neg (by omega), if_pos ho, if_pos hl]
theorem mach_more (ns : List (ByteArray × Int)) {d : Pl} {r : List Pl} {st : List Int} {fu : Int} (h : ¬ fu < costP d) (ho : d.op = 9) (hl : ¬ (st.drop (st.length - 2)).getD 0 0 < (st.drop (st.length - 2)).getD 1 0) : machV ns (d :: r) st fu = machV ns (r.drop d.num.toNat) (st.take (st.length - 2)) (fu - costP d) := by rw [machV, if_neg h, if_neg (by omega), if_pos ho, if_neg hl]
theorem mach_bad (ns : List (ByteArray × Int)) {d : Pl} {r : List Pl} {st : List Int} {fu : Int} (h : ¬ fu < costP d) (h11 : d.op ≠ 11) (h9 : d.op ≠ 9) (hb : (doR ns d.op d.num d.nm d.ms (st.drop (st.length - (takesV d.op).1.toNat))).2 ≠ 0) : machV ns (d :: r) st fu = ⟨0, (doR ns d.op d.num d.nm d.ms (st.drop (st.length - (takesV d.op).1.toNat))).2, fu - costP d⟩ := by rw [machV, if_neg h, if_neg h11, if_neg h9, if_pos hb]
theorem mach_do (ns : List (ByteArray × Int)) {d : Pl} {r : List Pl} {st : List Int} {fu : Int} (h : ¬ fu < costP d) (h11 : d.op ≠ 11) (h9 : d.op ≠ 9) (hb : (doR ns d.op d.num d.nm d.ms (st.drop (st.length - (takesV d.op).1.toNat))).2 = 0) : machV ns (d :: r) st fu = machV ns r (st.take (st.length - (takesV d.op).1.toNat) ++ [(doR ns d.op d.num d.nm d.ms (st.drop (st.length - (takesV d.op).1.toNat))).1]) (fu - costP d) := by rw [machV, if_neg h, if_neg h11, if_neg h9, if_neg (by simpa using hb)]
/-- Heights in the end. -/
theorem getD_set_ne {hs : List Int} {i j : Nat} {n : Int} (h : j ≠ i) : (hs.set i n).getD j 0 = hs.getD j 0 := by
  simp only [List.getD, List.getElem?_set_ne (Ne.symm h)]
theorem getD_set_eq {hs : List Int} {i : Nat} {n : Int} (h : i < hs.length) : (hs.set i n).getD i 0 = n := by
  simp [List.getD, h]
theorem mark_keep {hs : List Int} {i j : Nat} {n : Int} (h : 0 ≤ hs.getD j 0) : (markV hs i n).1.getD j 0 = hs.getD j 0 := by
  unfold markV
  split
  · rfl
  · rename_i c
    exact getD_set_ne (fun e => c (by rw [← e]; exact h))
theorem mark_other {hs : List Int} {i j : Nat} {n : Int} (h : j ≠ i) : (markV hs i n).1.getD j 0 = hs.getD j 0 := by
  unfold markV
  split
  · rfl
  · exact getD_set_ne h
theorem mark_at {hs : List Int} {i : Nat} {n : Int} (h : (markV hs i n).2 = true) (hi : i < hs.length) : (markV hs i n).1.getD i 0 = n := by
  unfold markV at h ⊢
  split
  · rename_i c
    rw [if_pos c] at h
    simpa using h
  · exact getD_set_eq hi
theorem marks_keep {hs : List Int} {i j : Nat} {d : Pl} {n : Int} (h : 0 ≤ hs.getD j 0) : (marksV i d n hs).1.getD j 0 = hs.getD j 0 := by
  unfold marksV
  split
  · split
    · rw [mark_keep (by rw [mark_keep h]; exact h), mark_keep h]
    · exact mark_keep h
  split
  · exact mark_keep h
  · exact mark_keep h
theorem marks_low {hs : List Int} {i j : Nat} {d : Pl} {n : Int} (h : j ≤ i) : (marksV i d n hs).1.getD j 0 = hs.getD j 0 := by
  unfold marksV
  split
  · split
    · rw [mark_other (by omega), mark_other (by omega)]
    · exact mark_other (by omega)
  split
  · exact mark_other (by omega)
  · exact mark_other (by omega)
/-- What holds in the end of a place that is reached. -/
def FinV (q : Nat) (hs : List Int) (i : Nat) (d : Pl) : Prop :=
  (0 ≤ (takesV d.op).1 ∧ HoldsV d.op d.num ((q : Int) - i - 1) d.nm d.ms) ∧ (0 ≤ hs.getD i 0 → (takesV d.op).1 ≤ hs.getD i 0 ∧ leftV i d hs ≤ 12 ∧ (d.op = 11 → hs.getD (i + 1 + d.num.toNat) 0 = leftV i d hs) ∧ (d.op = 9 → hs.getD (i + 1) 0 = leftV i d hs ∧ hs.getD (i + 1 + d.num.toNat) 0 = leftV i d hs) ∧ (d.op ≠ 9 → d.op ≠ 11 → hs.getD (i + 1) 0 = leftV i d hs))
theorem step_low {q i : Nat} {d : Pl} {hs hs' : List Int} (h : stepV q i d hs = some hs') {j : Nat} (hj : j ≤ i) : hs'.getD j 0 = hs.getD j 0 := by
  unfold stepV at h
  split at h
  · cases h
  split at h
  · cases h; rfl
  split at h
  · cases h
  split at h
  · cases h; exact marks_low hj
  · cases h
theorem step_keep {q i : Nat} {d : Pl} {hs hs' : List Int} (h : stepV q i d hs = some hs') {j : Nat} (hj : 0 ≤ hs.getD j 0) : hs'.getD j 0 = hs.getD j 0 := by
  unfold stepV at h
  split at h
  · cases h
  split at h
  · cases h; rfl
  split at h
  · cases h
  split at h
  · cases h; exact marks_keep hj
  · cases h
theorem run_facts (q : Nat) : ∀ (ds : List Pl) (i : Nat) (hs hs' : List Int), hs.length = q + 1 → i + ds.length = q → runV q i ds hs = some hs' →
    (∀ j, 0 ≤ hs.getD j 0 → hs'.getD j 0 = hs.getD j 0) ∧ (∀ j, j ≤ i → hs'.getD j 0 = hs.getD j 0) ∧ ∀ k, (h : k < ds.length) → FinV q hs' (i + k) ds[k]
  | [], i, hs, hs', hl, hq, h => by
    rw [runV] at h; cases h
    exact ⟨fun _ _ => rfl, fun _ _ => rfl, fun k hk => by simp at hk⟩
  | d :: r, i, hs, hs', hl, hq, h => by
    rw [runV] at h
    obtain ⟨h1, hst, hr⟩ := Option.bind_eq_some_iff.1 h
    simp only [List.length_cons] at hq
    have hl1 := step_len hst
    obtain ⟨a, b, c⟩ := run_facts q r (i + 1) h1 hs' (by omega) (by omega) hr
    refine ⟨fun j hj => ?_, fun j hj => ?_, fun k hk => ?_⟩
    · have e := step_keep hst hj
      rw [a j (by rw [e]; exact hj), e]
    · rw [b j (by omega), step_low hst hj]
    · cases k with
      | succ k =>
        have := c k (by simpa using hk)
        simpa [Nat.add_assoc, Nat.add_comm 1 k] using this
      | zero =>
        simp only [List.getElem_cons_zero, Nat.add_zero]
        have ei : hs'.getD i 0 = hs.getD i 0 := by rw [b i (by omega), step_low hst (Nat.le_refl _)]
        have el : leftV i d hs' = leftV i d hs := by unfold leftV; rw [ei]
        have tb := takes_bd d.op
        have h0 := hst
        unfold stepV at h0
        split at h0
        · cases h0
        rename_i c1
        have hv : HoldsV d.op d.num ((q : Int) - i - 1) d.nm d.ms := Decidable.not_not.1 fun x => c1 (.inr x)
        refine ⟨⟨by omega, hv⟩, fun hh => ?_⟩
        rw [ei] at hh ⊢
        rw [el]
        rw [if_neg (by omega)] at h0
        split at h0
        · cases h0
        rename_i c3
        split at h0
        · rename_i c4
          cases h0
          have hlv : leftV i d hs = hs.getD i 0 - (takesV d.op).1 + (takesV d.op).2 := rfl
          have l0 : 0 ≤ leftV i d hs := by omega
          refine ⟨by omega, by omega, fun ho => ?_, fun ho => ?_, fun h9 h11 => ?_⟩
          · have hk : d.num.toNat < q - i := by
              have hv2 := hv
              unfold HoldsV at hv2
              rw [if_pos (.inr ho)] at hv2
              omega
            have e : (marksV i d (leftV i d hs) hs).1.getD (i + 1 + d.num.toNat) 0 = leftV i d hs := by
              unfold marksV at c4 ⊢
              rw [if_neg (by omega), if_pos ho] at c4 ⊢
              exact mark_at c4 (by omega)
            rw [a _ (by rw [e]; exact l0), e]
          · have hk : d.num.toNat < q - i := by
              have hv2 := hv
              unfold HoldsV at hv2
              rw [if_pos (.inl ho)] at hv2
              omega
            have e : (marksV i d (leftV i d hs) hs).1.getD (i + 1) 0 = leftV i d hs ∧ (marksV i d (leftV i d hs) hs).1.getD (i + 1 + d.num.toNat) 0 = leftV i d hs := by
              unfold marksV at c4 ⊢
              rw [if_pos ho] at c4 ⊢
              by_cases cm : (markV hs (i + 1) (leftV i d hs)).2 = true
              · rw [if_pos cm] at c4 ⊢
                have e1 := mark_at cm (by omega)
                exact ⟨by rw [mark_keep (by rw [e1]; exact l0), e1], mark_at c4 (by rw [markV_len]; omega)⟩
              · rw [if_neg cm] at c4
                exact absurd c4 cm
            exact ⟨by rw [a _ (by rw [e.1]; exact l0), e.1], by rw [a _ (by rw [e.2]; exact l0), e.2]⟩
          · have e : (marksV i d (leftV i d hs) hs).1.getD (i + 1) 0 = leftV i d hs := by
              unfold marksV at c4 ⊢
              rw [if_neg h9, if_neg h11] at c4 ⊢
              exact mark_at c4 (by omega)
            rw [a _ (by rw [e]; exact l0), e]
        · cases h0
theorem run_len (q : Nat) : ∀ (ds : List Pl) (i : Nat) (hs hs' : List Int), runV q i ds hs = some hs' → hs'.length = hs.length
  | [], i, hs, hs', h => by rw [runV] at h; cases h; rfl
  | d :: r, i, hs, hs', h => by
    rw [runV] at h
    obtain ⟨h1, hst, hr⟩ := Option.bind_eq_some_iff.1 h
    rw [run_len q r (i + 1) h1 hs' hr, step_len hst]
/-- A program whose ways fit together, with how much is at hand at each place. -/
structure WayV (ds : List Pl) (hs : List Int) : Prop where
  first : hs.getD 0 0 = 0
  last : hs.getD ds.length 0 = 1
  len : hs.length = ds.length + 1
  fin : ∀ k, (h : k < ds.length) → FinV ds.length hs k ds[k]
theorem way_of {ds : List Pl} {hs : List Int} (h : heightsV ds = some hs) : WayV ds hs := by
  unfold heightsV at h
  obtain ⟨h1, hr, h2⟩ := Option.bind_eq_some_iff.1 h
  split at h2
  · cases h2
    rename_i hl
    obtain ⟨a, b, c⟩ := run_facts ds.length ds 0 _ _ (by simp [firstV]) (by omega) hr
    refine ⟨by rw [b 0 (Nat.le_refl _)]; rfl, hl, by rw [run_len _ _ _ _ _ hr]; simp [firstV], fun k hk => by have := c k hk; rwa [Nat.zero_add] at this⟩
  · cases h2
/-- Where a program is: so much is at hand as its ways say, and all of it amounts. -/
def AtV (ds : List Pl) (hs : List Int) (i : Nat) (st : List Int) : Prop := i ≤ ds.length ∧ hs.getD i 0 = st.length ∧ ∀ x ∈ st, okB x = true
theorem at_first {ds : List Pl} {hs : List Int} (h : WayV ds hs) : AtV ds hs 0 [] := ⟨Nat.zero_le _, by rw [h.first]; rfl, by simp⟩
theorem at_nums {ds : List Pl} {hs : List Int} {i : Nat} {st : List Int} (h : WayV ds hs) (ha : AtV ds hs i st) (hi : i < ds.length) : FinV ds.length hs i ds[i] ∧ (takesV ds[i].op).1.toNat ≤ st.length ∧ leftV i ds[i] hs = (st.length - (takesV ds[i].op).1.toNat : Nat) + (takesV ds[i].op).2 := by
  have f := h.fin i hi
  have g := f.2 (by rw [ha.2.1]; exact Int.natCast_nonneg _)
  have e := ha.2.1
  have h1 := f.1.1
  have h2 := g.1
  refine ⟨f, by omega, ?_⟩
  unfold leftV
  rw [e]
  omega
theorem holds_jump {q i : Nat} {d : Pl} (h : HoldsV d.op d.num ((q : Int) - i - 1) d.nm d.ms) (ho : d.op = 9 ∨ d.op = 11) : i + 1 + d.num.toNat ≤ q ∧ 0 ≤ d.num := by
  unfold HoldsV at h
  rw [if_pos ho] at h
  omega
theorem at_skip {ds : List Pl} {hs : List Int} {i : Nat} {st : List Int} (h : WayV ds hs) (ha : AtV ds hs i st) (hi : i < ds.length) (ho : ds[i].op = 11) : AtV ds hs (i + 1 + ds[i].num.toNat) st := by
  obtain ⟨f, k1, k2⟩ := at_nums h ha hi
  have g := f.2 (by rw [ha.2.1]; exact Int.natCast_nonneg _)
  refine ⟨(holds_jump f.1.2 (.inr ho)).1, ?_, ha.2.2⟩
  rw [g.2.2.1 ho, k2, ho]
  simp [takesV]
theorem at_test {ds : List Pl} {hs : List Int} {i : Nat} {st : List Int} (h : WayV ds hs) (ha : AtV ds hs i st) (hi : i < ds.length) (ho : ds[i].op = 9) : 2 ≤ st.length ∧ AtV ds hs (i + 1) (st.take (st.length - 2)) ∧ AtV ds hs (i + 1 + ds[i].num.toNat) (st.take (st.length - 2)) := by
  obtain ⟨f, k1, k2⟩ := at_nums h ha hi
  have g := f.2 (by rw [ha.2.1]; exact Int.natCast_nonneg _)
  have e2 : (takesV ds[i].op) = (2, 0) := by rw [ho]; rfl
  rw [e2] at k1 k2
  have hl : leftV i ds[i] hs = ((st.take (st.length - 2)).length : Int) := by
    rw [k2, List.length_take]
    show ((st.length - (2 : Int).toNat : Nat) : Int) + 0 = _
    have : (2 : Int).toNat = 2 := rfl
    omega
  have k1' : 2 ≤ st.length := k1
  exact ⟨k1', ⟨by omega, by rw [(g.2.2.2.1 ho).1, hl], fun x hx => ha.2.2 x (List.mem_of_mem_take hx)⟩, ⟨(holds_jump f.1.2 (.inl ho)).1, by rw [(g.2.2.2.1 ho).2, hl], fun x hx => ha.2.2 x (List.mem_of_mem_take hx)⟩⟩
theorem takes_puts {o : Int} (h : 0 ≤ (takesV o).1) (h9 : o ≠ 9) (h11 : o ≠ 11) : (takesV o).2 = 1 ∧ (1 ≤ o ∧ o ≤ 10) ∧ ((takesV o).1 = kidsN o) := by
  have ho : 1 ≤ o ∧ o ≤ 11 := Decidable.not_not.1 fun c => by rw [takes_bad c] at h; simp at h
  obtain ⟨a, b⟩ := ho
  have : o = 1 ∨ o = 2 ∨ o = 3 ∨ o = 4 ∨ o = 5 ∨ o = 6 ∨ o = 7 ∨ o = 8 ∨ o = 10 := by omega
  rcases this with rfl | rfl | rfl | rfl | rfl | rfl | rfl | rfl | rfl <;> exact ⟨rfl, by omega, rfl⟩
theorem at_do {ds : List Pl} {hs : List Int} {i : Nat} {st : List Int} {v : Int} (h : WayV ds hs) (ha : AtV ds hs i st) (hi : i < ds.length) (h9 : ds[i].op ≠ 9) (h11 : ds[i].op ≠ 11) :
    (takesV ds[i].op).1.toNat ≤ st.length ∧ HoldsN ds[i].op ds[i].num ds[i].nm ds[i].ms ∧ (∀ x ∈ st.drop (st.length - (takesV ds[i].op).1.toNat), okB x = true) ∧ (okB v = true → AtV ds hs (i + 1) (st.take (st.length - (takesV ds[i].op).1.toNat) ++ [v])) := by
  obtain ⟨f, k1, k2⟩ := at_nums h ha hi
  have g := f.2 (by rw [ha.2.1]; exact Int.natCast_nonneg _)
  have hv := f.1.2
  unfold HoldsV at hv
  rw [if_neg (by omega)] at hv
  refine ⟨k1, hv, fun x hx => ha.2.2 x (List.mem_of_mem_drop hx), fun hv => ⟨by omega, ?_, fun x hx => ?_⟩⟩
  · rw [g.2.2.2.2 h9 h11, k2, (takes_puts f.1.1 h9 h11).1]
    simp only [List.length_append, List.length_take, List.length_cons, List.length_nil]
    omega
  · rcases List.mem_append.1 hx with h1 | h1
    · exact ha.2.2 x (List.mem_of_mem_take h1)
    · simp at h1; rw [h1]; exact hv
/-- A program's answer is an amount, or a code; fuel is left. -/
theorem mach_ok (ns : List (ByteArray × Int)) {ds : List Pl} {hs : List Int} (h : WayV ds hs) : ∀ (k i : Nat) (st : List Int) (fu : Int), ds.length - i ≤ k → AtV ds hs i st → 0 ≤ fu → SOk fu (machV ns (ds.drop i) st fu) := by
  intro k
  induction k with
  | zero =>
    intro i st fu hk ha h0
    have hi : i = ds.length := by have := ha.1; omega
    subst hi
    rw [List.drop_length, mach_nil]
    have hl := ha.2.1
    rw [h.last] at hl
    obtain ⟨x, rfl⟩ : ∃ x, st = [x] := by
      match st, hl with
      | [x], _ => exact ⟨x, rfl⟩
      | [], hl => simp at hl
      | x :: y :: r, hl => simp at hl; omega
    exact ⟨ha.2.2 x (by simp), by simp, ⟨h0, Int.le_refl _⟩, fun e => absurd rfl e⟩
  | succ k ih =>
    intro i st fu hk ha h0
    rcases Nat.lt_or_ge i ds.length with hi | hi
    rotate_left
    · exact ih i st fu (by omega) ha h0
    rw [List.drop_eq_getElem_cons hi]
    have hc0 : 0 ≤ costP ds[i] := by unfold costP; split <;> omega
    by_cases hc : fu < costP ds[i]
    · rw [mach_lack ns hc]; exact ⟨okB0, by simp, ⟨h0, Int.le_refl _⟩, fun _ => rfl⟩
    have up : ∀ {r : Said}, SOk (fu - costP ds[i]) r → SOk fu r := fun h => ⟨h.1, h.2.1, ⟨h.2.2.1.1, by have := h.2.2.1.2; omega⟩, h.2.2.2⟩
    by_cases h11 : ds[i].op = 11
    · rw [mach_skip ns hc h11, List.drop_drop]
      exact up (ih _ _ _ (by omega) (at_skip h ha hi h11) (by omega))
    by_cases h9 : ds[i].op = 9
    · obtain ⟨t1, t2, t3⟩ := at_test h ha hi h9
      by_cases hl : (st.drop (st.length - 2)).getD 0 0 < (st.drop (st.length - 2)).getD 1 0
      · rw [mach_less ns hc h9 hl]; exact up (ih _ _ _ (by omega) t2 (by omega))
      · rw [mach_more ns hc h9 hl, List.drop_drop]; exact up (ih _ _ _ (by omega) t3 (by omega))
    obtain ⟨d1, d2, d3, d4⟩ := at_do (v := (doR ns ds[i].op ds[i].num ds[i].nm ds[i].ms (st.drop (st.length - (takesV ds[i].op).1.toNat))).1) h ha hi h9 h11
    have hd := doR_ok (ns := ns) d2 d3
    by_cases hb : (doR ns ds[i].op ds[i].num ds[i].nm ds[i].ms (st.drop (st.length - (takesV ds[i].op).1.toNat))).2 = 0
    · rw [mach_do ns hc h11 h9 hb]; exact up (ih _ _ _ (by omega) (d4 hd.1) (by omega))
    · rw [mach_bad ns hc h11 h9 hb]; exact ⟨okB0, hd.2.1, ⟨by simp only; omega, by simp only; omega⟩, fun _ => rfl⟩
/-- With more fuel it comes to the same, if it did not lack. -/
theorem mach_mono (ns : List (ByteArray × Int)) : ∀ (k : Nat) (l : List Pl) (st : List Int), l.length ≤ k → MonoF (machV ns l st) := by
  intro k
  induction k with
  | zero =>
    intro l st hk fu fu' h hc
    obtain rfl := List.eq_nil_of_length_eq_zero (Nat.le_zero.1 hk)
    rw [mach_nil, mach_nil]; simp only [Said.mk.injEq, true_and]; omega
  | succ k ih =>
    intro l st hk fu fu' h hc
    cases l with
    | nil => rw [mach_nil, mach_nil]; simp only [Said.mk.injEq, true_and]; omega
    | cons d r =>
      simp only [List.length_cons] at hk
      by_cases c : fu < costP d
      · rw [mach_lack ns c] at hc; exact absurd rfl hc
      have c' : ¬ fu' < costP d := by omega
      have up : ∀ {l' : List Pl} {st' : List Int}, l'.length ≤ k → machV ns (d :: r) st fu = machV ns l' st' (fu - costP d) → machV ns (d :: r) st fu' = machV ns l' st' (fu' - costP d) → machV ns (d :: r) st fu' = ⟨(machV ns (d :: r) st fu).v, (machV ns (d :: r) st fu).c, (machV ns (d :: r) st fu).f + (fu' - fu)⟩ := by
        intro l' st' hl e1 e2
        rw [e1] at hc ⊢
        rw [e2, ih l' st' hl (fu - costP d) (fu' - costP d) (by omega) hc]
        simp only [Said.mk.injEq, true_and]; omega
      by_cases h11 : d.op = 11
      · exact up (by simp only [List.length_drop]; omega) (mach_skip ns c h11) (mach_skip ns c' h11)
      by_cases h9 : d.op = 9
      · by_cases hl : (st.drop (st.length - 2)).getD 0 0 < (st.drop (st.length - 2)).getD 1 0
        · exact up (by omega) (mach_less ns c h9 hl) (mach_less ns c' h9 hl)
        · exact up (by simp only [List.length_drop]; omega) (mach_more ns c h9 hl) (mach_more ns c' h9 hl)
      by_cases hb : (doR ns d.op d.num d.nm d.ms (st.drop (st.length - (takesV d.op).1.toNat))).2 = 0
      · exact up (by omega) (mach_do ns c h11 h9 hb) (mach_do ns c' h11 h9 hb)
      · rw [mach_bad ns c h11 h9 hb, mach_bad ns c' h11 h9 hb]; simp only [Said.mk.injEq, true_and]; omega
/-- A program behind which others stand, and what is at hand below. -/
theorem mach_app (ns : List (ByteArray × Int)) {ds : List Pl} {hs : List Int} (h : WayV ds hs) (bs : List Int) (r : List Pl) : ∀ (k i : Nat) (st : List Int) (fu : Int), ds.length - i ≤ k → AtV ds hs i st →
    machV ns (ds.drop i ++ r) (bs ++ st) fu = if (machV ns (ds.drop i) st fu).c ≠ 0 then machV ns (ds.drop i) st fu else machV ns r (bs ++ [(machV ns (ds.drop i) st fu).v]) (machV ns (ds.drop i) st fu).f := by
  intro k
  induction k with
  | zero =>
    intro i st fu hk ha
    have hi : i = ds.length := by have := ha.1; omega
    subst hi
    rw [List.drop_length, mach_nil, List.nil_append]
    have hl := ha.2.1
    rw [h.last] at hl
    obtain ⟨x, rfl⟩ : ∃ x, st = [x] := by
      match st, hl with
      | [x], _ => exact ⟨x, rfl⟩
      | [], hl => simp at hl
      | x :: y :: r, hl => simp at hl; omega
    rfl
  | succ k ih =>
    intro i st fu hk ha
    rcases Nat.lt_or_ge i ds.length with hi | hi
    rotate_left
    · exact ih i st fu (by omega) ha
    rw [List.drop_eq_getElem_cons hi, List.cons_append]
    by_cases hc : fu < costP ds[i]
    · rw [mach_lack ns hc, mach_lack ns hc, if_pos (by simp)]
    have tk : ∀ n, n ≤ st.length → (bs ++ st).take ((bs ++ st).length - n) = bs ++ st.take (st.length - n) := fun n hn => by
      rw [List.take_append, List.length_append, List.take_of_length_le (by omega), show bs.length + st.length - n - bs.length = st.length - n by omega]
    have dr : ∀ n, n ≤ st.length → (bs ++ st).drop ((bs ++ st).length - n) = st.drop (st.length - n) := fun n hn => by
      rw [List.drop_append, List.length_append, List.drop_eq_nil_of_le (by omega), List.nil_append, show bs.length + st.length - n - bs.length = st.length - n by omega]
    have dd : ∀ n, i + 1 + n ≤ ds.length → (ds.drop (i + 1) ++ r).drop n = ds.drop (i + 1 + n) ++ r := fun n hn => by
      rw [List.drop_append, List.drop_drop, List.length_drop, show n - (ds.length - (i + 1)) = 0 by omega, List.drop_zero]
    by_cases h11 : ds[i].op = 11
    · have hn := at_skip h ha hi h11
      rw [mach_skip ns hc h11, mach_skip ns hc h11, dd _ hn.1, List.drop_drop]
      exact ih _ _ _ (by omega) hn
    by_cases h9 : ds[i].op = 9
    · obtain ⟨t1, t2, t3⟩ := at_test h ha hi h9
      by_cases hl : (st.drop (st.length - 2)).getD 0 0 < (st.drop (st.length - 2)).getD 1 0
      · rw [mach_less ns hc h9 hl, mach_less ns hc h9 (by rw [dr 2 t1]; exact hl), tk 2 t1]; exact ih _ _ _ (by omega) t2
      · rw [mach_more ns hc h9 hl, mach_more ns hc h9 (by rw [dr 2 t1]; exact hl), tk 2 t1, dd _ t3.1, List.drop_drop]; exact ih _ _ _ (by omega) t3
    obtain ⟨d1, d2, d3, d4⟩ := at_do (v := (doR ns ds[i].op ds[i].num ds[i].nm ds[i].ms (st.drop (st.length - (takesV ds[i].op).1.toNat))).1) h ha hi h9 h11
    have hd := doR_ok (ns := ns) d2 d3
    by_cases hb : (doR ns ds[i].op ds[i].num ds[i].nm ds[i].ms (st.drop (st.length - (takesV ds[i].op).1.toNat))).2 = 0
    · rw [mach_do ns hc h11 h9 hb, mach_do ns hc h11 h9 (by rw [dr _ d1]; exact hb), tk _ d1, dr _ d1, List.append_assoc]; exact ih _ _ _ (by omega) (d4 hd.1)
    · rw [mach_bad ns hc h11 h9 hb, mach_bad ns hc h11 h9 (by rw [dr _ d1]; exact hb), dr _ d1, if_pos hb]
end Go.Proofs.YtjphjnopdlfplaaGreatDoor

namespace Go.Proofs.YtjphjnopdlfplaaGreatDoor
open Go.RowKit
set_option linter.unusedVariables false
set_option linter.unusedSimpArgs false

theorem seqF_len : ∀ (gs : List (Int → Said)) (fu : Int), (seqF gs fu).2.1 = 0 → (seqF gs fu).1.length = gs.length
  | [], fu, h => by simp [seqF]
  | g :: r, fu, h => by
    rw [seqF] at h ⊢
    split at h
    · rename_i c
      rw [if_pos c]
      simp only [List.length_cons]
      rw [seqF_len r _ h]
    · rename_i c; exact absurd h c
theorem seqF_nn (ns : List (ByteArray × Int)) : ∀ (ts : List Tr) (fu : Int), 0 ≤ fu → (∀ t ∈ ts, OkP t) → 0 ≤ (seqF (ts.map (evalT ns)) fu).2.2
  | [], fu, h0, h => by simpa [seqF] using h0
  | t :: r, fu, h0, h => by
    have e := (eval_ok ns _ t (Nat.le_refl _) (h t (by simp)) fu h0).2.2.1.1
    rw [List.map_cons, seqF]
    split
    · exact seqF_nn ns r _ e (fun x hx => h x (by simp [hx]))
    · exact e
/-- The programs of kids, one behind the other. -/
def CodeAt (ns : List (ByteArray × Int)) (t : Tr) : Prop := ∀ (st : List Int) (fu : Int) (r : List Pl), 0 ≤ fu → machV ns (codeT t ++ r) st fu = if (evalT ns t fu).c ≠ 0 then ⟨0, (evalT ns t fu).c, (evalT ns t fu).f⟩ else machV ns r (st ++ [(evalT ns t fu).v]) (evalT ns t fu).f
theorem codes_seq (ns : List (ByteArray × Int)) : ∀ (ts : List Tr) (st : List Int) (fu : Int) (r : List Pl), 0 ≤ fu → (∀ t ∈ ts, OkP t ∧ CodeAt ns t) →
    machV ns ((ts.map codeT).flatten ++ r) st fu = if (seqF (ts.map (evalT ns)) fu).2.1 ≠ 0 then ⟨0, (seqF (ts.map (evalT ns)) fu).2.1, (seqF (ts.map (evalT ns)) fu).2.2⟩ else machV ns r (st ++ (seqF (ts.map (evalT ns)) fu).1) (seqF (ts.map (evalT ns)) fu).2.2
  | [], st, fu, r, h0, h => by simp [seqF]
  | t :: ts, st, fu, r, h0, h => by
    obtain ⟨h1, h2⟩ := h t (by simp)
    have e := (eval_ok ns _ t (Nat.le_refl _) h1 fu h0).2.2.1.1
    rw [List.map_cons, List.flatten_cons, List.append_assoc, h2 st fu _ h0, List.map_cons, seqF]
    by_cases c : (evalT ns t fu).c = 0
    · rw [if_neg (by simpa using c), if_pos c, codes_seq ns ts _ _ r e (fun x hx => h x (by simp [hx])), List.append_assoc]
      rfl
    · rw [if_pos c, if_neg c, if_pos c]
theorem kids_takes {o : Int} (h9 : o ≠ 9) {k : Nat} (h : (k : Int) = kidsN o) : takesV o = ((k : Int), 1) ∧ o ≠ 11 := by
  have ho : 1 ≤ o ∧ o ≤ 10 := by
    unfold kidsN at h
    refine Decidable.not_not.1 fun c => ?_
    rw [if_neg (by omega), if_neg (by omega), if_neg (by omega), if_neg (by omega), if_neg (by omega)] at h
    omega
  obtain ⟨a, b⟩ := ho
  have : o = 1 ∨ o = 2 ∨ o = 3 ∨ o = 4 ∨ o = 5 ∨ o = 6 ∨ o = 7 ∨ o = 8 ∨ o = 10 := by omega
  rcases this with rfl | rfl | rfl | rfl | rfl | rfl | rfl | rfl | rfl <;> (rw [h]; exact ⟨rfl, by omega⟩)
theorem ms_if {n : Int} {s : ByteArray} {k : Nat} {ms : List (Int × Int)} (h : PlainN 9 n s k ms) : ms.length = 0 := by
  have h2 := h.2
  unfold HoldsN at h2
  rw [if_neg (by decide), if_neg (by decide), if_neg (by decide)] at h2
  exact h2.2.2
theorem eval_code (ns : List (ByteArray × Int)) : ∀ (k : Nat) (t : Tr), wT t ≤ k → OkP t → CodeAt ns t := by
  intro k
  induction k with
  | zero => intro t h; cases t; rw [wT] at h; omega
  | succ k ih =>
    intro t hk h st fu r h0
    obtain ⟨o, n, s, ks, ms⟩ := t
    obtain ⟨hp, h3⟩ := okP_parts h
    rw [wT] at hk
    have hK : ∀ t ∈ ks, OkP t ∧ CodeAt ns t := fun t ht => ⟨h3 t ht, ih t (by have := wL_mem ht; omega) (h3 t ht)⟩
    by_cases c9 : o = 9
    · subst c9
      have h4 := if_kids hp
      have hm := ms_if hp
      obtain ⟨a, b, c, d, rfl⟩ := four h4
      rw [codeT_if h4]
      simp only [List.take_succ_cons, List.take_zero, List.getElem_cons_succ, List.getElem_cons_zero, List.append_assoc, List.cons_append]
      rw [codes_seq ns [a, b] st fu _ h0 (fun t ht => hK t (by simp at ht ⊢; rcases ht with h | h <;> simp [h]))]
      rw [evalT, evalFs_eq]
      unfold nodeV
      simp only [if_true, List.map_cons, List.map_nil, List.take_succ_cons, List.take_zero]
      have hl := seqF_len [evalT ns a, evalT ns b] fu
      have hn := seqF_nn ns [a, b] fu h0 (fun t ht => h3 t (by simp at ht ⊢; rcases ht with h | h <;> simp [h]))
      simp only [List.map_cons, List.map_nil] at hn
      generalize seqF [evalT ns a, evalT ns b] fu = q at *
      obtain ⟨l, cc, f⟩ := q
      dsimp only at *
      by_cases c1 : cc = 0
      rotate_left
      · rw [if_pos c1, if_pos c1, if_pos c1]
      subst c1
      simp only [ne_eq, not_true_eq_false, if_false]
      obtain ⟨x, y, rfl⟩ : ∃ x y, l = [x, y] := by
        match l, hl rfl with
        | [x, y], _ => exact ⟨x, y, rfl⟩
      have hc : costP ⟨9, ((codeT c).length : Int) + 1, ⟨#[]⟩, []⟩ = 1 := by simp [costP]
      have hm2 : (1 : Int) + (ms.length : Int) = 1 := by omega
      rw [hm2]
      by_cases cf : f < 1
      · rw [if_pos cf, mach_lack ns (by rw [hc]; exact cf), if_pos (by simp)]
      rw [if_neg cf]
      have tk : (st ++ [x, y]).take ((st ++ [x, y]).length - 2) = st := by simp
      have dr : (st ++ [x, y]).drop ((st ++ [x, y]).length - 2) = [x, y] := by simp
      have e2 : [evalT ns a, evalT ns b, evalT ns c, evalT ns d].getD 2 noSaid = evalT ns c := rfl
      have e3 : [evalT ns a, evalT ns b, evalT ns c, evalT ns d].getD 3 noSaid = evalT ns d := rfl
      rw [e2, e3]
      by_cases hl : [x, y].getD 0 0 < [x, y].getD 1 0
      · rw [if_pos hl, mach_less ns (by rw [hc]; exact cf) rfl (by rw [dr]; exact hl), tk, hc, (hK c (by simp)).2 st (f - 1) _ (by omega)]
        have ec := (eval_ok ns _ c (Nat.le_refl _) (hK c (by simp)).1 (f - 1) (by omega)).2.2.1.1
        by_cases c2 : (evalT ns c (f - 1)).c = 0
        · have hc11 : costP ⟨11, ((codeT d).length : Int), ⟨#[]⟩, []⟩ = 0 := by simp [costP]
          rw [if_neg (by simpa using c2), if_neg (by simpa using c2), mach_skip ns (by rw [hc11]; omega) rfl, hc11]
          simp
        · rw [if_pos c2, if_pos c2]
      · rw [if_neg hl, mach_more ns (by rw [hc]; exact cf) rfl (by rw [dr]; exact hl), tk, hc]
        have ed : (codeT c ++ (⟨11, ((codeT d).length : Int), ⟨#[]⟩, []⟩ :: (codeT d ++ r)) : List Pl).drop (((codeT c).length : Int) + 1).toNat = codeT d ++ r := by
          rw [show (((codeT c).length : Int) + 1).toNat = (codeT c).length + 1 by omega, List.drop_append]
          simp
        show machV ns ((codeT c ++ (⟨11, ((codeT d).length : Int), ⟨#[]⟩, []⟩ :: (codeT d ++ r)) : List Pl).drop (((codeT c).length : Int) + 1).toNat) st (f - 1) = _
        rw [ed, (hK d (by simp)).2 st (f - 1) _ (by omega)]
    · obtain ⟨ht, h11⟩ := kids_takes c9 hp.1
      rw [codeT_op c9, List.append_assoc, codes_seq ns ks st fu _ h0 hK]
      rw [evalT, evalFs_eq]
      unfold nodeV
      simp only [c9, if_false, List.take_length]
      have hl := seqF_len (ks.map (evalT ns)) fu
      generalize seqF (ks.map (evalT ns)) fu = q at *
      obtain ⟨l, cc, f⟩ := q
      dsimp only at *
      by_cases c1 : cc = 0
      rotate_left
      · rw [if_pos c1, if_pos c1, if_pos c1]
      subst c1
      simp only [ne_eq, not_true_eq_false, if_false]
      have hl1 := hl rfl
      rw [List.length_map] at hl1
      have hc : costP ⟨o, n, s, ms⟩ = 1 + ms.length := by unfold costP; rw [if_neg h11]
      have tn : (takesV o).1.toNat = l.length := by rw [ht]; simp only; omega
      have tk : (st ++ l).take ((st ++ l).length - (takesV o).1.toNat) = st := by rw [tn]; simp
      have dr : (st ++ l).drop ((st ++ l).length - (takesV o).1.toNat) = l := by rw [tn]; simp
      rw [List.singleton_append]
      by_cases cf : f < 1 + (ms.length : Int)
      · rw [if_pos cf, mach_lack ns (by rw [hc]; exact cf), if_pos (by simp)]
      rw [if_neg cf]
      by_cases hb : (doR ns o n s ms l).2 = 0
      · rw [mach_do ns (by rw [hc]; exact cf) h11 c9 (by rw [dr]; exact hb), if_neg (by simpa using hb), hc]
        show machV ns r ((st ++ l).take ((st ++ l).length - (takesV o).1.toNat) ++ [(doR ns o n s ms ((st ++ l).drop ((st ++ l).length - (takesV o).1.toNat))).1]) _ = _
        rw [tk, dr]
      · rw [mach_bad ns (by rw [hc]; exact cf) h11 c9 (by rw [dr]; exact hb), if_pos hb, hc]
        show Said.mk 0 (doR ns o n s ms ((st ++ l).drop ((st ++ l).length - (takesV o).1.toNat))).2 _ = _
        rw [dr]
theorem mark_yes {hs : List Int} {i : Nat} {n : Int} (hn : 0 ≤ n) (h : hs.getD i 0 = -1 ∨ hs.getD i 0 = n) : (markV hs i n).2 = true := by
  unfold markV
  rcases h with h | h
  · rw [if_neg (by omega)]
  · rw [if_pos (by omega)]
    simpa using h
theorem step_yes {q i : Nat} {d : Pl} {hs : List Int} {tk pt : Int} (ht : takesV d.op = (tk, pt)) (h0 : 0 ≤ tk) (hv : HoldsV d.op d.num ((q : Int) - i - 1) d.nm d.ms) (h1 : tk ≤ hs.getD i 0) (h2 : hs.getD i 0 - tk + pt ≤ 12) (hm : (marksV i d (hs.getD i 0 - tk + pt) hs).2 = true) : stepV q i d hs = some (marksV i d (hs.getD i 0 - tk + pt) hs).1 := by
  have hl : leftV i d hs = hs.getD i 0 - tk + pt := by unfold leftV; rw [ht]
  unfold stepV
  rw [hl, ht]
  rw [if_neg (fun a => a.elim (fun a => by have : tk < 0 := a; omega) (fun a => a hv)), if_neg (by omega), if_neg (fun a => a.elim (fun a => by have : hs.getD i 0 < tk := a; omega) (fun a => by have : 12 < hs.getD i 0 - tk + pt := a; omega)), if_pos hm]
def HeightAt (t : Tr) (d : Nat) : Prop := ∀ (q i : Nat) (r : List Pl) (hs : List Int) (h : Int), hs.length = q + 1 → i + (codeT t).length ≤ q → hs.getD i 0 = h → 0 ≤ h → h + 1 + 2 * (6 - (d : Int)) ≤ 12 → (∀ j, i < j → j < i + (codeT t).length → hs.getD j 0 = -1) → (hs.getD (i + (codeT t).length) 0 = -1 ∨ hs.getD (i + (codeT t).length) 0 = h + 1) →
  ∃ hs', runV q i (codeT t ++ r) hs = runV q (i + (codeT t).length) r hs' ∧ hs'.length = q + 1 ∧ hs'.getD (i + (codeT t).length) 0 = h + 1 ∧ ∀ j, i + (codeT t).length < j → hs'.getD j 0 = hs.getD j 0
theorem heights_seq (d : Nat) : ∀ (ts : List Tr) (q i : Nat) (r : List Pl) (hs : List Int) (h : Int), (∀ t ∈ ts, HeightAt t d ∧ 1 ≤ (codeT t).length) → hs.length = q + 1 → i + (ts.map codeT).flatten.length ≤ q → hs.getD i 0 = h → 0 ≤ h → h + ts.length + 2 * (6 - (d : Int)) ≤ 12 → (∀ j, i < j → j ≤ i + (ts.map codeT).flatten.length → hs.getD j 0 = -1) →
    ∃ hs', runV q i ((ts.map codeT).flatten ++ r) hs = runV q (i + (ts.map codeT).flatten.length) r hs' ∧ hs'.length = q + 1 ∧ hs'.getD (i + (ts.map codeT).flatten.length) 0 = h + ts.length ∧ ∀ j, i + (ts.map codeT).flatten.length < j → hs'.getD j 0 = hs.getD j 0
  | [], q, i, r, hs, h, hT, hl, hq, hh, h0, hb, hm => ⟨hs, by simp, hl, by simpa using hh, fun _ _ => rfl⟩
  | t :: ts, q, i, r, hs, h, hT, hl, hq, hh, h0, hb, hm => by
    obtain ⟨h1, h2⟩ := hT t (by simp)
    simp only [List.map_cons, List.flatten_cons, List.length_append, List.length_cons] at hq hb hm ⊢
    obtain ⟨hs1, e1, l1, g1, k1⟩ := h1 q i ((ts.map codeT).flatten ++ r) hs h hl (by omega) hh h0 (by omega) (fun j a b => hm j a (by omega)) (.inl (hm _ (by omega) (by omega)))
    obtain ⟨hs2, e2, l2, g2, k2⟩ := heights_seq d ts q (i + (codeT t).length) r hs1 (h + 1) (fun x hx => hT x (by simp [hx])) l1 (by omega) g1 (by omega) (by omega) (fun j a b => by rw [k1 j a]; exact hm j (by omega) (by omega))
    refine ⟨hs2, ?_, l2, ?_, fun j hj => ?_⟩
    · rw [List.append_assoc, e1, e2, Nat.add_assoc]
    · rw [← Nat.add_assoc, g2]; omega
    · rw [k2 j (by omega), k1 j (by omega)]
theorem heights_code : ∀ (k : Nat) (t : Tr) (d : Nat), wT t ≤ k → okD t d → HeightAt t d := by
  intro k
  induction k with
  | zero => intro t d h; cases t; rw [wT] at h; omega
  | succ k ih =>
    intro t d hk hok
    obtain ⟨o, n, s, ks, ms⟩ := t
    rw [wT] at hk
    rw [okD] at hok
    obtain ⟨hd, hp, hL⟩ := hok
    have hmem : ∀ ks : List Tr, okDL ks (d + 1) → ∀ t ∈ ks, okD t (d + 1) := by
      intro ks
      induction ks with
      | nil => intro _ t ht; simp at ht
      | cons x r ihr =>
        intro h t ht
        rw [okDL] at h
        rcases List.mem_cons.1 ht with rfl | ht
        · exact h.1
        · exact ihr h.2 t ht
    have hK : ∀ t ∈ ks, HeightAt t (d + 1) ∧ 1 ≤ (codeT t).length := fun t ht => ⟨ih t (d + 1) (by have := wL_mem ht; omega) (hmem ks hL t ht), codeT_pos t⟩
    have hd5 : 1 ≤ ks.length → d ≤ 5 := by
      intro h1
      match ks, h1 with
      | x :: r, _ =>
        have := hmem (x :: r) hL x (by simp)
        obtain ⟨o', n', s', ks', ms'⟩ := x
        rw [okD] at this
        omega
    intro q i r hs h hl hq hh h0 hb hm he
    by_cases c9 : o = 9
    · subst c9
      have h4 := if_kids hp
      have hm0 := ms_if hp
      have hd6 := hd5 (by omega)
      obtain ⟨a, b, c, e, rfl⟩ := four h4
      rw [codeT_if h4] at hq hm he ⊢
      simp only [List.take_succ_cons, List.take_zero, List.getElem_cons_succ, List.getElem_cons_zero, List.append_assoc, List.cons_append] at hq hm he ⊢
      generalize hX : ([a, b].map codeT).flatten = X at *
      simp only [List.length_append, List.length_cons] at hq hm he ⊢
      have pc := (hK c (by simp)).2
      have pe := (hK e (by simp)).2
      obtain ⟨hs1, e1, l1, g1, k1⟩ := heights_seq (d + 1) [a, b] q i (⟨9, ((codeT c).length : Int) + 1, ⟨#[]⟩, []⟩ :: (codeT c ++ (⟨11, ((codeT e).length : Int), ⟨#[]⟩, []⟩ :: (codeT e ++ r)))) hs h (fun t ht => hK t (by simp at ht ⊢; rcases ht with h | h <;> simp [h])) hl (by rw [hX]; omega) hh h0 (by simp only [List.length_cons, List.length_nil]; omega) (fun j x y => hm j x (by rw [hX] at y; omega))
      rw [hX] at e1 g1 k1
      simp only [List.length_cons, List.length_nil] at g1
      generalize hP : i + X.length = p at *
      have n1 : hs1.getD (p + 1) 0 = -1 := by rw [k1 _ (by omega)]; exact hm _ (by omega) (by omega)
      have n2 : hs1.getD (p + 1 + ((codeT c).length + 1)) 0 = -1 := by rw [k1 _ (by omega)]; exact hm _ (by omega) (by omega)
      have tn : (((codeT c).length : Int) + 1).toNat = (codeT c).length + 1 := by omega
      have te : (((codeT e).length : Int)).toNat = (codeT e).length := by omega
      have eh : hs1.getD p 0 - 2 + 0 = h := by rw [g1]; omega
      have m1 : (markV hs1 (p + 1) h).2 = true := mark_yes h0 (.inl n1)
      have n2' : (markV hs1 (p + 1) h).1.getD (p + 1 + ((codeT c).length + 1)) 0 = -1 := by rw [mark_other (by omega)]; exact n2
      have m2 : (markV (markV hs1 (p + 1) h).1 (p + 1 + ((codeT c).length + 1)) h).2 = true := mark_yes h0 (.inl n2')
      have mv : marksV p ⟨9, ((codeT c).length : Int) + 1, ⟨#[]⟩, []⟩ h hs1 = markV (markV hs1 (p + 1) h).1 (p + 1 + ((codeT c).length + 1)) h := by
        unfold marksV
        rw [if_pos rfl, if_pos m1]
        simp only [tn]
      have s1 := step_yes (q := q) (i := p) (d := ⟨9, ((codeT c).length : Int) + 1, ⟨#[]⟩, []⟩) (hs := hs1) (tk := 2) (pt := 0) rfl (by decide) (by
        unfold HoldsV; rw [if_pos (.inl rfl)]; exact ⟨by simp only; omega, rfl, rfl⟩) (by rw [g1]; omega) (by rw [eh]; omega) (by rw [eh, mv]; exact m2)
      rw [eh, mv] at s1
      generalize hA : (markV (markV hs1 (p + 1) h).1 (p + 1 + ((codeT c).length + 1)) h).1 = A at *
      have lA : A.length = q + 1 := by rw [← hA, markV_len, markV_len, l1]
      have a2 : A.getD (p + 1 + ((codeT c).length + 1)) 0 = h := by rw [← hA]; exact mark_at m2 (by rw [markV_len]; omega)
      have a1 : A.getD (p + 1) 0 = h := by rw [← hA, mark_other (by omega)]; exact mark_at m1 (by omega)
      have a0 : ∀ j, j ≠ p + 1 → j ≠ p + 1 + ((codeT c).length + 1) → A.getD j 0 = hs1.getD j 0 := fun j x y => by rw [← hA, mark_other y, mark_other x]
      obtain ⟨hs2, e2, l2, g2, k2⟩ := (hK c (by simp)).1 q (p + 1) (⟨11, ((codeT e).length : Int), ⟨#[]⟩, []⟩ :: (codeT e ++ r)) A h lA (by omega) a1 h0 (by omega)
        (fun j x y => by rw [a0 j (by omega) (by omega), k1 j (by omega)]; exact hm j (by omega) (by omega))
        (.inl (by rw [a0 _ (by omega) (by omega), k1 _ (by omega)]; exact hm _ (by omega) (by omega)))
      have he2 : hs2.getD (p + 1 + (codeT c).length + 1 + (codeT e).length) 0 = -1 ∨ hs2.getD (p + 1 + (codeT c).length + 1 + (codeT e).length) 0 = h + 1 := by
        rw [k2 _ (by omega), a0 _ (by omega) (by omega), k1 _ (by omega)]
        have : p + 1 + (codeT c).length + 1 + (codeT e).length = i + (X.length + ((codeT c).length + ((codeT e).length + 1) + 1)) := by omega
        rw [this]; exact he
      have m3 : (markV hs2 (p + 1 + (codeT c).length + 1 + (codeT e).length) (h + 1)).2 = true := mark_yes (by omega) he2
      have eh3 : hs2.getD (p + 1 + (codeT c).length) 0 - 0 + 0 = h + 1 := by rw [g2]; omega
      have mv3 : marksV (p + 1 + (codeT c).length) ⟨11, ((codeT e).length : Int), ⟨#[]⟩, []⟩ (h + 1) hs2 = markV hs2 (p + 1 + (codeT c).length + 1 + (codeT e).length) (h + 1) := by
        unfold marksV
        rw [if_neg (show ¬ ((11 : Int) = 9) by decide), if_pos rfl]
        simp only [te]
      have s3 := step_yes (q := q) (i := p + 1 + (codeT c).length) (d := ⟨11, ((codeT e).length : Int), ⟨#[]⟩, []⟩) (hs := hs2) (tk := 0) (pt := 0) rfl (by decide) (by
        unfold HoldsV; rw [if_pos (.inr rfl)]; exact ⟨by simp only; omega, rfl, rfl⟩) (by rw [g2]; omega) (by rw [eh3]; omega) (by rw [eh3, mv3]; exact m3)
      rw [eh3, mv3] at s3
      generalize hB : (markV hs2 (p + 1 + (codeT c).length + 1 + (codeT e).length) (h + 1)).1 = B at *
      have lB : B.length = q + 1 := by rw [← hB, markV_len, l2]
      have b1 : B.getD (p + 1 + (codeT c).length + 1 + (codeT e).length) 0 = h + 1 := by rw [← hB]; exact mark_at m3 (by omega)
      have b0 : ∀ j, j ≠ p + 1 + (codeT c).length + 1 + (codeT e).length → B.getD j 0 = hs2.getD j 0 := fun j x => by rw [← hB, mark_other x]
      obtain ⟨hs4, e4, l4, g4, k4⟩ := (hK e (by simp)).1 q (p + 1 + (codeT c).length + 1) r B h lB (by omega) (by rw [b0 _ (by omega), k2 _ (by omega)]; exact a2) h0 (by omega)
        (fun j x y => by rw [b0 j (by omega), k2 j (by omega), a0 j (by omega) (by omega), k1 j (by omega)]; exact hm j (by omega) (by omega))
        (.inr b1)
      have epos : i + (X.length + ((codeT c).length + ((codeT e).length + 1) + 1)) = p + 1 + (codeT c).length + 1 + (codeT e).length := by omega
      rw [epos]
      refine ⟨hs4, ?_, l4, g4, fun j hj => ?_⟩
      · rw [e1, runV, s1, Option.bind_some, e2, runV, s3, Option.bind_some, e4]
      · rw [k4 j hj, b0 j (by omega), k2 j (by omega), a0 j (by omega) (by omega), k1 j (by omega)]
    · obtain ⟨ht, h11⟩ := kids_takes c9 hp.1
      rw [codeT_op c9] at hq hm he ⊢
      generalize hX : (ks.map codeT).flatten = X at *
      simp only [List.length_append, List.length_cons, List.length_nil, List.append_assoc] at hq hm he ⊢
      have hk3 : ks.length ≤ 3 := by
        have h1 := hp.1
        unfold kidsN at h1
        repeat (split at h1; · omega)
        omega
      have hpos : ks.length = 0 → X.length = 0 := by
        intro e
        have := List.eq_nil_of_length_eq_zero e
        subst this
        rw [← hX]; rfl
      obtain ⟨hs1, e1, l1, g1, k1⟩ := heights_seq (d + 1) ks q i ([⟨o, n, s, ms⟩] ++ r) hs h hK hl (by rw [hX]; omega) hh h0 (by
        rcases Nat.eq_zero_or_pos ks.length with z | z
        · omega
        · have := hd5 z; omega) (fun j x y => hm j x (by rw [hX] at y; omega))
      rw [hX] at e1 g1 k1
      have eh : hs1.getD (i + X.length) 0 - (ks.length : Int) + 1 = h + 1 := by rw [g1]; omega
      have m1 : (markV hs1 (i + X.length + 1) (h + 1)).2 = true := mark_yes (by omega) (by rw [k1 _ (by omega)]; exact he)
      have mv : marksV (i + X.length) ⟨o, n, s, ms⟩ (h + 1) hs1 = markV hs1 (i + X.length + 1) (h + 1) := by
        unfold marksV
        rw [if_neg c9, if_neg h11]
      have s1 := step_yes (q := q) (i := i + X.length) (d := ⟨o, n, s, ms⟩) (hs := hs1) (tk := ks.length) (pt := 1) ht (by omega) (by
        unfold HoldsV; rw [if_neg (by simp only; omega)]; exact hp.2) (by rw [g1]; omega) (by rw [eh]; omega) (by rw [eh, mv]; exact m1)
      rw [eh, mv] at s1
      refine ⟨(markV hs1 (i + X.length + 1) (h + 1)).1, ?_, by rw [markV_len, l1], by rw [← Nat.add_assoc]; exact mark_at m1 (by omega), fun j hj => by rw [mark_other (by omega), k1 j (by omega)]⟩
      rw [e1, List.singleton_append, runV, s1, Option.bind_some, Nat.add_assoc]
theorem heights_ok {t : Tr} (h : okD t 1) : (heightsV (codeT t)).isSome = true := by
  obtain ⟨hs, e, l, g, -⟩ := heights_code _ t 1 (Nat.le_refl _) h (codeT t).length 0 [] (firstV (codeT t).length) 0 (by simp [firstV]) (by omega) rfl (by omega) (by omega)
    (fun j x y => by
      unfold firstV
      obtain ⟨j, rfl⟩ : ∃ j', j = j' + 1 := ⟨j - 1, by omega⟩
      have y' : j < (codeT t).length := by omega
      simp [List.getD, List.getElem?_replicate, y'])
    (.inl (by
      have := codeT_pos t
      unfold firstV
      obtain ⟨j, hj⟩ : ∃ j', (codeT t).length = j' + 1 := ⟨(codeT t).length - 1, by omega⟩
      rw [Nat.zero_add, hj]
      simp [List.getD, List.getElem?_replicate]))
  unfold heightsV
  rw [List.append_nil, Nat.zero_add, runV] at e
  rw [e, Option.bind_some, if_pos (by rw [Nat.zero_add] at g; rw [g]; rfl)]
  rfl
theorem joinS_eq (sep : UInt8) (l : List ByteArray) : (joinS sep l).length = (l.map (·.size)).sum + (l.length - 1) := by
  cases l with
  | nil => simp [joinS, Lib.join_nil]
  | cons x r =>
    unfold joinS
    rw [List.map_cons, Lib.join_length]
    have e : ∀ r : List ByteArray, Lib.lens (r.map (·.data.toList)) = (r.map (·.size)).sum := by
      intro r
      induction r with
      | nil => simp [Lib.lens]
      | cons y r ih =>
        have hy : y.data.toList.length = y.size := by simp
        simp only [Lib.lens, List.map_cons, List.sum_cons, List.length_cons] at ih ⊢
        omega
    have h1 := e (x :: r)
    simp only [List.map_cons, List.length_cons, List.length_nil, List.length_map] at h1 ⊢
    omega
theorem textV_app (a b : List Pl) : textV (a ++ b) = textV a ++ textV b := by unfold textV; rw [List.flatMap_append]
theorem textV_one (d : Pl) : textV [d] = lineV d := by simp [textV]
theorem marks_same (ms : List (Int × Int)) : (marksT 32 ms).length = (marksT 44 ms).length := by unfold marksT; rw [joinS_eq, joinS_eq]
theorem line_jump (o : Int) (ho : o = 9 ∨ o = 11) (n : Int) (h0 : 0 ≤ n) (h1 : n ≤ 1000) : (lineV ⟨o, n, ⟨#[]⟩, []⟩).length ≤ 27 := by
  have e := itoa_len (n := n) (by omega) (by omega)
  have e2 : (intB n).data.toList.length = (Lib.itoa n).length := by simp [intB]
  unfold lineV argV wordV
  rcases ho with rfl | rfl
  · simp only [List.length_append, List.length_cons, List.length_nil, show ¬ ((9 : Int) = 1) by decide, show ¬ ((9 : Int) = 2) by decide, if_false, if_true, true_or, or_true]
    omega
  · simp only [List.length_append, List.length_cons, List.length_nil, show ¬ ((11 : Int) = 1) by decide, show ¬ ((11 : Int) = 2) by decide, show ¬ ((11 : Int) = 9) by decide, if_false, if_true, or_true]
    omega
def TxAt (t : Tr) : Prop := (textV (codeT t)).length + 16 ≤ (textT t).length + 22 * wT t
theorem texts_seq : ∀ ts : List Tr, (∀ t ∈ ts, TxAt t) → (textV (ts.map codeT).flatten).length + 16 * ts.length ≤ ((textsL ts).map (·.size)).sum + 22 * wL ts
  | [], h => by simp [textV, wL]
  | t :: r, h => by
    have a := h t (by simp)
    have b := texts_seq r (fun x hx => h x (by simp [hx]))
    unfold TxAt at a
    have e : (⟨(textT t).toArray⟩ : ByteArray).size = (textT t).length := by show (textT t).toArray.size = _; simp
    simp only [List.map_cons, List.flatten_cons, textV_app, List.length_append, List.length_cons, textsL, List.sum_cons, wL, e]
    omega
theorem textsL_len : ∀ ts : List Tr, (textsL ts).length = ts.length
  | [] => by simp [textsL]
  | t :: r => by simp [textsL, textsL_len r]
theorem text_code : ∀ (k : Nat) (t : Tr), wT t ≤ k → OkP t → TxAt t := by
  intro k
  induction k with
  | zero => intro t h; cases t; rw [wT] at h; omega
  | succ k ih =>
    intro t hk h
    obtain ⟨o, n, s, ks, ms⟩ := t
    obtain ⟨hp, h3⟩ := okP_parts h
    have hw30 := okP_w h
    rw [wT] at hk hw30
    have hK : ∀ t ∈ ks, TxAt t := fun t ht => ih t (by have := wL_mem ht; omega) (h3 t ht)
    have hs := texts_seq ks hK
    have hj := joinS_eq 44 (textsL ks)
    rw [textsL_len] at hj
    unfold TxAt
    rw [wT]
    by_cases c9 : o = 9
    · subst c9
      have h4 := if_kids hp
      have hm0 := ms_if hp
      obtain ⟨a, b, c, d, rfl⟩ := four h4
      have la := codeT_len (h3 c (by simp))
      have lb := codeT_len (h3 d (by simp))
      have wc : wT c ≤ wL [a, b, c, d] := wL_mem (by simp)
      have wd : wT d ≤ wL [a, b, c, d] := wL_mem (by simp)
      have l1 := line_jump 9 (.inl rfl) (((codeT c).length : Int) + 1) (by omega) (by omega)
      have l2 := line_jump 11 (.inr rfl) ((codeT d).length : Int) (by omega) (by omega)
      rw [codeT_if h4, textT, if_neg (by decide), if_neg (by decide)]
      have e1 : ∀ (x : Pl) (l : List Pl), textV (x :: l) = lineV x ++ textV l := fun x l => by rw [← List.singleton_append, textV_app, textV_one]
      simp only [List.map_cons, List.map_nil, List.flatten_cons, List.flatten_nil, List.append_nil, textV_app, List.length_append] at hs
      simp only [List.take_succ_cons, List.take_zero, List.map_cons, List.map_nil, List.flatten_cons, List.flatten_nil, List.append_nil, List.getElem_cons_succ, List.getElem_cons_zero, textV_app, e1, List.length_append, List.length_cons, List.length_nil, hm0, if_true]
      simp only [List.length_cons, List.length_nil] at hs hj
      have w9 : (wordT 9).length = 2 := rfl
      omega
    · obtain ⟨ht, h11⟩ := kids_takes c9 hp.1
      rw [codeT_op c9, textV_app, textV_one, List.length_append]
      unfold lineV argV wordV
      rw [textT]
      by_cases o1 : o = 1
      · subst o1
        have hk0 : ks.length = 0 := by have h1 := hp.1; have e : kidsN 1 = 0 := rfl; omega
        have := List.eq_nil_of_length_eq_zero hk0
        subst this
        have e2 : (intB n).data.toList.length = (Lib.itoa n).length := by simp [intB]
        simp only [if_true, List.length_append, List.length_cons, List.length_nil, true_or, List.map_nil, List.flatten_nil, textV, List.flatMap_nil, wL]
        omega
      by_cases o2 : o = 2
      · subst o2
        have hk0 : ks.length = 0 := by have h1 := hp.1; have e : kidsN 2 = 0 := rfl; omega
        have := List.eq_nil_of_length_eq_zero hk0
        subst this
        simp only [show ¬ ((2 : Int) = 1) by decide, show ¬ ((2 : Int) = 9) by decide, show ¬ ((2 : Int) = 11) by decide, or_self, if_false, if_true, List.length_append, List.length_cons, List.length_nil, List.map_nil, List.flatten_nil, textV, List.flatMap_nil, wL]
        omega
      simp only [o1, o2, c9, h11, or_self, if_false]
      have mm : (if o = 10 then 32 :: marksT 32 ms else []).length ≤ (if ms.length = 0 then [] else 59 :: marksT 44 ms).length := by
        have hh := hp.2
        unfold HoldsN at hh
        rw [if_neg o1, if_neg o2] at hh
        by_cases o10 : o = 10
        · rw [if_pos o10] at hh
          have := hh.2.2.1
          rw [if_pos o10, if_neg (by omega)]
          simp only [List.length_cons, marks_same]
          omega
        · rw [if_neg o10]; simp
      simp only [List.length_append, List.length_cons, List.length_nil] at mm ⊢
      omega
theorem codeT_ok {t : Tr} (h : 0 ≤ partsT t 1 30) (ht : (textT t).length ≤ 300) : OkV (codeT t) := by
  have hok : OkP t := ⟨1, 30, Int.le_refl _, h⟩
  have hw := okP_w hok
  have a := codeT_len hok
  have b := codeT_pos t
  have c := text_code _ t (Nat.le_refl _) hok
  unfold TxAt at c
  exact ⟨⟨b, by omega⟩, heights_ok (parts_okD t 1 30 h).1, by omega⟩
end Go.Proofs.YtjphjnopdlfplaaGreatDoor

namespace Go.Proofs.YtjphjnopdlfplaaGreatDoor
open Go.RowKit
set_option linter.unusedVariables false
set_option linter.unusedSimpArgs false

theorem mach_le (ns : List (ByteArray × Int)) : ∀ (k : Nat) (l : List Pl) (st : List Int) (fu : Int), l.length ≤ k → (machV ns l st fu).f ≤ fu := by
  intro k
  induction k with
  | zero =>
    intro l st fu hk
    obtain rfl := List.eq_nil_of_length_eq_zero (Nat.le_zero.1 hk)
    rw [mach_nil]; exact Int.le_refl _
  | succ k ih =>
    intro l st fu hk
    cases l with
    | nil => rw [mach_nil]; exact Int.le_refl _
    | cons d r =>
      simp only [List.length_cons] at hk
      have hc0 : 0 ≤ costP d := by unfold costP; split <;> omega
      by_cases c : fu < costP d
      · rw [mach_lack ns c]; exact Int.le_refl _
      by_cases h11 : d.op = 11
      · rw [mach_skip ns c h11]; have := ih (r.drop d.num.toNat) st (fu - costP d) (by simp only [List.length_drop]; omega); omega
      by_cases h9 : d.op = 9
      · by_cases hl : (st.drop (st.length - 2)).getD 0 0 < (st.drop (st.length - 2)).getD 1 0
        · rw [mach_less ns c h9 hl]; have := ih r (st.take (st.length - 2)) (fu - costP d) (by omega); omega
        · rw [mach_more ns c h9 hl]; have := ih (r.drop d.num.toNat) (st.take (st.length - 2)) (fu - costP d) (by simp only [List.length_drop]; omega); omega
      by_cases hb : (doR ns d.op d.num d.nm d.ms (st.drop (st.length - (takesV d.op).1.toNat))).2 = 0
      · rw [mach_do ns c h11 h9 hb]
        have := ih r (st.take (st.length - (takesV d.op).1.toNat) ++ [(doR ns d.op d.num d.nm d.ms (st.drop (st.length - (takesV d.op).1.toNat))).1]) (fu - costP d) (by omega)
        omega
      · rw [mach_bad ns c h11 h9 hb]; simp only; omega
/-- With less fuel, as long as that is what was left, it comes to the same. -/
theorem mach_spare (ns : List (ByteArray × Int)) : ∀ (k : Nat) (l : List Pl) (st : List Int) (fu e : Int), l.length ≤ k → 0 ≤ e → e ≤ (machV ns l st fu).f → (machV ns l st fu).c ≠ 1 → machV ns l st (fu - e) = ⟨(machV ns l st fu).v, (machV ns l st fu).c, (machV ns l st fu).f - e⟩ := by
  intro k
  induction k with
  | zero =>
    intro l st fu e hk e0 h hc
    obtain rfl := List.eq_nil_of_length_eq_zero (Nat.le_zero.1 hk)
    rw [mach_nil, mach_nil]
  | succ k ih =>
    intro l st fu e hk e0 h hc
    cases l with
    | nil => rw [mach_nil, mach_nil]
    | cons d r =>
      simp only [List.length_cons] at hk
      by_cases c : fu < costP d
      · rw [mach_lack ns c] at hc; exact absurd rfl hc
      have up : ∀ {l' : List Pl} {st' : List Int}, l'.length ≤ k → machV ns (d :: r) st fu = machV ns l' st' (fu - costP d) → (¬ fu - e < costP d → machV ns (d :: r) st (fu - e) = machV ns l' st' (fu - e - costP d)) → machV ns (d :: r) st (fu - e) = ⟨(machV ns (d :: r) st fu).v, (machV ns (d :: r) st fu).c, (machV ns (d :: r) st fu).f - e⟩ := by
        intro l' st' hl e1 e2
        rw [e1] at hc h ⊢
        have := mach_le ns _ l' st' (fu - costP d) (Nat.le_refl _)
        rw [e2 (by omega), show fu - e - costP d = fu - costP d - e by omega]
        exact ih l' st' (fu - costP d) e hl e0 h hc
      by_cases h11 : d.op = 11
      · exact up (by simp only [List.length_drop]; omega) (mach_skip ns c h11) (fun c' => mach_skip ns c' h11)
      by_cases h9 : d.op = 9
      · by_cases hl : (st.drop (st.length - 2)).getD 0 0 < (st.drop (st.length - 2)).getD 1 0
        · exact up (by omega) (mach_less ns c h9 hl) (fun c' => mach_less ns c' h9 hl)
        · exact up (by simp only [List.length_drop]; omega) (mach_more ns c h9 hl) (fun c' => mach_more ns c' h9 hl)
      by_cases hb : (doR ns d.op d.num d.nm d.ms (st.drop (st.length - (takesV d.op).1.toNat))).2 = 0
      · exact up (by omega) (mach_do ns c h11 h9 hb) (fun c' => mach_do ns c' h11 h9 hb)
      · rw [mach_bad ns c h11 h9 hb] at h ⊢
        simp only at h ⊢
        rw [mach_bad ns (by omega) h11 h9 hb]
        simp only [Said.mk.injEq, true_and]; omega
/-- What a program comes to, or that it is none. -/
def vmRunV (ds : List Pl) (ns : List (ByteArray × Int)) (fu : Int) : Int × Int × Int := if OkV ds ∧ 0 ≤ fu ∧ fu ≤ 1000 then ((machV ns ds [] fu).v, (machV ns ds [] fu).c, fu - (machV ns ds [] fu).f) else (0, 4, 0)
theorem okV_way {ds : List Pl} (h : OkV ds) : ∃ hs, heightsV ds = some hs ∧ WayV ds hs := by
  obtain ⟨hs, e⟩ := Option.isSome_iff_exists.1 h.2.1
  exact ⟨hs, e, way_of e⟩
theorem mach_sok (ns : List (ByteArray × Int)) {ds : List Pl} (h : OkV ds) {fu : Int} (h0 : 0 ≤ fu) : SOk fu (machV ns ds [] fu) := by
  obtain ⟨hs, -, w⟩ := okV_way h
  have := mach_ok ns w _ 0 [] fu (Nat.le_refl _) (at_first w) h0
  rwa [List.drop_zero] at this
/-- P16. -/
theorem vm_top (ns : List (ByteArray × Int)) {t : Tr} (h : OkP t) {fu : Int} (h0 : 0 ≤ fu) : machV ns (codeT t) [] fu = ⟨(evalT ns t fu).v, (evalT ns t fu).c, (evalT ns t fu).f⟩ := by
  have e := eval_code ns _ t (Nat.le_refl _) h [] fu [] h0
  have s := eval_ok ns _ t (Nat.le_refl _) h fu h0
  rw [List.append_nil] at e
  rw [e]
  split
  · rename_i c
    simp only [Said.mk.injEq, and_true, true_and]
    exact (s.2.2.2 c).symm
  · rename_i c
    rw [mach_nil]
    simp only [Said.mk.injEq, and_true, true_and]
    exact ⟨rfl, (by simpa using c : (evalT ns t fu).c = 0).symm⟩
theorem vm_used (ns : List (ByteArray × Int)) {t : Tr} (h : OkP t) {fu : Int} (h0 : 0 ≤ fu) : 0 ≤ fu - (evalT ns t fu).f ∧ fu - (evalT ns t fu).f ≤ fu ∧ fu - (evalT ns t fu).f ≤ costT t := by
  have s := (eval_ok ns _ t (Nat.le_refl _) h fu h0).2.2.1
  refine ⟨by omega, by omega, ?_⟩
  rcases Int.le_total (costT t) fu with c | c
  · have := (eval_enough ns _ t (Nat.le_refl _) h fu c).2; omega
  · omega
/-- P18. -/
theorem vm_fuel (ns : List (ByteArray × Int)) {ds : List Pl} (h : OkV ds) {fu : Int} (h0 : 0 ≤ fu) (h1 : fu ≤ 1000) (hc : (machV ns ds [] fu).c ≠ 1) :
    vmRunV ds ns (fu - (machV ns ds [] fu).f) = ((machV ns ds [] fu).v, (machV ns ds [] fu).c, fu - (machV ns ds [] fu).f) ∧ vmRunV ds ns 1000 = ((machV ns ds [] fu).v, (machV ns ds [] fu).c, fu - (machV ns ds [] fu).f) ∧ (fu - (machV ns ds [] fu).f = 0 ∨ (vmRunV ds ns (fu - (machV ns ds [] fu).f - 1)).2.1 = 1) := by
  have s := mach_sok ns h h0
  have sf := s.2.2.1
  have a := mach_spare ns _ ds [] fu (machV ns ds [] fu).f (Nat.le_refl _) sf.1 (Int.le_refl _) hc
  have b := mach_mono ns _ ds [] (Nat.le_refl _) fu 1000 h1 hc
  refine ⟨?_, ?_, ?_⟩
  · unfold vmRunV
    rw [if_pos ⟨h, by omega, by omega⟩, a]
    simp only [Prod.mk.injEq, true_and]; omega
  · unfold vmRunV
    rw [if_pos ⟨h, by omega, by omega⟩, b]
    simp only [Prod.mk.injEq, true_and]; omega
  · by_cases z : fu - (machV ns ds [] fu).f = 0
    · exact .inl z
    · right
      unfold vmRunV
      rw [if_pos ⟨h, by omega, by omega⟩]
      simp only
      refine Decidable.not_not.1 fun hn => ?_
      have m := mach_mono ns _ ds [] (Nat.le_refl _) (fu - (machV ns ds [] fu).f - 1) (fu - (machV ns ds [] fu).f) (by omega) hn
      have s2 := (mach_sok ns h (fu := fu - (machV ns ds [] fu).f - 1) (by omega)).2.2.1
      rw [a] at m
      simp only [Said.mk.injEq] at m
      omega
/-- P20. -/
theorem vm_both (ns : List (ByteArray × Int)) {p q : List Pl} {fu : Int} (hp : OkV p) (hq : OkV q) (h1 : (machV ns p [] 1000).c = 0) (h2 : (machV ns q [] 1000).c = 0) (hb : OkV (p ++ q ++ [⟨3, 0, ⟨#[]⟩, []⟩])) :
    (vmRunV (p ++ q ++ [⟨3, 0, ⟨#[]⟩, []⟩]) ns 1000).2.1 = 1 ∨ ((vmRunV (p ++ q ++ [⟨3, 0, ⟨#[]⟩, []⟩]) ns 1000).1, (vmRunV (p ++ q ++ [⟨3, 0, ⟨#[]⟩, []⟩]) ns 1000).2.1) = orB ((machV ns p [] 1000).v + (machV ns q [] 1000).v) (okB ((machV ns p [] 1000).v + (machV ns q [] 1000).v)) := by
  obtain ⟨hs, -, wp⟩ := okV_way hp
  obtain ⟨hs', -, wq⟩ := okV_way hq
  have a := mach_app ns wp [] (q ++ [⟨3, 0, ⟨#[]⟩, []⟩]) _ 0 [] 1000 (Nat.le_refl _) (at_first wp)
  rw [List.drop_zero, List.append_nil, if_neg (by simpa using h1), List.nil_append, ← List.append_assoc] at a
  have sf := (mach_sok ns hp (fu := 1000) (by decide)).2.2.1
  generalize hn : (machV ns p [] 1000).v = n at *
  generalize hf : (machV ns p [] 1000).f = f1 at *
  have b := mach_app ns wq [n] [⟨3, 0, ⟨#[]⟩, []⟩] _ 0 [] f1 (Nat.le_refl _) (at_first wq)
  rw [List.drop_zero, List.append_nil] at b
  have e : vmRunV (p ++ q ++ [⟨3, 0, ⟨#[]⟩, []⟩]) ns 1000 = ((machV ns (p ++ q ++ [⟨3, 0, ⟨#[]⟩, []⟩]) [] 1000).v, (machV ns (p ++ q ++ [⟨3, 0, ⟨#[]⟩, []⟩]) [] 1000).c, 1000 - (machV ns (p ++ q ++ [⟨3, 0, ⟨#[]⟩, []⟩]) [] 1000).f) := by
    unfold vmRunV; rw [if_pos ⟨hb, by decide, by decide⟩]
  rw [e, a, b]
  by_cases c : (machV ns q [] f1).c = 1
  · left; rw [if_pos (by rw [c]; decide)]; exact c
  have m := mach_mono ns _ q [] (Nat.le_refl _) f1 1000 sf.2 c
  have hv : (machV ns q [] 1000).v = (machV ns q [] f1).v := by rw [m]
  have hc : (machV ns q [] f1).c = 0 := by rw [m] at h2; exact h2
  rw [if_neg (by simpa using hc), hv]
  generalize (machV ns q [] f1).v = x at *
  generalize (machV ns q [] f1).f = f2 at *
  have cp : costP ⟨3, 0, ⟨#[]⟩, []⟩ = 1 := rfl
  by_cases cf : f2 < 1
  · left; rw [mach_lack ns (by rw [cp]; exact cf)]
  right
  have hd : doR ns 3 0 ⟨#[]⟩ [] ([n, x].drop ([n, x].length - (takesV 3).1.toNat)) = orB (n + x) (okB (n + x)) := rfl
  by_cases ho : okB (n + x) = true
  · rw [ho] at hd ⊢
    rw [List.singleton_append, mach_do ns (by rw [cp]; exact cf) (by decide) (by decide) (by show (doR ns 3 0 ⟨#[]⟩ [] ([n, x].drop ([n, x].length - (takesV 3).1.toNat))).2 = 0; rw [hd]; rfl), mach_nil]
    show ((([n, x].take ([n, x].length - (takesV 3).1.toNat) ++ [(doR ns 3 0 ⟨#[]⟩ [] ([n, x].drop ([n, x].length - (takesV 3).1.toNat))).1]).getD 0 0), (0 : Int)) = _
    rw [hd]; rfl
  · have ho' : okB (n + x) = false := by simpa using ho
    rw [ho'] at hd ⊢
    rw [List.singleton_append, mach_bad ns (by rw [cp]; exact cf) (by decide) (by decide) (by show (doR ns 3 0 ⟨#[]⟩ [] ([n, x].drop ([n, x].length - (takesV 3).1.toNat))).2 ≠ 0; rw [hd]; simp [orB])]
    show ((0 : Int), (doR ns 3 0 ⟨#[]⟩ [] ([n, x].drop ([n, x].length - (takesV 3).1.toNat))).2) = _
    rw [hd]; rfl
theorem runV_in2 (q : Nat) : ∀ (ds : List Pl) (i : Nat) (hs hs' : List Int), InV hs → runV q i ds hs = some hs' → InV hs'
  | [], i, hs, hs', hi, h => by rw [runV] at h; cases h; exact hi
  | d :: r, i, hs, hs', hi, h => by
    rw [runV] at h
    obtain ⟨h1, hst, hr⟩ := Option.bind_eq_some_iff.1 h
    exact runV_in2 q r (i + 1) h1 hs' (step_in hi hst) hr
theorem fold_le (n : Int) : ∀ (l : List Int) (a : Int), a ≤ n → (∀ x ∈ l, x ≤ n) → l.foldl max a ≤ n
  | [], a, h, _ => h
  | x :: l, a, h, hl => by
    rw [List.foldl_cons]
    exact fold_le n l (max a x) (by have := hl x (by simp); omega) (fun y hy => hl y (by simp [hy]))
theorem fold_ge : ∀ (l : List Int) (a : Int), a ≤ l.foldl max a ∧ ∀ x ∈ l, x ≤ l.foldl max a
  | [], a => ⟨Int.le_refl _, by simp⟩
  | x :: l, a => by
    rw [List.foldl_cons]
    obtain ⟨h1, h2⟩ := fold_ge l (max a x)
    refine ⟨by omega, fun y hy => ?_⟩
    rcases List.mem_cons.1 hy with rfl | hy
    · omega
    · exact h2 y hy
theorem deep_in {ds : List Pl} (h : OkV ds) : 1 ≤ deepV ds ∧ deepV ds ≤ 12 := by
  obtain ⟨hs, e, w⟩ := okV_way h
  unfold deepV
  rw [if_pos h, e]
  show 1 ≤ mxV hs ∧ mxV hs ≤ 12
  have hin : InV hs := by
    unfold heightsV at e
    obtain ⟨h1, hr, h2⟩ := Option.bind_eq_some_iff.1 e
    split at h2
    · cases h2; exact runV_in2 _ _ _ _ _ (inV_first _) hr
    · cases h2
  refine ⟨?_, fold_le 12 hs 0 (by decide) (fun x hx => (hin x hx).2)⟩
  have hl := w.last
  have hk : ds.length < hs.length := by rw [w.len]; omega
  have e2 : hs.getD ds.length 0 = hs[ds.length] := by simp [hk]
  rw [e2] at hl
  have := (fold_ge hs 0).2 _ (List.getElem_mem hk)
  rw [hl] at this
  exact this
end Go.Proofs.YtjphjnopdlfplaaGreatDoor

namespace Go.Proofs.YtjphjnopdlfplaaGreatDoor
open Go.RowKit
set_option linter.unusedVariables false
set_option linter.unusedSimpArgs false

/-- Where a run stands: at a place, with so much at hand, so much fuel used up. -/
structure RunAt (ds : List Pl) (hs : List Int) (ns : List (ByteArray × Int)) (fu : Int) (i : Nat) (st : List Int) (u : Int) : Prop where
  pos : AtV ds hs i st
  same : machV ns ds [] fu = machV ns (ds.drop i) st (fu - u)
theorem run_first {ds : List Pl} {hs : List Int} {ns : List (ByteArray × Int)} {fu : Int} (h : WayV ds hs) : RunAt ds hs ns fu 0 [] 0 := ⟨at_first h, by rw [List.drop_zero, Int.sub_zero]⟩
section
variable {ds : List Pl} {hs : List Int} {ns : List (ByteArray × Int)} {fu : Int} {i : Nat} {st : List Int} {u : Int}
theorem run_end (h : WayV ds hs) (r : RunAt ds hs ns fu i st u) (hi : i = ds.length) : st.length = 1 ∧ machV ns ds [] fu = ⟨st.getD 0 0, 0, fu - u⟩ := by
  subst hi
  have e := r.pos.2.1
  rw [h.last] at e
  refine ⟨by omega, ?_⟩
  rw [r.same, List.drop_length, mach_nil]
theorem run_size (h : WayV ds hs) (hin : InV hs) (r : RunAt ds hs ns fu i st u) : st.length ≤ 12 := by
  have e := r.pos.2.1
  have := (inV_getD hin i).2
  omega
theorem run_lack (r : RunAt ds hs ns fu i st u) (hi : i < ds.length) (hc : fu < u + costP ds[i]) : machV ns ds [] fu = ⟨0, 1, fu - u⟩ := by
  rw [r.same, List.drop_eq_getElem_cons hi]
  exact mach_lack ns (by omega)
theorem run_skip (h : WayV ds hs) (r : RunAt ds hs ns fu i st u) (hi : i < ds.length) (hc : u + costP ds[i] ≤ fu) (ho : ds[i].op = 11) :
    0 ≤ ds[i].num ∧ i + 1 + ds[i].num.toNat ≤ ds.length ∧ RunAt ds hs ns fu (i + 1 + ds[i].num.toNat) st (u + costP ds[i]) := by
  have f := (at_nums h r.pos hi).1
  have hj := holds_jump f.1.2 (.inr ho)
  refine ⟨hj.2, hj.1, at_skip h r.pos hi ho, ?_⟩
  rw [r.same, List.drop_eq_getElem_cons hi, mach_skip ns (by omega) ho, List.drop_drop]
  congr 1
  omega
theorem run_test (h : WayV ds hs) (r : RunAt ds hs ns fu i st u) (hi : i < ds.length) (hc : u + costP ds[i] ≤ fu) (ho : ds[i].op = 9) :
    2 ≤ st.length ∧ (0 ≤ ds[i].num ∧ i + 1 + ds[i].num.toNat ≤ ds.length) ∧
    ((st.drop (st.length - 2)).getD 0 0 < (st.drop (st.length - 2)).getD 1 0 → RunAt ds hs ns fu (i + 1) (st.take (st.length - 2)) (u + costP ds[i])) ∧
    (¬ (st.drop (st.length - 2)).getD 0 0 < (st.drop (st.length - 2)).getD 1 0 → RunAt ds hs ns fu (i + 1 + ds[i].num.toNat) (st.take (st.length - 2)) (u + costP ds[i])) := by
  have f := (at_nums h r.pos hi).1
  have hj := holds_jump f.1.2 (.inl ho)
  obtain ⟨a, b, c⟩ := at_test h r.pos hi ho
  refine ⟨a, ⟨hj.2, hj.1⟩, fun hl => ⟨b, ?_⟩, fun hl => ⟨c, ?_⟩⟩
  · rw [r.same, List.drop_eq_getElem_cons hi, mach_less ns (by omega) ho hl]
    congr 1
    omega
  · rw [r.same, List.drop_eq_getElem_cons hi, mach_more ns (by omega) ho hl, List.drop_drop]
    congr 1
    omega
theorem run_do (h : WayV ds hs) (r : RunAt ds hs ns fu i st u) (hi : i < ds.length) (hc : u + costP ds[i] ≤ fu) (h9 : ds[i].op ≠ 9) (h11 : ds[i].op ≠ 11) :
    (1 ≤ ds[i].op ∧ ds[i].op ≤ 10) ∧ (∃ k : Nat, (takesV ds[i].op).1 = (k : Int) ∧ kidsN ds[i].op = (k : Int) ∧ k ≤ st.length ∧ HoldsN ds[i].op ds[i].num ds[i].nm ds[i].ms ∧ (∀ x ∈ st.drop (st.length - k), okB x = true) ∧
      ((doR ns ds[i].op ds[i].num ds[i].nm ds[i].ms (st.drop (st.length - k))).2 ≠ 0 → machV ns ds [] fu = ⟨0, (doR ns ds[i].op ds[i].num ds[i].nm ds[i].ms (st.drop (st.length - k))).2, fu - (u + costP ds[i])⟩) ∧
      ((doR ns ds[i].op ds[i].num ds[i].nm ds[i].ms (st.drop (st.length - k))).2 = 0 → RunAt ds hs ns fu (i + 1) (st.take (st.length - k) ++ [(doR ns ds[i].op ds[i].num ds[i].nm ds[i].ms (st.drop (st.length - k))).1]) (u + costP ds[i]))) := by
  have f := (at_nums h r.pos hi).1
  obtain ⟨p1, p2, p3⟩ := takes_puts f.1.1 h9 h11
  obtain ⟨k, hk⟩ : ∃ k : Nat, (takesV ds[i].op).1 = (k : Int) := ⟨(takesV ds[i].op).1.toNat, by have := f.1.1; omega⟩
  have hkn : (takesV ds[i].op).1.toNat = k := by omega
  have hd := at_do (v := (doR ns ds[i].op ds[i].num ds[i].nm ds[i].ms (st.drop (st.length - k))).1) h r.pos hi h9 h11
  rw [hkn] at hd
  obtain ⟨q1, q2, q3, q4⟩ := hd
  refine ⟨p2, k, hk, by rw [← p3, hk], q1, q2, q3, fun hb => ?_, fun hb => ⟨q4 (doR_ok q2 q3).1, ?_⟩⟩
  · rw [r.same, List.drop_eq_getElem_cons hi, mach_bad ns (by omega) h11 h9 (by rw [hkn]; exact hb), hkn]
    simp only [Said.mk.injEq, true_and]
    omega
  · rw [r.same, List.drop_eq_getElem_cons hi, mach_do ns (by omega) h11 h9 (by rw [hkn]; exact hb), hkn]
    congr 1
    omega
end
theorem costP_in (d : Pl) : 0 ≤ costP d ∧ costP d ≤ 1 + d.ms.length := by
  unfold costP
  split <;> omega
/-- A row of one's own that is cut off at a place. -/
theorem owns_cut {w : World} {base : Nat} {e : TypeId} {a : Option Addr} {n c r : Nat} {l : List Value} (h : w.ownsRow base e 1 (.slice a n c) n l) (hr : r ≤ n) (ha : a ≠ none) : w.ownsRow base e 1 (.slice a r c) r (l.take r) := by
  obtain ⟨h1, h2 | ⟨g, cap, cur, hv, k1, k2, k3, k4, k5, k6⟩⟩ := h
  · exact absurd (by simpa using congrArg (fun v => match v with | Value.slice a _ _ => a | _ => none) h2.1) ha
  · obtain ⟨rfl, -, rfl⟩ : a = some ⟨g, 0, none⟩ ∧ n = n ∧ c = cap := by simpa using hv
    refine ⟨by rw [List.length_take]; omega, .inr ⟨g, c, cur, rfl, k1, k2, by omega, k4, k5, ?_⟩⟩
    rw [← k6, List.take_take]
    congr 1
    omega
/-- What is behind a place in a row of one's own. -/
theorem ints_tail {N : Nat → Prop} {w : World} {g n c r k : Nat} {st : List Int} {ad : Option Addr} {base : Nat} (h : w.ownsRow base 3 1 (.slice (some ⟨g, 0, none⟩) n c) n (st.map (Value.int .i64))) (hn : n = r + k) (hN : N g) (had : k = 0 ∨ ad = some ⟨g, r, none⟩) : IntsN N w ad k (st.drop r) := by
  have hl : n = st.length := by have := h.1; simpa using this.symm
  refine ⟨by rw [List.length_drop]; omega, ?_⟩
  rcases had with h0 | rfl
  · exact .inl h0
  · rcases Nat.eq_zero_or_pos k with h0 | h0
    · exact .inl h0
    · refine .inr ⟨g, r, rfl, hN, ?_, fun i hi => ?_⟩
      · obtain ⟨-, h2 | ⟨g', cap, cur, hv, k1, k2, -⟩⟩ := h
        · cases h2.1
        · obtain ⟨rfl, -, -⟩ : g = g' ∧ n = n ∧ c = cap := by simpa using hv
          exact (Array.getElem?_eq_some_iff.1 k2).1
      · rw [h.cellAt (r + i) (by omega)]
        have hi' : r + i < st.length := by omega
        simp [hi']
theorem own_formV {w : World} {base : Nat} {e : TypeId} {sz n : Nat} {v : Value} {l : List Value} (h : w.ownsRow base e sz v n l) (hv : v.ownBlock ≠ none) : ∃ g c, v = .slice (some ⟨g, 0, none⟩) n c := by
  obtain ⟨-, h2 | ⟨g, cap, cur, hv2, -⟩⟩ := h
  · rw [h2.1] at hv; exact absurd rfl hv
  · exact ⟨g, cap, hv2⟩
end Go.Proofs.YtjphjnopdlfplaaGreatDoor
