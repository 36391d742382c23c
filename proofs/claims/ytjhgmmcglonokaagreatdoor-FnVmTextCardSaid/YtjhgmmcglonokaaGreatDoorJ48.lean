/-
  More fuel changes nothing but that there is enough; only names count; the two of a rule turned: plain facts, no law is proved here.
  What a program comes to: the mathematical answer, and plain facts on it; no law is proved here.
  A program of a rule does what the rule says, and is ok: plain facts, no law is proved here.
  What a program comes to with more fuel, with less, and behind another one: plain facts, no law is proved here.
  One place of a program after the other: where a run stands, and what each place makes of that; no law is proved here.
-/
import Derived.Test.YtjhgmmcglonokaaGreatDoorJ33
import Derived.Test.YtjhgmmcglonokaaGreatDoorNamesMath
import Derived.Test.YtjhgmmcglonokaaGreatDoorJ32
import Derived.Test.YtjhgmmcglonokaaGreatDoorJ20
import Derived.Test.YtjhgmmcglonokaaGreatDoorJ25
namespace Go.Proofs.YtjhgmmcglonokaaGreatDoor
open Go.RowKit
set_option linter.unusedVariables false
set_option linter.unusedSimpArgs false

end Go.Proofs.YtjhgmmcglonokaaGreatDoor

namespace Go.Proofs.YtjhgmmcglonokaaGreatDoor
open Go.RowKit
set_option linter.unusedVariables false
set_option linter.unusedSimpArgs false

/-- How much fuel a place takes. -/
def costP (d : Pl) : Int := if d.op = 11 then 0 else 1 + d.ms.length
/-- What a program comes to from a place on, with so much at hand, and so much fuel. -/
def machV (ns : List (ByteArray × Int)) : List Pl → List Int → Int → Said
  | [], st, fu => ⟨st.getD 0 0, 0, fu⟩
  | d :: r, st, fu =>
    if fu < costP d then ⟨0, 1, fu⟩
    else if d.op = 11 then machV ns (r.drop d.num.toNat) st (fu - costP d)
    else if d.op = 9 then
      (if (st.drop (st.length - 2)).getD 0 0 < (st.drop (st.length - 2)).getD 1 0 then machV ns r (st.take (st.length - 2)) (fu - costP d)
       else machV ns (r.drop d.num.toNat) (st.take (st.length - 2)) (fu - costP d))
    else if (doR ns d.op d.num d.nm d.ms (st.drop (st.length - (takesV d.op).1.toNat))).2 ≠ 0 then ⟨0, (doR ns d.op d.num d.nm d.ms (st.drop (st.length - (takesV d.op).1.toNat))).2, fu - costP d⟩
    else machV ns r (st.take (st.length - (takesV d.op).1.toNat) ++ [(doR ns d.op d.num d.nm d.ms (st.drop (st.length - (takesV d.op).1.toNat))).1]) (fu - costP d)
termination_by l => l.length
decreasing_by all_goals (simp only [List.length_drop, List.length_cons]; omega)
theorem mach_nil (ns : List (ByteArray × Int)) (st : List Int) (fu : Int) : machV ns [] st fu = ⟨st.getD 0 0, 0, fu⟩ := by rw [machV]
theorem mach_lack (ns : List (ByteArray × Int)) {d : Pl} {r : List Pl} {st : List Int} {fu : Int} (h : fu < costP d) : machV ns (d :: r) st fu = ⟨0, 1, fu⟩ := by rw [machV, if_pos h]
theorem mach_skip (ns : List (ByteArray × Int)) {d : Pl} {r : List Pl} {st : List Int} {fu : Int} (h : ¬ fu < costP d) (ho : d.op = 11) : machV ns (d :: r) st fu = machV ns (r.drop d.num.toNat) st (fu - costP d) := by rw [machV, if_neg h, if_pos ho]
theorem mach_less (ns : List (ByteArray × Int)) {d : Pl} {r : List Pl} {st : List Int} {fu : Int} (h : ¬ fu < costP d) (ho : d.op = 9) (hl : (st.drop (st.length - 2)).getD 0 0 < (st.drop (st.length - 2)).getD 1 0) : machV ns (d :: r) st fu = machV ns r (st.take (st.length - 2)) (fu - costP d) := by rw [machV, if_neg h, if_neg (by omega), if_pos ho, if_pos hl]
theorem mach_more (ns : List (ByteArray × Int)) {d : Pl} {r : List Pl} {st : List Int} {fu : Int} (h : ¬ fu < costP d) (ho : d.op = 9) (hl : ¬ (st.drop (st.length - 2)).getD 0 0 < (st.drop (st.length - 2)).getD 1 0) : machV ns (d :: r) st fu = machV ns (r.drop d.num.toNat) (st.take (st.length - 2)) (fu - costP d) := by rw [machV, if_neg h, if_neg (by omega), if_pos ho, if_neg hl]
theorem mach_bad (ns : List (ByteArray × Int)) {d : Pl} {r : List Pl} {st : List Int} {fu : Int} (h : ¬ fu < costP d) (h11 : d.op ≠ 11) (h9 : d.op ≠ 9) (hb : (doR ns d.op d.num d.nm d.ms (st.drop (st.length - (takesV d.op).1.toNat))).2 ≠ 0) : machV ns (d :: r) st fu = ⟨0, (doR ns d.op d.num d.nm d.ms (st.drop (st.length - (takesV d.op).1.toNat))).2, fu - costP d⟩ := by rw [machV, if_neg h, if_neg h11, if_neg h9, if_pos hb]
theorem mach_do (ns : List (ByteArray × Int)) {d : Pl} {r : List Pl} {st : List Int} {fu : Int} (h : ¬ fu < costP d) (h11 : d.op ≠ 11) (h9 : d.op ≠ 9) (hb : (doR ns d.op d.num d.nm d.ms (st.drop (st.length - (takesV d.op).1.toNat))).2 = 0) : machV ns (d :: r) st fu = machV ns r (st.take (st.length - (takesV d.op).1.toNat) ++ [(doR ns d.op d.num d.nm d.ms (st.drop (st.length - (takesV d.op).1.toNat))).1]) (fu - costP d) := by rw [machV, if_neg h, if_neg h11, if_neg h9, if_neg (by simpa using hb)]
/-- Heights in the end. -/
theorem getD_set_ne {hs : List Int} {i j : Nat} {n : Int} (h : j ≠ i) : (hs.set i n).getD j 0 = hs.getD j 0 := by
  simp only [List.getD, List.getElem?_set_ne (Ne.symm h)]
theorem getD_set_eq {hs : List Int} {i : Nat} {n : Int} (h : i < hs.length) : (hs.set i n).getD i 0 = n := by
  simp [List.getD, h]
theorem mark_keep {hs : List Int} {i j : Nat} {n : Int} (h : 0 ≤ hs.getD j 0) : (markV hs i n).1.getD j 0 = hs.getD j 0 := by
  unfold markV
  split
  · rfl
  · rename_i c
    exact getD_set_ne (fun e => c (by rw [← e]; exact h))
theorem mark_other {hs : List Int} {i j : Nat} {n : Int} (h : j ≠ i) : (markV hs i n).1.getD j 0 = hs.getD j 0 := by
  unfold markV
  split
  · rfl
  · exact getD_set_ne h
theorem mark_at {hs : List Int} {i : Nat} {n : Int} (h : (markV hs i n).2 = true) (hi : i < hs.length) : (markV hs i n).1.getD i 0 = n := by
  unfold markV at h ⊢
  split
  · rename_i c
    rw [if_pos c] at h
    simpa using h
  · exact getD_set_eq hi
theorem marks_keep {hs : List Int} {i j : Nat} {d : Pl} {n : Int} (h : 0 ≤ hs.getD j 0) : (marksV i d n hs).1.getD j 0 = hs.getD j 0 := by
  unfold marksV
  split
  · split
    · rw [mark_keep (by rw [mark_keep h]; exact h), mark_keep h]
    · exact mark_keep h
  split
  · exact mark_keep h
  · exact mark_keep h
theorem marks_low {hs : List Int} {i j : Nat} {d : Pl} {n : Int} (h : j ≤ i) : (marksV i d n hs).1.getD j 0 = hs.getD j 0 := by
  unfold marksV
  split
  · split
    · rw [mark_other (by omega), mark_other (by omega)]
    · exact mark_other (by omega)
  split
  · exact mark_other (by omega)
  · exact mark_other (by omega)
/-- What holds in the end of a place that is reached. -/
def FinV (q : Nat) (hs : List Int) (i : Nat) (d : Pl) : Prop :=
  (0 ≤ (takesV d.op).1 ∧ HoldsV d.op d.num ((q : Int) - i - 1) d.nm d.ms) ∧ (0 ≤ hs.getD i 0 → (takesV d.op).1 ≤ hs.getD i 0 ∧ leftV i d hs ≤ 12 ∧ (d.op = 11 → hs.getD (i + 1 + d.num.toNat) 0 = leftV i d hs) ∧ (d.op = 9 → hs.getD (i + 1) 0 = leftV i d hs ∧ hs.getD (i + 1 + d.num.toNat) 0 = leftV i d hs) ∧ (d.op ≠ 9 → d.op ≠ 11 → hs.getD (i + 1) 0 = leftV i d hs))
theorem step_low {q i : Nat} {d : Pl} {hs hs' : List Int} (h : stepV q i d hs = some hs') {j : Nat} (hj : j ≤ i) : hs'.getD j 0 = hs.getD j 0 := by
  unfold stepV at h
  split at h
  · cases h
  split at h
  · cases h; rfl
  split at h
  · cases h
  split at h
  · cases h; exact marks_low hj
  · cases h
theorem step_keep {q i : Nat} {d : Pl} {hs hs' : List Int} (h : stepV q i d hs = some hs') {j : Nat} (hj : 0 ≤ hs.getD j 0) : hs'.getD j 0 = hs.getD j 0 := by
  unfold stepV at h
  split at h
  · cases h
  split at h
  · cases h; rfl
  split at h
  · cases h
  split at h
  · cases h; exact marks_keep hj
  · cases h
theorem run_facts (q : Nat) : ∀ (ds : List Pl) (i : Nat) (hs hs' : List Int), hs.length = q + 1 → i + ds.length = q → runV q i ds hs = some hs' →
    (∀ j, 0 ≤ hs.getD j 0 → hs'.getD j 0 = hs.getD j 0) ∧ (∀ j, j ≤ i → hs'.getD j 0 = hs.getD j 0) ∧ ∀ k, (h : k < ds.length) → FinV q hs' (i + k) ds[k]
  | [], i, hs, hs', hl, hq, h => by
    rw [runV] at h; cases h
    exact ⟨fun _ _ => rfl, fun _ _ => rfl, fun k hk => by simp at hk⟩
  | d :: r, i, hs, hs', hl, hq, h => by
    rw [runV] at h
    obtain ⟨h1, hst, hr⟩ := Option.bind_eq_some_iff.1 h
    simp only [List.length_cons] at hq
    have hl1 := step_len hst
    obtain ⟨a, b, c⟩ := run_facts q r (i + 1) h1 hs' (by omega) (by omega) hr
    refine ⟨fun j hj => ?_, fun j hj => ?_, fun k hk => ?_⟩
    · have e := step_keep hst hj
      rw [a j (by rw [e]; exact hj), e]
    · rw [b j (by omega), step_low hst hj]
    · cases k with
      | succ k =>
        have := c k (by simpa using hk)
        simpa [Nat.add_assoc, Nat.add_comm 1 k] using this
      | zero =>
        simp only [List.getElem_cons_zero, Nat.add_zero]
        have ei : hs'.getD i 0 = hs.getD i 0 := by rw [b i (by omega), step_low hst (Nat.le_refl _)]
        have el : leftV i d hs' = leftV i d hs := by unfold leftV; rw [ei]
        have tb := takes_bd d.op
        have h0 := hst
        unfold stepV at h0
        split at h0
        · cases h0
        rename_i c1
        have hv : HoldsV d.op d.num ((q : Int) - i - 1) d.nm d.ms := Decidable.not_not.1 fun x => c1 (.inr x)
        refine ⟨⟨by omega, hv⟩, fun hh => ?_⟩
        rw [ei] at hh ⊢
        rw [el]
        rw [if_neg (by omega)] at h0
        split at h0
        · cases h0
        rename_i c3
        split at h0
        · rename_i c4
          cases h0
          have hlv : leftV i d hs = hs.getD i 0 - (takesV d.op).1 + (takesV d.op).2 := rfl
          have l0 : 0 ≤ leftV i d hs := by omega
          refine ⟨by omega, by omega, fun ho => ?_, fun ho => ?_, fun h9 h11 => ?_⟩
          · have hk : d.num.toNat < q - i := by
              have hv2 := hv
              unfold HoldsV at hv2
              rw [if_pos (.inr ho)] at hv2
              omega
            have e : (marksV i d (leftV i d hs) hs).1.getD (i + 1 + d.num.toNat) 0 = leftV i d hs := by
              unfold marksV at c4 ⊢
              rw [if_neg (by omega), if_pos ho] at c4 ⊢
              exact mark_at c4 (by omega)
            rw [a _ (by rw [e]; exact l0), e]
          · have hk : d.num.toNat < q - i := by
              have hv2 := hv
              unfold HoldsV at hv2
              rw [if_pos (.inl ho)] at hv2
              omega
            have e : (marksV i d (leftV i d hs) hs).1.getD (i + 1) 0 = leftV i d hs ∧ (marksV i d (leftV i d hs) hs).1.getD (i + 1 + d.num.toNat) 0 = leftV i d hs := by
              unfold marksV at c4 ⊢
              rw [if_pos ho] at c4 ⊢
              by_cases cm : (markV hs (i + 1) (leftV i d hs)).2 = true
              · rw [if_pos cm] at c4 ⊢
                have e1 := mark_at cm (by omega)
                exact ⟨by rw [mark_keep (by rw [e1]; exact l0), e1], mark_at c4 (by rw [markV_len]; omega)⟩
              · rw [if_neg cm] at c4
                exact absurd c4 cm
            exact ⟨by rw [a _ (by rw [e.1]; exact l0), e.1], by rw [a _ (by rw [e.2]; exact l0), e.2]⟩
          · have e : (marksV i d (leftV i d hs) hs).1.getD (i + 1) 0 = leftV i d hs := by
              unfold marksV at c4 ⊢
              rw [if_neg h9, if_neg h11] at c4 ⊢
              exact mark_at c4 (by omega)
            rw [a _ (by rw [e]; exact l0), e]
        · cases h0
theorem runV_len (q : Nat) : ∀ (ds : List Pl) (i : Nat) (hs hs' : List Int), runV q i ds hs = some hs' → hs'.length = hs.length
  | [], i, hs, hs', h => by rw [runV] at h; cases h; rfl
  | d :: r, i, hs, hs', h => by
    rw [runV] at h
    obtain ⟨h1, hst, hr⟩ := Option.bind_eq_some_iff.1 h
    rw [runV_len q r (i + 1) h1 hs' hr, step_len hst]
/-- A program whose ways fit together, with how much is at hand at each place. -/
structure WayV (ds : List Pl) (hs : List Int) : Prop where
  first : hs.getD 0 0 = 0
  last : hs.getD ds.length 0 = 1
  len : hs.length = ds.length + 1
  fin : ∀ k, (h : k < ds.length) → FinV ds.length hs k ds[k]
theorem way_of {ds : List Pl} {hs : List Int} (h : heightsV ds = some hs) : WayV ds hs := by
  unfold heightsV at h
  obtain ⟨h1, hr, h2⟩ := Option.bind_eq_some_iff.1 h
  split at h2
  · cases h2
    rename_i hl
    obtain ⟨a, b, c⟩ := run_facts ds.length ds 0 _ _ (by simp [firstV]) (by omega) hr
    refine ⟨by rw [b 0 (Nat.le_refl _)]; rfl, hl, by rw [runV_len _ _ _ _ _ hr]; simp [firstV], fun k hk => by have := c k hk; rwa [Nat.zero_add] at this⟩
  · cases h2
/-- Where a program is: so much is at hand as its ways say, and all of it amounts. -/
def AtV (ds : List Pl) (hs : List Int) (i : Nat) (st : List Int) : Prop := i ≤ ds.length ∧ hs.getD i 0 = st.length ∧ ∀ x ∈ st, okB x = true
theorem at_first {ds : List Pl} {hs : List Int} (h : WayV ds hs) : AtV ds hs 0 [] := ⟨Nat.zero_le _, by rw [h.first]; rfl, by simp⟩
theorem at_nums {ds : List Pl} {hs : List Int} {i : Nat} {st : List Int} (h : WayV ds hs) (ha : AtV ds hs i st) (hi : i < ds.length) : FinV ds.length hs i ds[i] ∧ (takesV ds[i].op).1.toNat ≤ st.length ∧ leftV i ds[i] hs = (st.length - (takesV ds[i].op).1.toNat : Nat) + (takesV ds[i].op).2 := by
  have f := h.fin i hi
  have g := f.2 (by rw [ha.2.1]; exact Int.natCast_nonneg _)
  have e := ha.2.1
  have h1 := f.1.1
  have h2 := g.1
  refine ⟨f, by omega, ?_⟩
  unfold leftV
  rw [e]
  omega
theorem holds_jump {q i : Nat} {d : Pl} (h : HoldsV d.op d.num ((q : Int) - i - 1) d.nm d.ms) (ho : d.op = 9 ∨ d.op = 11) : i + 1 + d.num.toNat ≤ q ∧ 0 ≤ d.num := by
  unfold HoldsV at h
  rw [if_pos ho] at h
  omega
theorem at_skip {ds : List Pl} {hs : List Int} {i : Nat} {st : List Int} (h : WayV ds hs) (ha : AtV ds hs i st) (hi : i < ds.length) (ho : ds[i].op = 11) : AtV ds hs (i + 1 + ds[i].num.toNat) st := by
  obtain ⟨f, k1, k2⟩ := at_nums h ha hi
  have g := f.2 (by rw [ha.2.1]; exact Int.natCast_nonneg _)
  refine ⟨(holds_jump f.1.2 (.inr ho)).1, ?_, ha.2.2⟩
  rw [g.2.2.1 ho, k2, ho]
  simp [takesV]
theorem at_test {ds : List Pl} {hs : List Int} {i : Nat} {st : List Int} (h : WayV ds hs) (ha : AtV ds hs i st) (hi : i < ds.length) (ho : ds[i].op = 9) : 2 ≤ st.length ∧ AtV ds hs (i + 1) (st.take (st.length - 2)) ∧ AtV ds hs (i + 1 + ds[i].num.toNat) (st.take (st.length - 2)) := by
  obtain ⟨f, k1, k2⟩ := at_nums h ha hi
  have g := f.2 (by rw [ha.2.1]; exact Int.natCast_nonneg _)
  have e2 : (takesV ds[i].op) = (2, 0) := by rw [ho]; rfl
  rw [e2] at k1 k2
  have hl : leftV i ds[i] hs = ((st.take (st.length - 2)).length : Int) := by
    rw [k2, List.length_take]
    show ((st.length - (2 : Int).toNat : Nat) : Int) + 0 = _
    have : (2 : Int).toNat = 2 := rfl
    omega
  have k1' : 2 ≤ st.length := k1
  exact ⟨k1', ⟨by omega, by rw [(g.2.2.2.1 ho).1, hl], fun x hx => ha.2.2 x (List.mem_of_mem_take hx)⟩, ⟨(holds_jump f.1.2 (.inl ho)).1, by rw [(g.2.2.2.1 ho).2, hl], fun x hx => ha.2.2 x (List.mem_of_mem_take hx)⟩⟩
theorem takes_puts {o : Int} (h : 0 ≤ (takesV o).1) (h9 : o ≠ 9) (h11 : o ≠ 11) : (takesV o).2 = 1 ∧ (1 ≤ o ∧ o ≤ 10) ∧ ((takesV o).1 = kidsN o) := by
  have ho : 1 ≤ o ∧ o ≤ 11 := Decidable.not_not.1 fun c => by rw [takes_bad c] at h; simp at h
  obtain ⟨a, b⟩ := ho
  have : o = 1 ∨ o = 2 ∨ o = 3 ∨ o = 4 ∨ o = 5 ∨ o = 6 ∨ o = 7 ∨ o = 8 ∨ o = 10 := by omega
  rcases this with rfl | rfl | rfl | rfl | rfl | rfl | rfl | rfl | rfl <;> exact ⟨rfl, by omega, rfl⟩
theorem at_do {ds : List Pl} {hs : List Int} {i : Nat} {st : List Int} {v : Int} (h : WayV ds hs) (ha : AtV ds hs i st) (hi : i < ds.length) (h9 : ds[i].op ≠ 9) (h11 : ds[i].op ≠ 11) :
    (takesV ds[i].op).1.toNat ≤ st.length ∧ HoldsN ds[i].op ds[i].num ds[i].nm ds[i].ms ∧ (∀ x ∈ st.drop (st.length - (takesV ds[i].op).1.toNat), okB x = true) ∧ (okB v = true → AtV ds hs (i + 1) (st.take (st.length - (takesV ds[i].op).1.toNat) ++ [v])) := by
  obtain ⟨f, k1, k2⟩ := at_nums h ha hi
  have g := f.2 (by rw [ha.2.1]; exact Int.natCast_nonneg _)
  have hv := f.1.2
  unfold HoldsV at hv
  rw [if_neg (by omega)] at hv
  refine ⟨k1, hv, fun x hx => ha.2.2 x (List.mem_of_mem_drop hx), fun hv => ⟨by omega, ?_, fun x hx => ?_⟩⟩
  · rw [g.2.2.2.2 h9 h11, k2, (takes_puts f.1.1 h9 h11).1]
    simp only [List.length_append, List.length_take, List.length_cons, List.length_nil]
    omega
  · rcases List.mem_append.1 hx with h1 | h1
    · exact ha.2.2 x (List.mem_of_mem_take h1)
    · simp at h1; rw [h1]; exact hv
/-- A program's answer is an amount, or a code; fuel is left. -/
theorem mach_ok (ns : List (ByteArray × Int)) {ds : List Pl} {hs : List Int} (h : WayV ds hs) : ∀ (k i : Nat) (st : List Int) (fu : Int), ds.length - i ≤ k → AtV ds hs i st → 0 ≤ fu → SOk fu (machV ns (ds.drop i) st fu) := by
  intro k
  induction k with
  | zero =>
    intro i st fu hk ha h0
    have hi : i = ds.length := by have := ha.1; omega
    subst hi
    rw [List.drop_length, mach_nil]
    have hl := ha.2.1
    rw [h.last] at hl
    obtain ⟨x, rfl⟩ : ∃ x, st = [x] := by
      match st, hl with
      | [x], _ => exact ⟨x, rfl⟩
      | [], hl => simp at hl
      | x :: y :: r, hl => simp at hl; omega
    exact ⟨ha.2.2 x (by simp), by simp, ⟨h0, Int.le_refl _⟩, fun e => absurd rfl e⟩
  | succ k ih =>
    intro i st fu hk ha h0
    rcases Nat.lt_or_ge i ds.length with hi | hi
    rotate_left
    · exact ih i st fu (by omega) ha h0
    rw [List.drop_eq_getElem_cons hi]
    have hc0 : 0 ≤ costP ds[i] := by unfold costP; split <;> omega
    by_cases hc : fu < costP ds[i]
    · rw [mach_lack ns hc]; exact ⟨okB0, by simp, ⟨h0, Int.le_refl _⟩, fun _ => rfl⟩
    have up : ∀ {r : Said}, SOk (fu - costP ds[i]) r → SOk fu r := fun h => ⟨h.1, h.2.1, ⟨h.2.2.1.1, by have := h.2.2.1.2; omega⟩, h.2.2.2⟩
    by_cases h11 : ds[i].op = 11
    · rw [mach_skip ns hc h11, List.drop_drop]
      exact up (ih _ _ _ (by omega) (at_skip h ha hi h11) (by omega))
    by_cases h9 : ds[i].op = 9
    · obtain ⟨t1, t2, t3⟩ := at_test h ha hi h9
      by_cases hl : (st.drop (st.length - 2)).getD 0 0 < (st.drop (st.length - 2)).getD 1 0
      · rw [mach_less ns hc h9 hl]; exact up (ih _ _ _ (by omega) t2 (by omega))
      · rw [mach_more ns hc h9 hl, List.drop_drop]; exact up (ih _ _ _ (by omega) t3 (by omega))
    obtain ⟨d1, d2, d3, d4⟩ := at_do (v := (doR ns ds[i].op ds[i].num ds[i].nm ds[i].ms (st.drop (st.length - (takesV ds[i].op).1.toNat))).1) h ha hi h9 h11
    have hd := doR_ok (ns := ns) d2 d3
    by_cases hb : (doR ns ds[i].op ds[i].num ds[i].nm ds[i].ms (st.drop (st.length - (takesV ds[i].op).1.toNat))).2 = 0
    · rw [mach_do ns hc h11 h9 hb]; exact up (ih _ _ _ (by omega) (d4 hd.1) (by omega))
    · rw [mach_bad ns hc h11 h9 hb]; exact ⟨okB0, hd.2.1, ⟨by simp only; omega, by simp only; omega⟩, fun _ => rfl⟩
end Go.Proofs.YtjhgmmcglonokaaGreatDoor

namespace Go.Proofs.YtjhgmmcglonokaaGreatDoor
open Go.RowKit
set_option linter.unusedVariables false
set_option linter.unusedSimpArgs false

end Go.Proofs.YtjhgmmcglonokaaGreatDoor

namespace Go.Proofs.YtjhgmmcglonokaaGreatDoor
open Go.RowKit
set_option linter.unusedVariables false
set_option linter.unusedSimpArgs false

/-- What a program comes to, or that it is none. -/
def vmRunV (ds : List Pl) (ns : List (ByteArray × Int)) (fu : Int) : Int × Int × Int := if OkV ds ∧ 0 ≤ fu ∧ fu ≤ 1000 then ((machV ns ds [] fu).v, (machV ns ds [] fu).c, fu - (machV ns ds [] fu).f) else (0, 4, 0)
theorem okV_way {ds : List Pl} (h : OkV ds) : ∃ hs, heightsV ds = some hs ∧ WayV ds hs := by
  obtain ⟨hs, e⟩ := Option.isSome_iff_exists.1 h.2.1
  exact ⟨hs, e, way_of e⟩
theorem mach_sok (ns : List (ByteArray × Int)) {ds : List Pl} (h : OkV ds) {fu : Int} (h0 : 0 ≤ fu) : SOk fu (machV ns ds [] fu) := by
  obtain ⟨hs, -, w⟩ := okV_way h
  have := mach_ok ns w _ 0 [] fu (Nat.le_refl _) (at_first w) h0
  rwa [List.drop_zero] at this
theorem runV_in2 (q : Nat) : ∀ (ds : List Pl) (i : Nat) (hs hs' : List Int), InV hs → runV q i ds hs = some hs' → InV hs'
  | [], i, hs, hs', hi, h => by rw [runV] at h; cases h; exact hi
  | d :: r, i, hs, hs', hi, h => by
    rw [runV] at h
    obtain ⟨h1, hst, hr⟩ := Option.bind_eq_some_iff.1 h
    exact runV_in2 q r (i + 1) h1 hs' (step_in hi hst) hr
theorem fold_le (n : Int) : ∀ (l : List Int) (a : Int), a ≤ n → (∀ x ∈ l, x ≤ n) → l.foldl max a ≤ n
  | [], a, h, _ => h
  | x :: l, a, h, hl => by
    rw [List.foldl_cons]
    exact fold_le n l (max a x) (by have := hl x (by simp); omega) (fun y hy => hl y (by simp [hy]))
theorem fold_ge : ∀ (l : List Int) (a : Int), a ≤ l.foldl max a ∧ ∀ x ∈ l, x ≤ l.foldl max a
  | [], a => ⟨Int.le_refl _, by simp⟩
  | x :: l, a => by
    rw [List.foldl_cons]
    obtain ⟨h1, h2⟩ := fold_ge l (max a x)
    refine ⟨by omega, fun y hy => ?_⟩
    rcases List.mem_cons.1 hy with rfl | hy
    · omega
    · exact h2 y hy
theorem deep_in {ds : List Pl} (h : OkV ds) : 1 ≤ deepV ds ∧ deepV ds ≤ 12 := by
  obtain ⟨hs, e, w⟩ := okV_way h
  unfold deepV
  rw [if_pos h, e]
  show 1 ≤ mxV hs ∧ mxV hs ≤ 12
  have hin : InV hs := by
    unfold heightsV at e
    obtain ⟨h1, hr, h2⟩ := Option.bind_eq_some_iff.1 e
    split at h2
    · cases h2; exact runV_in2 _ _ _ _ _ (inV_first _) hr
    · cases h2
  refine ⟨?_, fold_le 12 hs 0 (by decide) (fun x hx => (hin x hx).2)⟩
  have hl := w.last
  have hk : ds.length < hs.length := by rw [w.len]; omega
  have e2 : hs.getD ds.length 0 = hs[ds.length] := by simp [hk]
  rw [e2] at hl
  have := (fold_ge hs 0).2 _ (List.getElem_mem hk)
  rw [hl] at this
  exact this
end Go.Proofs.YtjhgmmcglonokaaGreatDoor

namespace Go.Proofs.YtjhgmmcglonokaaGreatDoor
open Go.RowKit
set_option linter.unusedVariables false
set_option linter.unusedSimpArgs false

section
variable {ds : List Pl} {hs : List Int} {ns : List (ByteArray × Int)} {fu : Int} {i : Nat} {st : List Int} {u : Int}
end
theorem own_formV {w : World} {base : Nat} {e : TypeId} {sz n : Nat} {v : Value} {l : List Value} (h : w.ownsRow base e sz v n l) (hv : v.ownBlock ≠ none) : ∃ g c, v = .slice (some ⟨g, 0, none⟩) n c := by
  obtain ⟨-, h2 | ⟨g, cap, cur, hv2, -⟩⟩ := h
  · rw [h2.1] at hv; exact absurd rfl hv
  · exact ⟨g, cap, hv2⟩
end Go.Proofs.YtjhgmmcglonokaaGreatDoor
