/-
  Legs that were written are read as they were. No program is walked here.
-/
import Derived.Test.YtlfmhhdlandcjaaGreatDoorLegText
import Derived.Test.YtlfmhhdlandcjaaGreatDoorReadLegN
import Derived.Test.YtlfmhhdlandcjaaGreatDoorCut3
import Derived.Test.YtlfmhhdlandcjaaGreatDoorNum
namespace Go.Proofs.YtlfmhhdlandcjaaGreatDoor
open Go.RowKit
set_option linter.unusedVariables false
set_option linter.unusedSimpArgs false

theorem let_in {b : UInt8} (h : letB b = true) : letS.contains b = true := by
  have q : ∀ n, n < 123 → 97 ≤ n → letS.contains (UInt8.ofNat n) = true := by decide
  simp only [letB, Bool.and_eq_true, decide_eq_true_eq] at h
  have := q b.toNat (by omega) (by omega)
  rwa [UInt8.ofNat_toNat] at this
theorem name_in {l : List UInt8} (h : nameB l = true) : ∀ x ∈ l, letS.contains x = true := by
  simp only [nameB, Bool.and_eq_true] at h
  exact fun x hx => let_in (List.all_eq_true.1 h.2 x hx)
theorem name_no' {l : List UInt8} {b : UInt8} (hl : nameB l = true) (h : letS.contains b = false) : b ∉ l := fun q => by
  have := name_in hl b q
  rw [h] at this; cases this
theorem itoa_no {x : Int} {b : UInt8} (h : figS.contains b = false) : b ∉ Lib.itoa x := fun q => by
  have := itoa_figs x b q
  rw [h] at this; cases this
theorem digs_head {k : Nat} : ∀ u, u ≤ k → 1 ≤ u → (Lib.decDigits u).head? ≠ some 48 := by
  induction k with
  | zero => intro u a b; omega
  | succ k ih =>
    intro u a b
    by_cases h : u < 10
    · rw [Lib.decDigits_one h]
      have : ∀ u, u < 10 → 1 ≤ u → ([UInt8.ofNat (48 + u)] : List UInt8).head? ≠ some 48 := by decide
      exact this u h b
    · rw [Lib.decDigits.eq_1 u, dif_neg h]
      have hne := digs_ne (u / 10)
      have := ih (u / 10) (by omega) (by omega)
      generalize Lib.decDigits (u / 10) = D at *
      cases D with
      | nil => exact absurd rfl hne
      | cons c r => simpa using this
theorem numV_digs (u : Nat) (hu : u < 1000000000000) : numV (Lib.decDigits u) = u := by
  have hl := digs_len 11 u (by omega)
  have h1 : 1 ≤ (Lib.decDigits u).length := by rw [Lib.decDigits_length]; exact Lib.nDigits_pos u
  have hok : numOk (Lib.decDigits u) = true := by
    unfold numOk
    by_cases h10 : u < 10
    · rw [Lib.decDigits_one h10]; simp
    · have h3 : ((Lib.decDigits u).head? == some 48) = false := by
        cases h : (Lib.decDigits u).head? == some 48 with
        | false => rfl
        | true => exact absurd (by simpa using h) (digs_head u (Nat.le_refl _) (by omega))
      rw [h3]; simp; omega
  rw [numV, hok, decFromD u u (Nat.le_refl _)]; rfl
theorem numV_itoa {x : Int} (h0 : 0 ≤ x) (h1 : x < 1000000000000) : numV (Lib.itoa x) = x := by
  rw [Lib.itoa, if_neg (by omega), numV_digs _ (by omega)]; omega
theorem dec_itoa {n : Int} (h : 0 ≤ n) : (decB n).data.toList = Lib.itoa n := by rw [Lib.itoa, if_neg (by omega)]; simp [decB]
/-- What a text of a leg says. -/
structure Leg8 where
  nm : ByteArray
  fr : ByteArray
  to : ByteArray
  dep : Int
  arr : Int
  ll : List Int
  ls : List Int
  lb : List Int
def cap8 (l : List Int) : Int := l.getD 0 0
def leg8D (x : Leg8) : LegD := ⟨x.nm, x.fr, x.to, x.dep, x.arr, cap8 x.ll, x.ll.length, fun i => x.ll.getD i 0, x.ls.length, fun i => x.ls.getD i 0, x.lb.length, fun i => x.lb.getD i 0, 0, fun _ => 0, fun _ => 0, fun _ => 0⟩
def rdLeg (l : List UInt8) : Option (Leg8 × List UInt8) :=
  (rdWordS l).bind fun a => (rdWordS a.2).bind fun b => (rdWordS b.2).bind fun c => (rdNumS c.2).bind fun d => (rdNumS d.2).bind fun e =>
    (rdList 44 rdNum e.2).bind fun f => (rdNext 32 f.2).bind fun r => (rdList 44 rdNum r).bind fun g => (rdNext 32 g.2).bind fun r2 => (rdList 44 rdNum r2).bind fun h => some (⟨a.1, b.1, c.1, d.1, e.1, f.1, g.1, h.1⟩, h.2)
/-- Numbers behind the first one. -/
def tailT : List Int → List UInt8
  | [] => []
  | x :: r => 44 :: (Lib.itoa x ++ tailT r)
def intsT : List Int → List UInt8
  | [] => []
  | x :: r => Lib.itoa x ++ tailT r
def SmallL (l : List Int) : Prop := ∀ x ∈ l, 0 ≤ x ∧ x ≤ 1000000000
theorem wordsN_list (l : List Int) : wordsN (fun i => l.getD i 0) l.length = l.map decB := by
  apply List.ext_getElem?
  intro i
  rcases Nat.lt_or_ge i l.length with h | h
  · rw [wordsN_get _ _ i h, List.getElem?_map, List.getElem?_eq_getElem h, Option.map_some, List.getD_eq_getElem?_getD, List.getElem?_eq_getElem h]; rfl
  · rw [List.getElem?_eq_none (by rw [wordsN_len]; exact h), List.getElem?_eq_none (by simpa using h)]
theorem joinTail_ints : ∀ {l : List Int}, SmallL l → Lib.joinTail [44] ((l.map decB).map (·.data.toList)) = tailT l := by
  intro l h
  induction l with
  | nil => rfl
  | cons x r ih =>
    have ih := ih (fun y hy => h y (by simp [hy]))
    rw [Lib.joinTail] at ih ⊢
    simp only [List.map_cons, List.flatten_cons, ih, dec_itoa (h x (by simp)).1]
    simp [tailT]
theorem numT_ints {l : List Int} (h : SmallL l) : numT (fun i => l.getD i 0) l.length = intsT l := by
  unfold numT joinS
  rw [wordsN_list]
  cases l with
  | nil => rfl
  | cons x r => rw [List.map_cons, List.map_cons, Lib.join_cons, joinTail_ints (fun y hy => h y (by simp [hy])), dec_itoa (h x (by simp)).1]; rfl
theorem smallL_of {l : List Int} (h : Small (fun i => l.getD i 0) l.length) : SmallL l := by
  intro x hx
  obtain ⟨i, hi, e⟩ := List.getElem_of_mem hx
  have := h.2 i hi
  simp only [List.getD_eq_getElem?_getD, List.getElem?_eq_getElem hi, Option.getD_some, e] at this
  exact this
theorem tail_head (r : List Int) {t : List UInt8} (ht : ∀ a b, t = a :: b → figS.contains a = false) : ∀ a b, tailT r ++ t = a :: b → figS.contains a = false := by
  intro a b e
  cases r with
  | nil => exact ht a b e
  | cons x r => rw [tailT, List.cons_append] at e; cases e; rfl
theorem rdTail_ints {t : List UInt8} (ht : ∀ a b, t = a :: b → figS.contains a = false) (hn4 : rdNext 44 t = none) : ∀ (r : List Int) (n : Nat) (acc : List Int), SmallL r → (tailT r ++ t).length ≤ n → rdTail 44 rdNum n (tailT r ++ t) acc = some (acc ++ r, t)
  | [], n, acc, h, hn => by rw [tailT, List.nil_append, rdTail_stop hn4]; simp
  | x :: r, n, acc, h, hn => by
    have h1 : rdNext 44 (tailT (x :: r) ++ t) = some (Lib.itoa x ++ (tailT r ++ t)) := by
      rw [tailT, List.cons_append, rdNext_cons, List.append_assoc]
    have hx := h x (by simp)
    have h2 := rdNum_itoa (x := x) (by omega) (tail_head r ht)
    obtain ⟨m, -, hm, e⟩ := rdTail_more h1 h2 hn acc
    rw [e, rdTail_ints ht hn4 r m _ (fun y hy => h y (by simp [hy])) (by rw [List.length_append] at hm; omega)]
    simp
theorem rdList_ints {l : List Int} (h0 : 1 ≤ l.length) (h : SmallL l) {t : List UInt8} (ht : ∀ a b, t = a :: b → figS.contains a = false) (hn4 : rdNext 44 t = none) : rdList 44 rdNum (intsT l ++ t) = some (l, t) := by
  cases l with
  | nil => simp at h0
  | cons x r =>
    have hx := h x (by simp)
    rw [intsT, List.append_assoc, rdList, rdNum_itoa (x := x) (by omega) (tail_head r ht)]
    simp only
    rw [rdTail_ints ht hn4 r _ _ (fun y hy => h y (by simp [hy])) (Nat.le_refl _)]
    rfl
theorem rdWordS_name {x : ByteArray} (h : nameB x.data.toList = true) (r : List UInt8) : rdWordS (x.data.toList ++ 32 :: r) = some (x, r) := by
  obtain ⟨h1, h2⟩ := run_app letS x.data.toList (32 :: r) (name_in h) (fun a b e => by cases e; rfl)
  unfold rdWordS
  rw [h1, h2, rdNext_cons]; rfl
theorem rdNumS_itoa {x : Int} (h : x.natAbs < 100000000000000000) (r : List UInt8) : rdNumS (Lib.itoa x ++ 32 :: r) = some (x, r) := by
  unfold rdNumS
  rw [rdNum_itoa h (fun a b e => by cases e; rfl)]
  simp only [Option.bind_some]
  rw [rdNext_cons]; rfl
/-- What the parts of a leg that is ok are. -/
structure Parts (x : Leg8) : Prop where
  n1 : nameB x.nm.data.toList = true
  n2 : nameB x.fr.data.toList = true
  n3 : nameB x.to.data.toList = true
  dep : 0 ≤ x.dep ∧ x.dep ≤ 9999
  arr : 0 ≤ x.arr ∧ x.arr ≤ 9999
  sL : SmallL x.ll
  sS : SmallL x.ls
  sB : SmallL x.lb
  nL : x.ll.length = 3
  nS : x.ls.length = 3
  nB : 1 ≤ x.lb.length
  mB : x.lb.length ≤ 8
theorem parts_of {x : Leg8} (h : OkLeg (leg8D x)) : Parts x := by
  have s := h.sizes
  obtain ⟨⟨a1, a2, a3, -, a5, a6⟩, -⟩ := h
  exact ⟨a1, a2, a3, s.dep, s.arr, smallL_of s.sL, smallL_of s.sS, smallL_of s.sB, s.nL, s.nS, s.nB, s.sB.1⟩
theorem legB_list {x : Leg8} (h : Parts x) : (legB (leg8D x)).data.toList = x.nm.data.toList ++ 32 :: (x.fr.data.toList ++ 32 :: (x.to.data.toList ++ 32 :: (Lib.itoa x.dep ++ 32 :: (Lib.itoa x.arr ++ 32 :: (intsT x.ll ++ 32 :: (intsT x.ls ++ 32 :: intsT x.lb)))))) := by
  have e1 := numT_ints h.sL
  have e2 := numT_ints h.sS
  have e3 := numT_ints h.sB
  have d1 := dec_itoa h.dep.1
  have d2 := dec_itoa h.arr.1
  simp [legB, legWords, leg8D, joinS, Lib.join_cons, Lib.joinTail, numB, e1, e2, e3, d1, d2] at *
  rw [e1, e2, e3]
/-- A leg's text is read as it was written. -/
theorem rdLeg_text {x : Leg8} (h : OkLeg (leg8D x)) : rdLeg (legB (leg8D x)).data.toList = some (x, []) := by
  have p := parts_of h
  rw [legB_list p]
  have f1 : ∀ (r : List UInt8) a b, 32 :: r = a :: b → figS.contains a = false := fun r a b e => by cases e; rfl
  have g1 : ∀ r : List UInt8, rdNext 44 (32 :: r) = none := fun r => by simp [rdNext]
  have l1 := p.nL
  have l2 := p.nS
  have l3 := p.nB
  have d1 := p.dep
  have d2 := p.arr
  have e := rdList_ints p.nB p.sB (t := []) (fun a b e => by cases e) rfl
  rw [List.append_nil] at e
  unfold rdLeg
  rw [rdWordS_name p.n1, Option.bind_some, rdWordS_name p.n2, Option.bind_some, rdWordS_name p.n3, Option.bind_some, rdNumS_itoa (by omega), Option.bind_some, rdNumS_itoa (by omega), Option.bind_some, rdList_ints (by omega) p.sL (f1 _) (g1 _), Option.bind_some]
  simp only
  rw [rdNext_cons, Option.bind_some, rdList_ints (by omega) p.sS (f1 _) (g1 _), Option.bind_some]
  simp only
  rw [rdNext_cons, Option.bind_some, e]
  rfl
def IsLegT (s : ByteArray) : Prop := ∃ x : Leg8, OkLeg (leg8D x) ∧ legB (leg8D x) = s
theorem leg_uniq {x y : Leg8} (h : OkLeg (leg8D x)) (h' : OkLeg (leg8D y)) (e : legB (leg8D x) = legB (leg8D y)) : x = y := by
  have a := rdLeg_text h
  have b := rdLeg_text h'
  rw [e, b] at a
  injection a with a
  injection a with a _
  exact a.symm
/-! The pieces that the model takes. -/
def numsM (l : List UInt8) : List Int := ((splitB 44 l).take 9).map numV
theorem tailT_no {b : UInt8} (h : figS.contains b = false) (h4 : b ≠ 44) : ∀ r : List Int, b ∉ tailT r
  | [] => by simp [tailT]
  | x :: r => by
    have := tailT_no h h4 r
    have := itoa_no (x := x) h
    simp [tailT, *]
theorem intsT_no {b : UInt8} (h : figS.contains b = false) (h4 : b ≠ 44) : ∀ r : List Int, b ∉ intsT r
  | [] => by simp [intsT]
  | x :: r => by
    have := tailT_no h h4 r
    have := itoa_no (x := x) h
    simp [intsT, *]
theorem split_tail : ∀ (r : List Int) (a : List UInt8), (44 : UInt8) ∉ a → splitB 44 (a ++ tailT r) = a :: r.map Lib.itoa
  | [], a, ha => by simp [tailT, splitB_end ha]
  | x :: r, a, ha => by rw [tailT, splitB_at _ ha, split_tail r _ (itoa_no (by decide))]; rfl
theorem numsM_ints {l : List Int} (h0 : 1 ≤ l.length) (h9 : l.length ≤ 9) (h : SmallL l) : numsM (intsT l) = l := by
  have e : splitB 44 (intsT l) = l.map Lib.itoa := by
    cases l with
    | nil => simp at h0
    | cons x r => rw [intsT, split_tail r _ (itoa_no (by decide))]; rfl
  unfold numsM
  rw [e, List.take_of_length_le (by simpa using h9), List.map_map]
  conv => rhs; rw [← List.map_id l]
  apply List.map_congr_left
  intro x hx
  have := h x hx
  exact numV_itoa this.1 (by omega)
theorem split_leg {x : Leg8} (h : OkLeg (leg8D x)) : splitB 32 (legB (leg8D x)).data.toList = [x.nm.data.toList, x.fr.data.toList, x.to.data.toList, Lib.itoa x.dep, Lib.itoa x.arr, intsT x.ll, intsT x.ls, intsT x.lb] := by
  have p := parts_of h
  rw [legB_list p, splitB_at _ (name_no' p.n1 (by decide)), splitB_at _ (name_no' p.n2 (by decide)), splitB_at _ (name_no' p.n3 (by decide)), splitB_at _ (itoa_no (by decide)), splitB_at _ (itoa_no (by decide)), splitB_at _ (intsT_no (by decide) (by decide) _), splitB_at _ (intsT_no (by decide) (by decide) _), splitB_end (intsT_no (by decide) (by decide) _)]
open Classical in
noncomputable def legO (d : LegD) : ByteArray := if OkLeg d then legB d else ⟨#[]⟩
theorem legO_of {d : LegD} {o : ByteArray} (h : LegText d o) : o = legO d := by
  unfold legO
  split
  · rename_i q; exact h.1 q
  · rename_i q; exact h.2 q
/-- What the model takes of eight pieces. -/
def pieces8 (x0 x1 x2 x3 x4 x5 x6 x7 : ByteArray) : Leg8 := ⟨x0, x1, x2, numV x3.data.toList, numV x4.data.toList, numsM x5.data.toList, numsM x6.data.toList, numsM x7.data.toList⟩
theorem lm_eight {s : ByteArray} {ws : List ByteArray} (hw : ws.map (·.data.toList) = splitB 32 s.data.toList) (h : ws.length ≠ 8) : ¬ IsLegT s := by
  rintro ⟨x, h1, h2⟩
  rw [← h2, split_leg h1] at hw
  have := congrArg List.length hw
  simp at this
  exact h this
theorem lm_same {s x0 x1 x2 x3 x4 x5 x6 x7 : ByteArray} (hw : [x0, x1, x2, x3, x4, x5, x6, x7].map (·.data.toList) = splitB 32 s.data.toList) {x : Leg8} (h1 : OkLeg (leg8D x)) (h2 : legB (leg8D x) = s) : pieces8 x0 x1 x2 x3 x4 x5 x6 x7 = x := by
  have p := parts_of h1
  rw [← h2, split_leg h1] at hw
  simp only [List.map_cons, List.map_nil, List.cons.injEq, and_true] at hw
  obtain ⟨b0, b1, b2, b3, b4, b5, b6, b7⟩ := hw
  have e0 : x0 = x.nm := ByteArray.ext (Array.ext' b0)
  have e1 : x1 = x.fr := ByteArray.ext (Array.ext' b1)
  have e2 : x2 = x.to := ByteArray.ext (Array.ext' b2)
  have l1 := p.nL
  have l2 := p.nS
  have l3 := p.nB
  have l4 := p.mB
  have d1 := p.dep
  have d2 := p.arr
  unfold pieces8
  rw [b3, b4, b5, b6, b7, numV_itoa d1.1 (by omega), numV_itoa d2.1 (by omega), numsM_ints (by omega) (by omega) p.sL, numsM_ints (by omega) (by omega) p.sS, numsM_ints l3 (by omega) p.sB, e0, e1, e2]
theorem lm_yes {s x0 x1 x2 x3 x4 x5 x6 x7 : ByteArray} (hw : [x0, x1, x2, x3, x4, x5, x6, x7].map (·.data.toList) = splitB 32 s.data.toList) (he : (legO (leg8D (pieces8 x0 x1 x2 x3 x4 x5 x6 x7))).toList = s.toList) : OkLeg (leg8D (pieces8 x0 x1 x2 x3 x4 x5 x6 x7)) ∧ legB (leg8D (pieces8 x0 x1 x2 x3 x4 x5 x6 x7)) = s := by
  rw [Lib.toList_data, Lib.toList_data] at he
  unfold legO at he
  split at he
  · rename_i q; exact ⟨q, ByteArray.ext (Array.ext' he)⟩
  · have hs : s.data.toList = [] := by rw [← he]
    rw [hs] at hw
    simp [splitB] at hw
theorem lm_no {s x0 x1 x2 x3 x4 x5 x6 x7 : ByteArray} (hw : [x0, x1, x2, x3, x4, x5, x6, x7].map (·.data.toList) = splitB 32 s.data.toList) (hne : (legO (leg8D (pieces8 x0 x1 x2 x3 x4 x5 x6 x7))).toList ≠ s.toList) : ¬ IsLegT s := by
  rintro ⟨x, h1, h2⟩
  rw [lm_same hw h1 h2] at hne
  apply hne
  unfold legO
  rw [if_pos h1, h2]
/-! What the program takes. -/
theorem lb_no {s : ByteArray} {x : Leg8} {r : List UInt8} (hp : rdLeg s.data.toList = some (x, r)) (hne : (legO (leg8D x)).toList ≠ s.toList) : ¬ IsLegT s := by
  rintro ⟨y, h1, h2⟩
  have h := rdLeg_text h1
  rw [h2, hp] at h
  injection h with h
  injection h with h _
  subst h
  apply hne
  unfold legO
  rw [if_pos h1, h2]
theorem lb_none {s : ByteArray} (hp : rdLeg s.data.toList = none) : ¬ IsLegT s := by
  rintro ⟨y, h1, h2⟩
  have h := rdLeg_text h1
  rw [h2, hp] at h
  cases h
theorem lb_yes {s : ByteArray} {x : Leg8} {r : List UInt8} (hp : rdLeg s.data.toList = some (x, r)) (he : (legO (leg8D x)).toList = s.toList) : OkLeg (leg8D x) ∧ legB (leg8D x) = s := by
  rw [Lib.toList_data, Lib.toList_data] at he
  unfold legO at he
  split at he
  · rename_i q; exact ⟨q, ByteArray.ext (Array.ext' he)⟩
  · have hs : s.data.toList = [] := by rw [← he]
    rw [hs] at hp
    simp [rdLeg, rdWordS, rdNext, offOf] at hp
end Go.Proofs.YtlfmhhdlandcjaaGreatDoor
