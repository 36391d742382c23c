/-
  Legs that were written are read as they were. No program is walked here.
  The program's reader of a leg.
-/
import Derived.Test.YtdaccpffdnbkiaaGreatDoorJ23
import Derived.Test.YtdaccpffdnbkiaaGreatDoorJ9
import Derived.Test.YtdaccpffdnbkiaaGreatDoorCut3
import Derived.Test.YtdaccpffdnbkiaaGreatDoorNum
import Derived.Test.YtdaccpffdnbkiaaGreatDoorJ10
namespace Go.Proofs.YtdaccpffdnbkiaaGreatDoor
open Go.RowKit
set_option linter.unusedVariables false
set_option linter.unusedSimpArgs false

theorem let_in {b : UInt8} (h : letB b = true) : letS.contains b = true := by
  have q : ∀ n, n < 123 → 97 ≤ n → letS.contains (UInt8.ofNat n) = true := by decide
  simp only [letB, Bool.and_eq_true, decide_eq_true_eq] at h
  have := q b.toNat (by omega) (by omega)
  rwa [UInt8.ofNat_toNat] at this
theorem name_in {l : List UInt8} (h : nameB l = true) : ∀ x ∈ l, letS.contains x = true := by
  simp only [nameB, Bool.and_eq_true] at h
  exact fun x hx => let_in (List.all_eq_true.1 h.2 x hx)
theorem name_no' {l : List UInt8} {b : UInt8} (hl : nameB l = true) (h : letS.contains b = false) : b ∉ l := fun q => by
  have := name_in hl b q
  rw [h] at this; cases this
theorem itoa_no {x : Int} {b : UInt8} (h : figS.contains b = false) : b ∉ Lib.itoa x := fun q => by
  have := itoa_figs x b q
  rw [h] at this; cases this
theorem digs_head {k : Nat} : ∀ u, u ≤ k → 1 ≤ u → (Lib.decDigits u).head? ≠ some 48 := by
  induction k with
  | zero => intro u a b; omega
  | succ k ih =>
    intro u a b
    by_cases h : u < 10
    · rw [Lib.decDigits_one h]
      have : ∀ u, u < 10 → 1 ≤ u → ([UInt8.ofNat (48 + u)] : List UInt8).head? ≠ some 48 := by decide
      exact this u h b
    · rw [Lib.decDigits.eq_1 u, dif_neg h]
      have hne := digs_ne (u / 10)
      have := ih (u / 10) (by omega) (by omega)
      generalize Lib.decDigits (u / 10) = D at *
      cases D with
      | nil => exact absurd rfl hne
      | cons c r => simpa using this
theorem numV_digs (u : Nat) (hu : u < 1000000000000) : numV (Lib.decDigits u) = u := by
  have hl := digs_len 11 u (by omega)
  have h1 : 1 ≤ (Lib.decDigits u).length := by rw [Lib.decDigits_length]; exact Lib.nDigits_pos u
  have hok : numOk (Lib.decDigits u) = true := by
    unfold numOk
    by_cases h10 : u < 10
    · rw [Lib.decDigits_one h10]; simp
    · have h3 : ((Lib.decDigits u).head? == some 48) = false := by
        cases h : (Lib.decDigits u).head? == some 48 with
        | false => rfl
        | true => exact absurd (by simpa using h) (digs_head u (Nat.le_refl _) (by omega))
      rw [h3]; simp; omega
  rw [numV, hok, decFromD u u (Nat.le_refl _)]; rfl
theorem numV_itoa {x : Int} (h0 : 0 ≤ x) (h1 : x < 1000000000000) : numV (Lib.itoa x) = x := by
  rw [Lib.itoa, if_neg (by omega), numV_digs _ (by omega)]; omega
theorem dec_itoa {n : Int} (h : 0 ≤ n) : (decB n).data.toList = Lib.itoa n := by rw [Lib.itoa, if_neg (by omega)]; simp [decB]
/-- What a text of a leg says. -/
structure Leg8 where
  nm : ByteArray
  fr : ByteArray
  to : ByteArray
  dep : Int
  arr : Int
  ll : List Int
  ls : List Int
  lb : List Int
def cap8 (l : List Int) : Int := l.getD 0 0
def leg8D (x : Leg8) : LegD := ⟨x.nm, x.fr, x.to, x.dep, x.arr, cap8 x.ll, x.ll.length, fun i => x.ll.getD i 0, x.ls.length, fun i => x.ls.getD i 0, x.lb.length, fun i => x.lb.getD i 0, 0, fun _ => 0, fun _ => 0, fun _ => 0⟩
def rdLeg (l : List UInt8) : Option (Leg8 × List UInt8) :=
  (rdWordS l).bind fun a => (rdWordS a.2).bind fun b => (rdWordS b.2).bind fun c => (rdNumS c.2).bind fun d => (rdNumS d.2).bind fun e =>
    (rdList 44 rdNum e.2).bind fun f => (rdNext 32 f.2).bind fun r => (rdList 44 rdNum r).bind fun g => (rdNext 32 g.2).bind fun r2 => (rdList 44 rdNum r2).bind fun h => some (⟨a.1, b.1, c.1, d.1, e.1, f.1, g.1, h.1⟩, h.2)
/-- Numbers behind the first one. -/
def tailT : List Int → List UInt8
  | [] => []
  | x :: r => 44 :: (Lib.itoa x ++ tailT r)
def intsT : List Int → List UInt8
  | [] => []
  | x :: r => Lib.itoa x ++ tailT r
def SmallL (l : List Int) : Prop := ∀ x ∈ l, 0 ≤ x ∧ x ≤ 1000000000
theorem wordsN_list (l : List Int) : wordsN (fun i => l.getD i 0) l.length = l.map decB := by
  apply List.ext_getElem?
  intro i
  rcases Nat.lt_or_ge i l.length with h | h
  · rw [wordsN_get _ _ i h, List.getElem?_map, List.getElem?_eq_getElem h, Option.map_some, List.getD_eq_getElem?_getD, List.getElem?_eq_getElem h]; rfl
  · rw [List.getElem?_eq_none (by rw [wordsN_len]; exact h), List.getElem?_eq_none (by simpa using h)]
theorem joinTail_ints : ∀ {l : List Int}, SmallL l → Lib.joinTail [44] ((l.map decB).map (·.data.toList)) = tailT l := by
  intro l h
  induction l with
  | nil => rfl
  | cons x r ih =>
    have ih := ih (fun y hy => h y (by simp [hy]))
    rw [Lib.joinTail] at ih ⊢
    simp only [List.map_cons, List.flatten_cons, ih, dec_itoa (h x (by simp)).1]
    simp [tailT]
theorem numT_ints {l : List Int} (h : SmallL l) : numT (fun i => l.getD i 0) l.length = intsT l := by
  unfold numT joinS
  rw [wordsN_list]
  cases l with
  | nil => rfl
  | cons x r => rw [List.map_cons, List.map_cons, Lib.join_cons, joinTail_ints (fun y hy => h y (by simp [hy])), dec_itoa (h x (by simp)).1]; rfl
theorem smallL_of {l : List Int} (h : Small (fun i => l.getD i 0) l.length) : SmallL l := by
  intro x hx
  obtain ⟨i, hi, e⟩ := List.getElem_of_mem hx
  have := h.2 i hi
  simp only [List.getD_eq_getElem?_getD, List.getElem?_eq_getElem hi, Option.getD_some, e] at this
  exact this
theorem tail_head (r : List Int) {t : List UInt8} (ht : ∀ a b, t = a :: b → figS.contains a = false) : ∀ a b, tailT r ++ t = a :: b → figS.contains a = false := by
  intro a b e
  cases r with
  | nil => exact ht a b e
  | cons x r => rw [tailT, List.cons_append] at e; cases e; rfl
theorem rdTail_ints {t : List UInt8} (ht : ∀ a b, t = a :: b → figS.contains a = false) (hn4 : rdNext 44 t = none) : ∀ (r : List Int) (n : Nat) (acc : List Int), SmallL r → (tailT r ++ t).length ≤ n → rdTail 44 rdNum n (tailT r ++ t) acc = some (acc ++ r, t)
  | [], n, acc, h, hn => by rw [tailT, List.nil_append, rdTail_stop hn4]; simp
  | x :: r, n, acc, h, hn => by
    have h1 : rdNext 44 (tailT (x :: r) ++ t) = some (Lib.itoa x ++ (tailT r ++ t)) := by
      rw [tailT, List.cons_append, rdNext_cons, List.append_assoc]
    have hx := h x (by simp)
    have h2 := rdNum_itoa (x := x) (by omega) (tail_head r ht)
    obtain ⟨m, -, hm, e⟩ := rdTail_more h1 h2 hn acc
    rw [e, rdTail_ints ht hn4 r m _ (fun y hy => h y (by simp [hy])) (by rw [List.length_append] at hm; omega)]
    simp
theorem rdList_ints {l : List Int} (h0 : 1 ≤ l.length) (h : SmallL l) {t : List UInt8} (ht : ∀ a b, t = a :: b → figS.contains a = false) (hn4 : rdNext 44 t = none) : rdList 44 rdNum (intsT l ++ t) = some (l, t) := by
  cases l with
  | nil => simp at h0
  | cons x r =>
    have hx := h x (by simp)
    rw [intsT, List.append_assoc, rdList, rdNum_itoa (x := x) (by omega) (tail_head r ht)]
    simp only
    rw [rdTail_ints ht hn4 r _ _ (fun y hy => h y (by simp [hy])) (Nat.le_refl _)]
    rfl
theorem rdWordS_name {x : ByteArray} (h : nameB x.data.toList = true) (r : List UInt8) : rdWordS (x.data.toList ++ 32 :: r) = some (x, r) := by
  obtain ⟨h1, h2⟩ := run_app letS x.data.toList (32 :: r) (name_in h) (fun a b e => by cases e; rfl)
  unfold rdWordS
  rw [h1, h2, rdNext_cons]; rfl
theorem rdNumS_itoa {x : Int} (h : x.natAbs < 100000000000000000) (r : List UInt8) : rdNumS (Lib.itoa x ++ 32 :: r) = some (x, r) := by
  unfold rdNumS
  rw [rdNum_itoa h (fun a b e => by cases e; rfl)]
  simp only [Option.bind_some]
  rw [rdNext_cons]; rfl
/-- What the parts of a leg that is ok are. -/
structure Parts (x : Leg8) : Prop where
  n1 : nameB x.nm.data.toList = true
  n2 : nameB x.fr.data.toList = true
  n3 : nameB x.to.data.toList = true
  dep : 0 ≤ x.dep ∧ x.dep ≤ 9999
  arr : 0 ≤ x.arr ∧ x.arr ≤ 9999
  sL : SmallL x.ll
  sS : SmallL x.ls
  sB : SmallL x.lb
  nL : x.ll.length = 3
  nS : x.ls.length = 3
  nB : 1 ≤ x.lb.length
  mB : x.lb.length ≤ 8
theorem parts_of {x : Leg8} (h : OkLeg (leg8D x)) : Parts x := by
  have s := h.sizes
  obtain ⟨⟨a1, a2, a3, -, a5, a6⟩, -⟩ := h
  exact ⟨a1, a2, a3, s.dep, s.arr, smallL_of s.sL, smallL_of s.sS, smallL_of s.sB, s.nL, s.nS, s.nB, s.sB.1⟩
theorem legB_list {x : Leg8} (h : Parts x) : (legB (leg8D x)).data.toList = x.nm.data.toList ++ 32 :: (x.fr.data.toList ++ 32 :: (x.to.data.toList ++ 32 :: (Lib.itoa x.dep ++ 32 :: (Lib.itoa x.arr ++ 32 :: (intsT x.ll ++ 32 :: (intsT x.ls ++ 32 :: intsT x.lb)))))) := by
  have e1 := numT_ints h.sL
  have e2 := numT_ints h.sS
  have e3 := numT_ints h.sB
  have d1 := dec_itoa h.dep.1
  have d2 := dec_itoa h.arr.1
  simp [legB, legWords, leg8D, joinS, Lib.join_cons, Lib.joinTail, numB, e1, e2, e3, d1, d2] at *
  rw [e1, e2, e3]
/-- A leg's text is read as it was written. -/
theorem rdLeg_text {x : Leg8} (h : OkLeg (leg8D x)) : rdLeg (legB (leg8D x)).data.toList = some (x, []) := by
  have p := parts_of h
  rw [legB_list p]
  have f1 : ∀ (r : List UInt8) a b, 32 :: r = a :: b → figS.contains a = false := fun r a b e => by cases e; rfl
  have g1 : ∀ r : List UInt8, rdNext 44 (32 :: r) = none := fun r => by simp [rdNext]
  have l1 := p.nL
  have l2 := p.nS
  have l3 := p.nB
  have d1 := p.dep
  have d2 := p.arr
  have e := rdList_ints p.nB p.sB (t := []) (fun a b e => by cases e) rfl
  rw [List.append_nil] at e
  unfold rdLeg
  rw [rdWordS_name p.n1, Option.bind_some, rdWordS_name p.n2, Option.bind_some, rdWordS_name p.n3, Option.bind_some, rdNumS_itoa (by omega), Option.bind_some, rdNumS_itoa (by omega), Option.bind_some, rdList_ints (by omega) p.sL (f1 _) (g1 _), Option.bind_some]
  simp only
  rw [rdNext_cons, Option.bind_some, rdList_ints (by omega) p.sS (f1 _) (g1 _), Option.bind_some]
  simp only
  rw [rdNext_cons, Option.bind_some, e]
  rfl
def IsLegT (s : ByteArray) : Prop := ∃ x : Leg8, OkLeg (leg8D x) ∧ legB (leg8D x) = s
theorem leg_uniq {x y : Leg8} (h : OkLeg (leg8D x)) (h' : OkLeg (leg8D y)) (e : legB (leg8D x) = legB (leg8D y)) : x = y := by
  have a := rdLeg_text h
  have b := rdLeg_text h'
  rw [e, b] at a
  injection a with a
  injection a with a _
  exact a.symm
/-! The pieces that the model takes. -/
def numsM (l : List UInt8) : List Int := ((splitB 44 l).take 9).map numV
theorem tailT_no {b : UInt8} (h : figS.contains b = false) (h4 : b ≠ 44) : ∀ r : List Int, b ∉ tailT r
  | [] => by simp [tailT]
  | x :: r => by
    have := tailT_no h h4 r
    have := itoa_no (x := x) h
    simp [tailT, *]
theorem intsT_no {b : UInt8} (h : figS.contains b = false) (h4 : b ≠ 44) : ∀ r : List Int, b ∉ intsT r
  | [] => by simp [intsT]
  | x :: r => by
    have := tailT_no h h4 r
    have := itoa_no (x := x) h
    simp [intsT, *]
theorem split_tail : ∀ (r : List Int) (a : List UInt8), (44 : UInt8) ∉ a → splitB 44 (a ++ tailT r) = a :: r.map Lib.itoa
  | [], a, ha => by simp [tailT, splitB_end ha]
  | x :: r, a, ha => by rw [tailT, splitB_at _ ha, split_tail r _ (itoa_no (by decide))]; rfl
theorem numsM_ints {l : List Int} (h0 : 1 ≤ l.length) (h9 : l.length ≤ 9) (h : SmallL l) : numsM (intsT l) = l := by
  have e : splitB 44 (intsT l) = l.map Lib.itoa := by
    cases l with
    | nil => simp at h0
    | cons x r => rw [intsT, split_tail r _ (itoa_no (by decide))]; rfl
  unfold numsM
  rw [e, List.take_of_length_le (by simpa using h9), List.map_map]
  conv => rhs; rw [← List.map_id l]
  apply List.map_congr_left
  intro x hx
  have := h x hx
  exact numV_itoa this.1 (by omega)
theorem split_leg {x : Leg8} (h : OkLeg (leg8D x)) : splitB 32 (legB (leg8D x)).data.toList = [x.nm.data.toList, x.fr.data.toList, x.to.data.toList, Lib.itoa x.dep, Lib.itoa x.arr, intsT x.ll, intsT x.ls, intsT x.lb] := by
  have p := parts_of h
  rw [legB_list p, splitB_at _ (name_no' p.n1 (by decide)), splitB_at _ (name_no' p.n2 (by decide)), splitB_at _ (name_no' p.n3 (by decide)), splitB_at _ (itoa_no (by decide)), splitB_at _ (itoa_no (by decide)), splitB_at _ (intsT_no (by decide) (by decide) _), splitB_at _ (intsT_no (by decide) (by decide) _), splitB_end (intsT_no (by decide) (by decide) _)]
open Classical in
noncomputable def legO (d : LegD) : ByteArray := if OkLeg d then legB d else ⟨#[]⟩
theorem legO_of {d : LegD} {o : ByteArray} (h : LegText d o) : o = legO d := by
  unfold legO
  split
  · rename_i q; exact h.1 q
  · rename_i q; exact h.2 q
/-- What the model takes of eight pieces. -/
def pieces8 (x0 x1 x2 x3 x4 x5 x6 x7 : ByteArray) : Leg8 := ⟨x0, x1, x2, numV x3.data.toList, numV x4.data.toList, numsM x5.data.toList, numsM x6.data.toList, numsM x7.data.toList⟩
theorem lm_eight {s : ByteArray} {ws : List ByteArray} (hw : ws.map (·.data.toList) = splitB 32 s.data.toList) (h : ws.length ≠ 8) : ¬ IsLegT s := by
  rintro ⟨x, h1, h2⟩
  rw [← h2, split_leg h1] at hw
  have := congrArg List.length hw
  simp at this
  exact h this
theorem lm_same {s x0 x1 x2 x3 x4 x5 x6 x7 : ByteArray} (hw : [x0, x1, x2, x3, x4, x5, x6, x7].map (·.data.toList) = splitB 32 s.data.toList) {x : Leg8} (h1 : OkLeg (leg8D x)) (h2 : legB (leg8D x) = s) : pieces8 x0 x1 x2 x3 x4 x5 x6 x7 = x := by
  have p := parts_of h1
  rw [← h2, split_leg h1] at hw
  simp only [List.map_cons, List.map_nil, List.cons.injEq, and_true] at hw
  obtain ⟨b0, b1, b2, b3, b4, b5, b6, b7⟩ := hw
  have e0 : x0 = x.nm := ByteArray.ext (Array.ext' b0)
  have e1 : x1 = x.fr := ByteArray.ext (Array.ext' b1)
  have e2 : x2 = x.to := ByteArray.ext (Array.ext' b2)
  have l1 := p.nL
  have l2 := p.nS
  have l3 := p.nB
  have l4 := p.mB
  have d1 := p.dep
  have d2 := p.arr
  unfold pieces8
  rw [b3, b4, b5, b6, b7, numV_itoa d1.1 (by omega), numV_itoa d2.1 (by omega), numsM_ints (by omega) (by omega) p.sL, numsM_ints (by omega) (by omega) p.sS, numsM_ints l3 (by omega) p.sB, e0, e1, e2]
theorem lm_yes {s x0 x1 x2 x3 x4 x5 x6 x7 : ByteArray} (hw : [x0, x1, x2, x3, x4, x5, x6, x7].map (·.data.toList) = splitB 32 s.data.toList) (he : (legO (leg8D (pieces8 x0 x1 x2 x3 x4 x5 x6 x7))).toList = s.toList) : OkLeg (leg8D (pieces8 x0 x1 x2 x3 x4 x5 x6 x7)) ∧ legB (leg8D (pieces8 x0 x1 x2 x3 x4 x5 x6 x7)) = s := by
  rw [Lib.toList_data, Lib.toList_data] at he
  unfold legO at he
  split at he
  · rename_i q; exact ⟨q, ByteArray.ext (Array.ext' he)⟩
  · have hs : s.data.toList = [] := by rw [← he]
    rw [hs] at hw
    simp [splitB] at hw
theorem lm_no {s x0 x1 x2 x3 x4 x5 x6 x7 : ByteArray} (hw : [x0, x1, x2, x3, x4, x5, x6, x7].map (·.data.toList) = splitB 32 s.data.toList) (hne : (legO (leg8D (pieces8 x0 x1 x2 x3 x4 x5 x6 x7))).toList ≠ s.toList) : ¬ IsLegT s := by
  rintro ⟨x, h1, h2⟩
  rw [lm_same hw h1 h2] at hne
  apply hne
  unfold legO
  rw [if_pos h1, h2]
/-! What the program takes. -/
theorem lb_no {s : ByteArray} {x : Leg8} {r : List UInt8} (hp : rdLeg s.data.toList = some (x, r)) (hne : (legO (leg8D x)).toList ≠ s.toList) : ¬ IsLegT s := by
  rintro ⟨y, h1, h2⟩
  have h := rdLeg_text h1
  rw [h2, hp] at h
  injection h with h
  injection h with h _
  subst h
  apply hne
  unfold legO
  rw [if_pos h1, h2]
theorem lb_none {s : ByteArray} (hp : rdLeg s.data.toList = none) : ¬ IsLegT s := by
  rintro ⟨y, h1, h2⟩
  have h := rdLeg_text h1
  rw [h2, hp] at h
  cases h
theorem lb_yes {s : ByteArray} {x : Leg8} {r : List UInt8} (hp : rdLeg s.data.toList = some (x, r)) (he : (legO (leg8D x)).toList = s.toList) : OkLeg (leg8D x) ∧ legB (leg8D x) = s := by
  rw [Lib.toList_data, Lib.toList_data] at he
  unfold legO at he
  split at he
  · rename_i q; exact ⟨q, ByteArray.ext (Array.ext' he)⟩
  · have hs : s.data.toList = [] := by rw [← he]
    rw [hs] at hp
    simp [rdLeg, rdWordS, rdNext, offOf] at hp
end Go.Proofs.YtdaccpffdnbkiaaGreatDoor

namespace Go.Proofs.YtdaccpffdnbkiaaGreatDoor
open Go.RowKit
set_option linter.unusedVariables false
set_option linter.unusedSimpArgs false

abbrev rowG (a b c : ByteArray) (dep arr cap : Int) (vL vS vB : Value) : Array Value := #[.string a, .string b, .string c, .int .i64 dep, .int .i64 arr, .int .i64 cap, vL, vS, vB, .slice none 0 0]
theorem rowG_one (a b c : ByteArray) (dep arr cap : Int) (vL vS vB : Value) (hL : vL.oneCell' = true) (hS : vS.oneCell' = true) (hB : vB.oneCell' = true) : (rowG a b c dep arr cap vL vS vB).all (·.oneCell') = true := by
  have e1 : ∀ x, (Value.string x).oneCell' = true := fun _ => rfl
  have e2 : ∀ x, (Value.int .i64 x).oneCell' = true := fun _ => rfl
  have e3 : (Value.slice none 0 0).oneCell' = true := rfl
  simp [rowG, e1, e2, e3, hL, hS, hB]
theorem rowG_cells {W : World} {k : Nat} {t : TypeId} {i : Nat × Nat} {a b c : ByteArray} {dep arr cap : Int} {vL vS vB : Value} (h : W.heap[k]? = some (.cells (rowG a b c dep arr cap vL vS vB) t i)) :
    W.cell? ⟨k, 0, none⟩ = some (.string a) ∧ W.cell? ⟨k, 1, none⟩ = some (.string b) ∧ W.cell? ⟨k, 2, none⟩ = some (.string c) ∧ W.cell? ⟨k, 3, none⟩ = some (.int .i64 dep) ∧ W.cell? ⟨k, 4, none⟩ = some (.int .i64 arr) ∧ W.cell? ⟨k, 5, none⟩ = some (.int .i64 cap) ∧ W.cell? ⟨k, 6, none⟩ = some vL ∧ W.cell? ⟨k, 7, none⟩ = some vS ∧ W.cell? ⟨k, 8, none⟩ = some vB ∧ W.cell? ⟨k, 9, none⟩ = some (.slice none 0 0) := by
  obtain ⟨i1, i2⟩ := i
  refine ⟨?_, ?_, ?_, ?_, ?_, ?_, ?_, ?_, ?_, ?_⟩ <;> (rw [Lib.cell_of_heap h]; rfl)
theorem grown_block {w w' : World} {b g : Nat} (h : w.grownBy w' (some b)) (hg : g < w.heap.size) (hn : g ≠ b) : w'.heap[g]? = w.heap[g]? := h.block g hg (fun e => hn (Option.some.inj e))
theorem cellsI_get : ∀ (l : List Int) (i : Nat), i < l.length → (cellsI l)[i]? = some (.int .i64 (l.getD i 0))
  | [], i, h => by simp at h
  | x :: l, 0, h => rfl
  | x :: l, i + 1, h => by
    have e : cellsI (x :: l) = [Value.int .i64 x] ++ cellsI l := rfl
    rw [e, List.getElem?_append_right (by simp)]
    have := cellsI_get l i (by simpa using h)
    simpa using this
def LegPost8 (b : Nat) (s : ByteArray) (p : Nat) (w : World) (e : Ending) (w' : World) : Prop :=
  w.grownBy w' (some b) ∧ ((Hid (rdLeg (restB s p) = none) ∧ e = Fell) ∨ ∃ (x : Leg8) (q gL cL gS cS gB cB b1 b2 : Nat), Hid (rdLeg (restB s p) = some (x, restB s q)) ∧ Hid (x.nm.size ≤ s.size ∧ x.fr.size ≤ s.size ∧ x.to.size ≤ s.size ∧ x.ll.length ≤ s.size ∧ x.ls.length ≤ s.size ∧ x.lb.length ≤ s.size) ∧ e = .returned (.agg (rowG x.nm x.fr x.to x.dep x.arr (cap8 x.ll) (.slice (some ⟨gL, 0, none⟩) x.ll.length cL) (.slice (some ⟨gS, 0, none⟩) x.ls.length cS) (.slice (some ⟨gB, 0, none⟩) x.lb.length cB))) ∧
    w'.ownsRow w.heap.size 3 1 (.slice (some ⟨gL, 0, none⟩) x.ll.length cL) x.ll.length (cellsI x.ll) ∧ w'.ownsRow b1 3 1 (.slice (some ⟨gS, 0, none⟩) x.ls.length cS) x.ls.length (cellsI x.ls) ∧ w'.ownsRow b2 3 1 (.slice (some ⟨gB, 0, none⟩) x.lb.length cB) x.lb.length (cellsI x.lb) ∧ gL < b1 ∧ w.heap.size ≤ b1 ∧ b1 ≤ b2 ∧ gS < b2 ∧ RdS w' b s q)
set_option maxRecDepth 100000 in
set_option maxHeartbeats 16000000 in
theorem legC8 (w0 : World) (b : Nat) (s : ByteArray) (p : Nat) (w : World) (h : RdS w b s p) (hs : s.size ≤ 1048576) (hL : LaidE w0) (hB : Below w0.heap.size w0 w) (hb : w0.heap.size ≤ b) :
    Calls Tryz.prog 22 #[.pointer (some ⟨b, 0, none⟩)] w (LegPost8 b s p w) := by
  have hmf := makeF
  have hlt := h.lt
  have hA : Below w.heap.size w (w.alloc (.cells (rowG ⟨#[]⟩ ⟨#[]⟩ ⟨#[]⟩ 0 0 0 (.slice none 0 0) (.slice none 0 0) (.slice none 0 0)) 25)) := (Below.refl _ _).alloc (Nat.le_refl _) _
  have HR0 := Lib.hid (h.kept hA)
  have N0 := Lib.hid (nameLC b s p (w.alloc (.cells (rowG ⟨#[]⟩ ⟨#[]⟩ ⟨#[]⟩ 0 0 0 (.slice none 0 0) (.slice none 0 0) (.slice none 0 0)) 25)) (h.kept hA) hs)
  have HB0 := Lib.hid (hB.trans (hA.mono hB.size))
  have HG0 : Hid (w.grownBy (w.alloc (.cells (rowG ⟨#[]⟩ ⟨#[]⟩ ⟨#[]⟩ 0 0 0 (.slice none 0 0) (.slice none 0 0) (.slice none 0 0)) 25)) (some b)) := ⟨hA.os, hA.tape, hA.output, hA.size, fun i hi _ => hA.block i hi⟩
  have HX0 : Hid ((w.alloc (.cells (rowG ⟨#[]⟩ ⟨#[]⟩ ⟨#[]⟩ 0 0 0 (.slice none 0 0) (.slice none 0 0) (.slice none 0 0)) 25)).heap[w.heap.size]? = some (.cells (rowG ⟨#[]⟩ ⟨#[]⟩ ⟨#[]⟩ 0 0 0 (.slice none 0 0) (.slice none 0 0) (.slice none 0 0)) 25 (0, 0))) := heap_alloc_new w _
  have hz0 : w.heap.size < (w.alloc (.cells (rowG ⟨#[]⟩ ⟨#[]⟩ ⟨#[]⟩ 0 0 0 (.slice none 0 0) (.slice none 0 0) (.slice none 0 0)) 25)).heap.size := by simp
  have HL := Lib.hid hL
  clear h hL hB hA
  go_enter Tryz.func22, Tryz.ntmps22
  go_wp2_with fail
  generalize hwA : w.alloc (.cells (rowG ⟨#[]⟩ ⟨#[]⟩ ⟨#[]⟩ 0 0 0 (.slice none 0 0) (.slice none 0 0) (.slice none 0 0)) 25) = wA at *
  generalize hgx : w.heap.size = g0 at *
  have hg0b : g0 ≠ b := by omega
  refine N0.out.mono ?_
  rintro e w1 ⟨hg1, ⟨hn1, he⟩ | ⟨x1, q1, hq1, hxz1, hp1, rfl, hr1⟩⟩
  · unfold Fell at he
    subst he
    have HGf := Lib.hid (grown_trans HG0.out hg1)
    have HN := Lib.hid hn1
    clear hg1 hn1
    go_wp2
    refine ⟨rfl, HGf.out, Or.inl ⟨Lib.hid ?_, rfl⟩⟩
    simp only [rdLeg, HN.out.out, Option.bind_some, Option.bind_none]
  have HP1 := Lib.hid hp1.out
  have HG1 := Lib.hid (grown_trans HG0.out hg1)
  have HX1 := Lib.hid ((grown_block hg1 hz0 hg0b).trans HX0.out)
  have hB1 := own_below HB0.out hb hg1
  have HB1 := Lib.hid hB1
  have hz1 : g0 < w1.heap.size := Nat.lt_of_lt_of_le hz0 hg1.size
  have hs1 : wA.heap.size ≤ w1.heap.size := hg1.size
  have N1 := Lib.hid (nameLC b s q1 w1 hr1 hs)
  clear hg1 hp1 hr1 N0 HG0 HX0 HB0 hB1
  go_wp2_with fail
  refine N1.out.mono ?_
  rintro e w2 ⟨hg2, ⟨hn2, he⟩ | ⟨x2, q2, hq2, hxz2, hp2, rfl, hr2⟩⟩
  · unfold Fell at he
    subst he
    have HGf := Lib.hid (grown_trans HG1.out hg2)
    have HN := Lib.hid hn2
    clear hg2 hn2
    go_wp2
    refine ⟨rfl, HGf.out, Or.inl ⟨Lib.hid ?_, rfl⟩⟩
    simp only [rdLeg, HP1.out, HN.out.out, Option.bind_some, Option.bind_none]
  have HP2 := Lib.hid hp2.out
  have HG2 := Lib.hid (grown_trans HG1.out hg2)
  have HX2 := Lib.hid ((grown_block hg2 hz1 hg0b).trans HX1.out)
  have hB2 := own_below HB1.out hb hg2
  have HB2 := Lib.hid hB2
  have hz2 : g0 < w2.heap.size := Nat.lt_of_lt_of_le hz1 hg2.size
  have hs2 : w1.heap.size ≤ w2.heap.size := hg2.size
  have N2 := Lib.hid (nameLC b s q2 w2 hr2 hs)
  clear hg2 hp2 hr2 N1 HG1 HX1 HB1 hB2
  go_wp2_with fail
  refine N2.out.mono ?_
  rintro e w3 ⟨hg3, ⟨hn3, he⟩ | ⟨x3, q3, hq3, hxz3, hp3, rfl, hr3⟩⟩
  · unfold Fell at he
    subst he
    have HGf := Lib.hid (grown_trans HG2.out hg3)
    have HN := Lib.hid hn3
    clear hg3 hn3
    go_wp2
    refine ⟨rfl, HGf.out, Or.inl ⟨Lib.hid ?_, rfl⟩⟩
    simp only [rdLeg, HP1.out, HP2.out, HN.out.out, Option.bind_some, Option.bind_none]
  have HP3 := Lib.hid hp3.out
  have HG3 := Lib.hid (grown_trans HG2.out hg3)
  have HX3 := Lib.hid ((grown_block hg3 hz2 hg0b).trans HX2.out)
  have hB3 := own_below HB2.out hb hg3
  have HB3 := Lib.hid hB3
  have hz3 : g0 < w3.heap.size := Nat.lt_of_lt_of_le hz2 hg3.size
  have hs3 : w2.heap.size ≤ w3.heap.size := hg3.size
  have N3 := Lib.hid (timeLC w0 b s q3 w3 hr3 hs HL.out HB3.out hb)
  clear hg3 hp3 hr3 N2 HG2 HX2 HB2 hB3
  go_wp2_with fail
  refine N3.out.mono ?_
  rintro e w4 ⟨hg4, ⟨hn4, he⟩ | ⟨x4, q4, hq4, hp4, rfl, hr4⟩⟩
  · unfold Fell at he
    subst he
    have HGf := Lib.hid (grown_trans HG3.out hg4)
    have HN := Lib.hid hn4
    clear hg4 hn4
    go_wp2
    refine ⟨rfl, HGf.out, Or.inl ⟨Lib.hid ?_, rfl⟩⟩
    simp only [rdLeg, HP1.out, HP2.out, HP3.out, HN.out.out, Option.bind_some, Option.bind_none]
  have HP4 := Lib.hid hp4.out
  have HG4 := Lib.hid (grown_trans HG3.out hg4)
  have HX4 := Lib.hid ((grown_block hg4 hz3 hg0b).trans HX3.out)
  have hB4 := own_below HB3.out hb hg4
  have HB4 := Lib.hid hB4
  have hz4 : g0 < w4.heap.size := Nat.lt_of_lt_of_le hz3 hg4.size
  have hs4 : w3.heap.size ≤ w4.heap.size := hg4.size
  have N4 := Lib.hid (timeLC w0 b s q4 w4 hr4 hs HL.out HB4.out hb)
  clear hg4 hp4 hr4 N3 HG3 HX3 HB3 hB4
  go_wp2_with fail
  refine N4.out.mono ?_
  rintro e w5 ⟨hg5, ⟨hn5, he⟩ | ⟨x5, q5, hq5, hp5, rfl, hr5⟩⟩
  · unfold Fell at he
    subst he
    have HGf := Lib.hid (grown_trans HG4.out hg5)
    have HN := Lib.hid hn5
    clear hg5 hn5
    go_wp2
    refine ⟨rfl, HGf.out, Or.inl ⟨Lib.hid ?_, rfl⟩⟩
    simp only [rdLeg, HP1.out, HP2.out, HP3.out, HP4.out, HN.out.out, Option.bind_some, Option.bind_none]
  have HP5 := Lib.hid hp5.out
  have HG5 := Lib.hid (grown_trans HG4.out hg5)
  have HX5 := Lib.hid ((grown_block hg5 hz4 hg0b).trans HX4.out)
  have hB5 := own_below HB4.out hb hg5
  have HB5 := Lib.hid hB5
  have hz5 : g0 < w5.heap.size := Nat.lt_of_lt_of_le hz4 hg5.size
  have hs5 : w4.heap.size ≤ w5.heap.size := hg5.size
  have HR5 := Lib.hid hr5
  clear hg5 hp5 hr5 N4 HG4 HX4 HB4 hB5
  have HZK := Lib.hid (heap_alloc_new w5 (.cells (rowG ⟨#[]⟩ ⟨#[]⟩ ⟨#[]⟩ 0 0 0 (.slice none 0 0) (.slice none 0 0) (.slice none 0 0)) 25))
  have hgA := grown_new w5 (.cells (rowG ⟨#[]⟩ ⟨#[]⟩ ⟨#[]⟩ 0 0 0 (.slice none 0 0) (.slice none 0 0) (.slice none 0 0)) 25) (some b)
  have hgS := grown_setRow (w5.alloc (.cells (rowG ⟨#[]⟩ ⟨#[]⟩ ⟨#[]⟩ 0 0 0 (.slice none 0 0) (.slice none 0 0) (.slice none 0 0)) 25)) w5.heap.size (rowG x1 x2 x3 x4 x5 0 (.slice none 0 0) (.slice none 0 0) (.slice none 0 0))
  have hk5 : g0 ≤ w5.heap.size := Nat.le_of_lt hz5
  have hG6 : w.grownBy ((w5.alloc (.cells (rowG ⟨#[]⟩ ⟨#[]⟩ ⟨#[]⟩ 0 0 0 (.slice none 0 0) (.slice none 0 0) (.slice none 0 0)) 25)).setRow w5.heap.size (rowG x1 x2 x3 x4 x5 0 (.slice none 0 0) (.slice none 0 0) (.slice none 0 0))) (some b) := grown_own (grown_trans HG5.out hgA) hgS (by omega)
  have hbz5 := HR5.out.lt
  have hR6 := (HR5.out.kept ((Below.refl _ _).alloc (Nat.le_refl _) (.cells (rowG ⟨#[]⟩ ⟨#[]⟩ ⟨#[]⟩ 0 0 0 (.slice none 0 0) (.slice none 0 0) (.slice none 0 0)) 25))).grown hgS (by omega)
  have hB6 : Below w0.heap.size w0 ((w5.alloc (.cells (rowG ⟨#[]⟩ ⟨#[]⟩ ⟨#[]⟩ 0 0 0 (.slice none 0 0) (.slice none 0 0) (.slice none 0 0)) 25)).setRow w5.heap.size (rowG x1 x2 x3 x4 x5 0 (.slice none 0 0) (.slice none 0 0) (.slice none 0 0))) := (own_below HB5.out hb hgA).grown hgS (Nat.le_trans HB5.out.size hgA.size) (fun k e => by cases e; exact HB5.out.size)
  have HX6 := Lib.hid ((hgS.block g0 (Nat.lt_of_lt_of_le hz5 hgA.size) (by simp; omega)).trans ((grown_block hgA hz5 hg0b).trans HX5.out))
  have HK6 := Lib.hid (setRow_heap _ w5.heap.size _ (rowG x1 x2 x3 x4 x5 0 (.slice none 0 0) (.slice none 0 0) (.slice none 0 0)) _ _ (heap_alloc_new w5 (.cells (rowG ⟨#[]⟩ ⟨#[]⟩ ⟨#[]⟩ 0 0 0 (.slice none 0 0) (.slice none 0 0) (.slice none 0 0)) 25)))
  have HG6 := Lib.hid hG6
  have HB6 := Lib.hid hB6
  have N6 := Lib.hid (numbersLC w0 b s q5 _ hR6 hs HL.out hB6 hb)
  have hz6 : g0 < ((w5.alloc (.cells (rowG ⟨#[]⟩ ⟨#[]⟩ ⟨#[]⟩ 0 0 0 (.slice none 0 0) (.slice none 0 0) (.slice none 0 0)) 25)).setRow w5.heap.size (rowG x1 x2 x3 x4 x5 0 (.slice none 0 0) (.slice none 0 0) (.slice none 0 0))).heap.size := lt_heap HX6.out
  have hk6 : w5.heap.size < ((w5.alloc (.cells (rowG ⟨#[]⟩ ⟨#[]⟩ ⟨#[]⟩ 0 0 0 (.slice none 0 0) (.slice none 0 0) (.slice none 0 0)) 25)).setRow w5.heap.size (rowG x1 x2 x3 x4 x5 0 (.slice none 0 0) (.slice none 0 0) (.slice none 0 0))).heap.size := lt_heap HK6.out
  have hkb : w5.heap.size ≠ b := by omega
  have hk0 : w0.heap.size ≤ w5.heap.size := HB5.out.size
  have hkg : g0 < w5.heap.size := hz5
  clear hgA hgS hG6 hR6 hB6 HX5 HG5 HB5 HR5
  go_wp2_with (first
    | (refine wpList_store_row rfl 25 _ _ rfl w5.heap.size (rowG x1 x2 x3 x4 x5 0 (.slice none 0 0) (.slice none 0 0) (.slice none 0 0)) rfl rfl 25 (rowG ⟨#[]⟩ ⟨#[]⟩ ⟨#[]⟩ 0 0 0 (.slice none 0 0) (.slice none 0 0) (.slice none 0 0)) HZK.out legSize rfl (rowG_one _ _ _ _ _ _ _ _ _ rfl rfl rfl) ?_)
    | fail)
  generalize (w5.alloc (.cells (rowG ⟨#[]⟩ ⟨#[]⟩ ⟨#[]⟩ 0 0 0 (.slice none 0 0) (.slice none 0 0) (.slice none 0 0)) 25)).setRow w5.heap.size (rowG x1 x2 x3 x4 x5 0 (.slice none 0 0) (.slice none 0 0) (.slice none 0 0)) = w6 at *
  generalize w5.heap.size = kk at *
  clear HZK
  refine N6.out.mono ?_
  rintro e w7 ⟨hg7, ⟨hn7, he⟩ | ⟨l1, q7, gL, cL, hq7, -, hl1, -, hl1b, hp7, rfl, hown7, hgb7, hr7⟩⟩
  · unfold Fell at he
    subst he
    have HGf := Lib.hid (grown_trans HG6.out hg7)
    have HN := Lib.hid hn7
    clear hg7 hn7
    go_wp2
    refine ⟨rfl, HGf.out, Or.inl ⟨Lib.hid ?_, rfl⟩⟩
    simp only [rdLeg, HP1.out, HP2.out, HP3.out, HP4.out, HP5.out, HN.out.out, Option.bind_some, Option.bind_none]
  have HP7 := Lib.hid hp7.out
  have hltgL := hown7.lt gL rfl
  have HG7 := Lib.hid (grown_trans HG6.out hg7)
  have HX7 := Lib.hid ((grown_block hg7 hz6 hg0b).trans HX6.out)
  have hB7 := own_below HB6.out hb hg7
  have HB7 := Lib.hid hB7
  have hz7 : g0 < w7.heap.size := Nat.lt_of_lt_of_le hz6 hg7.size
  have hs7 : w6.heap.size ≤ w7.heap.size := hg7.size
  have HK7 := Lib.hid ((grown_block hg7 hk6 hkb).trans HK6.out)
  have hk7 : kk < w7.heap.size := Nat.lt_of_lt_of_le hk6 hg7.size
  have HOL7 := Lib.hid hown7
  have HR7 := Lib.hid hr7
  clear hg7 hp7 hr7 hown7 N6 HG6 HX6 HB6 hB7 HK6
  have gs8 := grown_set w7 ⟨kk, 6, none⟩ (.slice (some ⟨gL, 0, none⟩) l1.length cL)
  have hc8 := rowG_cells HK7.out
  have hfz8 := frozen_of_row _ _ 6 _ _ HK7.out
  have HK8 : Hid ((w7.setCell ⟨kk, 6, none⟩ (.slice (some ⟨gL, 0, none⟩) l1.length cL)).heap[kk]? = some (.cells (rowG x1 x2 x3 x4 x5 0 (.slice (some ⟨gL, 0, none⟩) l1.length cL) (.slice none 0 0) (.slice none 0 0)) 25 (0, 0))) := heap_setCell_same w7 kk 6 _ _ (.slice (some ⟨gL, 0, none⟩) l1.length cL) HK7.out
  have HX8 := Lib.hid ((gs8.block g0 hz7 (by simp; omega)).trans HX7.out)
  have HG8 := Lib.hid (grown_own HG7.out gs8 (show w.heap.size ≤ kk by omega))
  have HB8 := Lib.hid (HB7.out.grown gs8 HB7.out.size (fun k e => by cases e; exact hk0))
  have HR8 := Lib.hid (HR7.out.grown gs8 hkb)
  have hz8 : g0 < (w7.setCell ⟨kk, 6, none⟩ (.slice (some ⟨gL, 0, none⟩) l1.length cL)).heap.size := lt_heap HX8.out
  have hk8 : kk < (w7.setCell ⟨kk, 6, none⟩ (.slice (some ⟨gL, 0, none⟩) l1.length cL)).heap.size := lt_heap HK8.out
  have hs8 : w7.heap.size ≤ (w7.setCell ⟨kk, 6, none⟩ (.slice (some ⟨gL, 0, none⟩) l1.length cL)).heap.size := gs8.size
  have HOL8 := Lib.hid (HOL7.out.kept gs8 (Or.inr (by simp [Value.ownBlock]; omega)))
  have N8 := Lib.hid (needC 32 32 rfl b s q7 _ HR8.out hs)
  obtain ⟨-, -, -, -, -, -, c6, -⟩ := hc8
  clear HK7 HX7 HG7 HB7 HR7 gs8 HOL7
  go_wp2_with fail
  generalize (w7.setCell ⟨kk, 6, none⟩ (.slice (some ⟨gL, 0, none⟩) l1.length cL)) = w8 at *
  clear c6 hfz8
  refine N8.out.mono ?_
  rintro e w9 ⟨hg9, ⟨hn9, he⟩ | ⟨hn9, rfl, hr9⟩⟩
  · unfold Fell at he
    subst he
    have HGf := Lib.hid (grown_trans HG8.out hg9)
    have HN := Lib.hid hn9
    clear hg9 hn9
    go_wp2
    refine ⟨rfl, HGf.out, Or.inl ⟨Lib.hid ?_, rfl⟩⟩
    simp only [rdLeg, HP1.out, HP2.out, HP3.out, HP4.out, HP5.out, HP7.out, HN.out, Option.bind_some, Option.bind_none]
  have HP9 := Lib.hid hn9
  have hle9 := hr9.le
  have HG9 := Lib.hid (grown_trans HG8.out hg9)
  have HX9 := Lib.hid ((grown_block hg9 hz8 hg0b).trans HX8.out)
  have hB9 := own_below HB8.out hb hg9
  have HB9 := Lib.hid hB9
  have hz9 : g0 < w9.heap.size := Nat.lt_of_lt_of_le hz8 hg9.size
  have hs9 : w8.heap.size ≤ w9.heap.size := hg9.size
  have HK9 := Lib.hid ((grown_block hg9 hk8 hkb).trans HK8.out)
  have hk9 : kk < w9.heap.size := Nat.lt_of_lt_of_le hk8 hg9.size
  have HOL9 := Lib.hid (HOL8.out.kept hg9 (Or.inr (by simp [Value.ownBlock]; omega)))
  have N9 := Lib.hid (numbersLC w0 b s (q7 + 1) w9 hr9 hs HL.out HB9.out hb)
  clear hg9 hn9 hr9 N8 HG8 HX8 HB8 hB9 HK8 HOL8
  go_wp2_with fail
  refine N9.out.mono ?_
  rintro e w10 ⟨hg10, ⟨hn10, he⟩ | ⟨l2, q10, gS, cS, hq10, -, hl2, -, hl2b, hp10, rfl, hown10, hgb10, hr10⟩⟩
  · unfold Fell at he
    subst he
    have HGf := Lib.hid (grown_trans HG9.out hg10)
    have HN := Lib.hid hn10
    clear hg10 hn10
    go_wp2
    refine ⟨rfl, HGf.out, Or.inl ⟨Lib.hid ?_, rfl⟩⟩
    simp only [rdLeg, HP1.out, HP2.out, HP3.out, HP4.out, HP5.out, HP7.out, HP9.out, HN.out.out, Option.bind_some, Option.bind_none]
  have HP10 := Lib.hid hp10.out
  have hltgS := hown10.lt gS rfl
  have HG10 := Lib.hid (grown_trans HG9.out hg10)
  have HX10 := Lib.hid ((grown_block hg10 hz9 hg0b).trans HX9.out)
  have hB10 := own_below HB9.out hb hg10
  have HB10 := Lib.hid hB10
  have hz10 : g0 < w10.heap.size := Nat.lt_of_lt_of_le hz9 hg10.size
  have hs10 : w9.heap.size ≤ w10.heap.size := hg10.size
  have HK10 := Lib.hid ((grown_block hg10 hk9 hkb).trans HK9.out)
  have hk10 : kk < w10.heap.size := Nat.lt_of_lt_of_le hk9 hg10.size
  have HOL10 := Lib.hid (HOL9.out.kept hg10 (Or.inr (by simp [Value.ownBlock]; omega)))
  have HOS10 := Lib.hid hown10
  have HR10 := Lib.hid hr10
  clear hg10 hp10 hr10 hown10 N9 HG9 HX9 HB9 hB10 HK9 HOL9
  have gs11 := grown_set w10 ⟨kk, 7, none⟩ (.slice (some ⟨gS, 0, none⟩) l2.length cS)
  have hc11 := rowG_cells HK10.out
  have hfz11 := frozen_of_row _ _ 7 _ _ HK10.out
  have HK11 : Hid ((w10.setCell ⟨kk, 7, none⟩ (.slice (some ⟨gS, 0, none⟩) l2.length cS)).heap[kk]? = some (.cells (rowG x1 x2 x3 x4 x5 0 (.slice (some ⟨gL, 0, none⟩) l1.length cL) (.slice (some ⟨gS, 0, none⟩) l2.length cS) (.slice none 0 0)) 25 (0, 0))) := heap_setCell_same w10 kk 7 _ _ (.slice (some ⟨gS, 0, none⟩) l2.length cS) HK10.out
  have HX11 := Lib.hid ((gs11.block g0 hz10 (by simp; omega)).trans HX10.out)
  have HG11 := Lib.hid (grown_own HG10.out gs11 (show w.heap.size ≤ kk by omega))
  have HB11 := Lib.hid (HB10.out.grown gs11 HB10.out.size (fun k e => by cases e; exact hk0))
  have HR11 := Lib.hid (HR10.out.grown gs11 hkb)
  have hz11 : g0 < (w10.setCell ⟨kk, 7, none⟩ (.slice (some ⟨gS, 0, none⟩) l2.length cS)).heap.size := lt_heap HX11.out
  have hk11 : kk < (w10.setCell ⟨kk, 7, none⟩ (.slice (some ⟨gS, 0, none⟩) l2.length cS)).heap.size := lt_heap HK11.out
  have hs11 : w10.heap.size ≤ (w10.setCell ⟨kk, 7, none⟩ (.slice (some ⟨gS, 0, none⟩) l2.length cS)).heap.size := gs11.size
  have HOL11 := Lib.hid (HOL10.out.kept gs11 (Or.inr (by simp [Value.ownBlock]; omega)))
  have HOS11 := Lib.hid (HOS10.out.kept gs11 (Or.inr (by simp [Value.ownBlock]; omega)))
  have N11 := Lib.hid (needC 32 32 rfl b s q10 _ HR11.out hs)
  obtain ⟨-, -, -, -, -, -, -, c7, -⟩ := hc11
  clear HK10 HX10 HG10 HB10 HR10 gs11 HOL10 HOS10
  go_wp2_with fail
  generalize (w10.setCell ⟨kk, 7, none⟩ (.slice (some ⟨gS, 0, none⟩) l2.length cS)) = w11 at *
  clear c7 hfz11
  refine N11.out.mono ?_
  rintro e w12 ⟨hg12, ⟨hn12, he⟩ | ⟨hn12, rfl, hr12⟩⟩
  · unfold Fell at he
    subst he
    have HGf := Lib.hid (grown_trans HG11.out hg12)
    have HN := Lib.hid hn12
    clear hg12 hn12
    go_wp2
    refine ⟨rfl, HGf.out, Or.inl ⟨Lib.hid ?_, rfl⟩⟩
    simp only [rdLeg, HP1.out, HP2.out, HP3.out, HP4.out, HP5.out, HP7.out, HP9.out, HP10.out, HN.out, Option.bind_some, Option.bind_none]
  have HP12 := Lib.hid hn12
  have hle12 := hr12.le
  have HG12 := Lib.hid (grown_trans HG11.out hg12)
  have HX12 := Lib.hid ((grown_block hg12 hz11 hg0b).trans HX11.out)
  have hB12 := own_below HB11.out hb hg12
  have HB12 := Lib.hid hB12
  have hz12 : g0 < w12.heap.size := Nat.lt_of_lt_of_le hz11 hg12.size
  have hs12 : w11.heap.size ≤ w12.heap.size := hg12.size
  have HK12 := Lib.hid ((grown_block hg12 hk11 hkb).trans HK11.out)
  have hk12 : kk < w12.heap.size := Nat.lt_of_lt_of_le hk11 hg12.size
  have HOL12 := Lib.hid (HOL11.out.kept hg12 (Or.inr (by simp [Value.ownBlock]; omega)))
  have HOS12 := Lib.hid (HOS11.out.kept hg12 (Or.inr (by simp [Value.ownBlock]; omega)))
  have N12 := Lib.hid (numbersLC w0 b s (q10 + 1) w12 hr12 hs HL.out HB12.out hb)
  clear hg12 hn12 hr12 N11 HG11 HX11 HB11 hB12 HK11 HOL11 HOS11
  go_wp2_with fail
  refine N12.out.mono ?_
  rintro e w13 ⟨hg13, ⟨hn13, he⟩ | ⟨l3, q13, gB, cB, hq13, -, hl3, -, hl3b, hp13, rfl, hown13, hgb13, hr13⟩⟩
  · unfold Fell at he
    subst he
    have HGf := Lib.hid (grown_trans HG12.out hg13)
    have HN := Lib.hid hn13
    clear hg13 hn13
    go_wp2
    refine ⟨rfl, HGf.out, Or.inl ⟨Lib.hid ?_, rfl⟩⟩
    simp only [rdLeg, HP1.out, HP2.out, HP3.out, HP4.out, HP5.out, HP7.out, HP9.out, HP10.out, HP12.out, HN.out.out, Option.bind_some, Option.bind_none]
  have HP13 := Lib.hid hp13.out
  have hltgB := hown13.lt gB rfl
  have HG13 := Lib.hid (grown_trans HG12.out hg13)
  have HX13 := Lib.hid ((grown_block hg13 hz12 hg0b).trans HX12.out)
  have hB13 := own_below HB12.out hb hg13
  have HB13 := Lib.hid hB13
  have hz13 : g0 < w13.heap.size := Nat.lt_of_lt_of_le hz12 hg13.size
  have hs13 : w12.heap.size ≤ w13.heap.size := hg13.size
  have HK13 := Lib.hid ((grown_block hg13 hk12 hkb).trans HK12.out)
  have hk13 : kk < w13.heap.size := Nat.lt_of_lt_of_le hk12 hg13.size
  have HOL13 := Lib.hid (HOL12.out.kept hg13 (Or.inr (by simp [Value.ownBlock]; omega)))
  have HOS13 := Lib.hid (HOS12.out.kept hg13 (Or.inr (by simp [Value.ownBlock]; omega)))
  have HOB13 := Lib.hid hown13
  have HR13 := Lib.hid hr13
  clear hg13 hp13 hr13 hown13 N12 HG12 HX12 HB12 hB13 HK12 HOL12 HOS12
  have gs14 := grown_set w13 ⟨kk, 8, none⟩ (.slice (some ⟨gB, 0, none⟩) l3.length cB)
  have hc14 := rowG_cells HK13.out
  have hfz14 := frozen_of_row _ _ 8 _ _ HK13.out
  have HK14 : Hid ((w13.setCell ⟨kk, 8, none⟩ (.slice (some ⟨gB, 0, none⟩) l3.length cB)).heap[kk]? = some (.cells (rowG x1 x2 x3 x4 x5 0 (.slice (some ⟨gL, 0, none⟩) l1.length cL) (.slice (some ⟨gS, 0, none⟩) l2.length cS) (.slice (some ⟨gB, 0, none⟩) l3.length cB)) 25 (0, 0))) := heap_setCell_same w13 kk 8 _ _ (.slice (some ⟨gB, 0, none⟩) l3.length cB) HK13.out
  have HX14 := Lib.hid ((gs14.block g0 hz13 (by simp; omega)).trans HX13.out)
  have HG14 := Lib.hid (grown_own HG13.out gs14 (show w.heap.size ≤ kk by omega))
  have HB14 := Lib.hid (HB13.out.grown gs14 HB13.out.size (fun k e => by cases e; exact hk0))
  have HR14 := Lib.hid (HR13.out.grown gs14 hkb)
  have hz14 : g0 < (w13.setCell ⟨kk, 8, none⟩ (.slice (some ⟨gB, 0, none⟩) l3.length cB)).heap.size := lt_heap HX14.out
  have hk14 : kk < (w13.setCell ⟨kk, 8, none⟩ (.slice (some ⟨gB, 0, none⟩) l3.length cB)).heap.size := lt_heap HK14.out
  have hs14 : w13.heap.size ≤ (w13.setCell ⟨kk, 8, none⟩ (.slice (some ⟨gB, 0, none⟩) l3.length cB)).heap.size := gs14.size
  have HOL14 := Lib.hid (HOL13.out.kept gs14 (Or.inr (by simp [Value.ownBlock]; omega)))
  have HOS14 := Lib.hid (HOS13.out.kept gs14 (Or.inr (by simp [Value.ownBlock]; omega)))
  have HOB14 := Lib.hid (HOB13.out.kept gs14 (Or.inr (by simp [Value.ownBlock]; omega)))
  obtain ⟨-, -, -, -, -, -, -, -, c8, -⟩ := hc14
  obtain ⟨-, -, -, -, -, d5, d6, -⟩ := rowG_cells HK14.out
  have dz := frozen_of_row _ _ 5 _ _ HK14.out
  have hle13 := HR14.out.le
  obtain ⟨cv, hcv⟩ : ∃ cv, cap8 l1 = cv := ⟨_, rfl⟩
  have HV := Lib.hid hcv
  have dg : (w13.setCell ⟨kk, 8, none⟩ (.slice (some ⟨gB, 0, none⟩) l3.length cB)).cell? ⟨gL, 0, none⟩ = some (.int .i64 cv) := by rw [← hcv]; exact (HOL14.out.cellAt 0 (by omega)).trans (cellsI_get l1 0 (by omega))
  clear hcv
  have i1 : (0 : Int) < (l1.length : Int) := by omega
  have gs15 := grown_set (w13.setCell ⟨kk, 8, none⟩ (.slice (some ⟨gB, 0, none⟩) l3.length cB)) ⟨kk, 5, none⟩ (.int .i64 cv)
  have hc15 := rowG_cells HK14.out
  have hfz15 := frozen_of_row _ _ 5 _ _ HK14.out
  have HK15 : Hid (((w13.setCell ⟨kk, 8, none⟩ (.slice (some ⟨gB, 0, none⟩) l3.length cB)).setCell ⟨kk, 5, none⟩ (.int .i64 cv)).heap[kk]? = some (.cells (rowG x1 x2 x3 x4 x5 cv (.slice (some ⟨gL, 0, none⟩) l1.length cL) (.slice (some ⟨gS, 0, none⟩) l2.length cS) (.slice (some ⟨gB, 0, none⟩) l3.length cB)) 25 (0, 0))) := heap_setCell_same (w13.setCell ⟨kk, 8, none⟩ (.slice (some ⟨gB, 0, none⟩) l3.length cB)) kk 5 _ _ (.int .i64 cv) HK14.out
  have HX15 := Lib.hid ((gs15.block g0 hz14 (by simp; omega)).trans HX14.out)
  have HG15 := Lib.hid (grown_own HG14.out gs15 (show w.heap.size ≤ kk by omega))
  have HB15 := Lib.hid (HB14.out.grown gs15 HB14.out.size (fun k e => by cases e; exact hk0))
  have HR15 := Lib.hid (HR14.out.grown gs15 hkb)
  have hz15 : g0 < ((w13.setCell ⟨kk, 8, none⟩ (.slice (some ⟨gB, 0, none⟩) l3.length cB)).setCell ⟨kk, 5, none⟩ (.int .i64 cv)).heap.size := lt_heap HX15.out
  have hk15 : kk < ((w13.setCell ⟨kk, 8, none⟩ (.slice (some ⟨gB, 0, none⟩) l3.length cB)).setCell ⟨kk, 5, none⟩ (.int .i64 cv)).heap.size := lt_heap HK15.out
  have hs15 : (w13.setCell ⟨kk, 8, none⟩ (.slice (some ⟨gB, 0, none⟩) l3.length cB)).heap.size ≤ ((w13.setCell ⟨kk, 8, none⟩ (.slice (some ⟨gB, 0, none⟩) l3.length cB)).setCell ⟨kk, 5, none⟩ (.int .i64 cv)).heap.size := gs15.size
  have HOL15 := Lib.hid (HOL14.out.kept gs15 (Or.inr (by simp [Value.ownBlock]; omega)))
  have HOS15 := Lib.hid (HOS14.out.kept gs15 (Or.inr (by simp [Value.ownBlock]; omega)))
  have HOB15 := Lib.hid (HOB14.out.kept gs15 (Or.inr (by simp [Value.ownBlock]; omega)))
  obtain ⟨z0, z1, z2, z3, z4, z5, z6, z7, z8, z9⟩ := rowG_cells HK15.out
  have gs16 := grown_setRow ((w13.setCell ⟨kk, 8, none⟩ (.slice (some ⟨gB, 0, none⟩) l3.length cB)).setCell ⟨kk, 5, none⟩ (.int .i64 cv)) g0 (rowG x1 x2 x3 x4 x5 cv (.slice (some ⟨gL, 0, none⟩) l1.length cL) (.slice (some ⟨gS, 0, none⟩) l2.length cS) (.slice (some ⟨gB, 0, none⟩) l3.length cB))
  have HZ16 := Lib.hid (rowG_cells (setRow_heap _ g0 _ (rowG x1 x2 x3 x4 x5 cv (.slice (some ⟨gL, 0, none⟩) l1.length cL) (.slice (some ⟨gS, 0, none⟩) l2.length cS) (.slice (some ⟨gB, 0, none⟩) l3.length cB)) _ _ HX15.out))
  have HG16 := Lib.hid (grown_own HG15.out gs16 (show w.heap.size ≤ g0 by omega))
  have HR16 := Lib.hid (HR15.out.grown gs16 hg0b)
  have HOL16 := Lib.hid (ownMonoN (HOL15.out.kept gs16 (Or.inr (by simp [Value.ownBlock]; omega))) (show w.heap.size ≤ w6.heap.size by omega))
  have HOS16 := Lib.hid (HOS15.out.kept gs16 (Or.inr (by simp [Value.ownBlock]; omega)))
  have HOB16 := Lib.hid (HOB15.out.kept gs16 (Or.inr (by simp [Value.ownBlock]; omega)))
  clear gs16 hc15 HK13 HX13 HG13 HB13 HR13 gs14 HOL13 HOS13 HOB13 HK14 HX14 HG14 HB14 HR14 gs15 HOL14 HOS14 HOB14
  go_wp2_with (first
    | (refine wpList_store_row rfl 25 _ _ rfl g0 (rowG x1 x2 x3 x4 x5 cv (.slice (some ⟨gL, 0, none⟩) l1.length cL) (.slice (some ⟨gS, 0, none⟩) l2.length cS) (.slice (some ⟨gB, 0, none⟩) l3.length cB)) rfl rfl 25 (rowG ⟨#[]⟩ ⟨#[]⟩ ⟨#[]⟩ 0 0 0 (.slice none 0 0) (.slice none 0 0) (.slice none 0 0)) HX15.out legSize rfl (rowG_one _ _ _ _ _ _ _ _ _ rfl rfl rfl) ?_)
    | fail)
  generalize (((w13.setCell ⟨kk, 8, none⟩ (.slice (some ⟨gB, 0, none⟩) l3.length cB)).setCell ⟨kk, 5, none⟩ (.int .i64 cv))).setRow g0 (rowG x1 x2 x3 x4 x5 cv (.slice (some ⟨gL, 0, none⟩) l1.length cL) (.slice (some ⟨gS, 0, none⟩) l2.length cS) (.slice (some ⟨gB, 0, none⟩) l3.length cB)) = w16 at *
  obtain ⟨y0, y1, y2, y3, y4, y5, y6, y7, y8, y9⟩ := HZ16.out
  (try simp only [Exit.inBlock, Exit.then])
  refine bodyPost_ret (v := .agg (rowG x1 x2 x3 x4 x5 cv (.slice (some ⟨gL, 0, none⟩) l1.length cL) (.slice (some ⟨gS, 0, none⟩) l2.length cS) (.slice (some ⟨gB, 0, none⟩) l3.length cB))) ?_ rfl ⟨HG16.out, Or.inr ⟨⟨x1, x2, x3, x4, x5, l1, l2, l3⟩, q13, gL, cL, gS, cS, gB, cB, w9.heap.size, w12.heap.size, Lib.hid ?_, ⟨hxz1, hxz2, hxz3, (show l1.length ≤ s.size by omega), (show l2.length ≤ s.size by omega), (show l3.length ≤ s.size by omega)⟩, by rw [HV.out], HOL16.out, HOS16.out, HOB16.out, by omega, by omega, by omega, by omega, HR16.out⟩⟩
  · rw [results_cell1 rfl]
    go_simp
  · simp only [rdLeg, HP1.out, HP2.out, HP3.out, HP4.out, HP5.out, HP7.out, HP9.out, HP10.out, HP12.out, HP13.out, Option.bind_some]
end Go.Proofs.YtdaccpffdnbkiaaGreatDoor
