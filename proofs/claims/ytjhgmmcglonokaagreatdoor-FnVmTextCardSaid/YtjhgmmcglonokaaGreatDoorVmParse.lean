/-
  Programs that were written are read as they were, by both readers. No program is walked here.
-/
import Derived.Test.YtjhgmmcglonokaaGreatDoorJ20
import Derived.Test.YtjhgmmcglonokaaGreatDoorReadMath
import Derived.Test.YtjhgmmcglonokaaGreatDoorInt2
import Derived.Test.YtjhgmmcglonokaaGreatDoorCut3
namespace Go.Proofs.YtjhgmmcglonokaaGreatDoor
open Go.RowKit
set_option linter.unusedVariables false
set_option linter.unusedSimpArgs false

/-! Words. -/
def opsV : List Int := [1, 2, 3, 4, 5, 6, 7, 8, 9, 10, 11]
def opOfV (u : List UInt8) : Option Int := opsV.find? fun o => wordV o == u
theorem opOf_word {o : Int} (h : 1 ≤ o ∧ o ≤ 11) : opOfV (wordV o) = some o := by
  rcases ops11 h with rfl | rfl | rfl | rfl | rfl | rfl | rfl | rfl | rfl | rfl | rfl <;> decide
theorem word_let {o : Int} (h : 1 ≤ o ∧ o ≤ 11) : ∀ x ∈ wordV o, letS.contains x = true := by
  rcases ops11 h with rfl | rfl | rfl | rfl | rfl | rfl | rfl | rfl | rfl | rfl | rfl <;> decide
theorem let_in {b : UInt8} (h : letB b = true) : letS.contains b = true := by
  have q : ∀ n, n < 123 → 97 ≤ n → letS.contains (UInt8.ofNat n) = true := by decide
  simp only [letB, Bool.and_eq_true, decide_eq_true_eq] at h
  have := q b.toNat (by omega) (by omega)
  rwa [UInt8.ofNat_toNat] at this
theorem name_in {l : List UInt8} (h : nameB l = true) : ∀ x ∈ l, letS.contains x = true := by
  simp only [nameB, Bool.and_eq_true] at h
  exact fun x hx => let_in (List.all_eq_true.1 h.2 x hx)
theorem let_no {l : List UInt8} {b : UInt8} (hl : ∀ x ∈ l, letS.contains x = true) (h : letS.contains b = false) : b ∉ l := fun q => by
  have := hl b q
  rw [h] at this; cases this
theorem itoa_no {x : Int} {b : UInt8} (h : figS.contains b = false) : b ∉ Lib.itoa x := fun q => by
  have := itoa_figs x b q
  rw [h] at this; cases this
theorem digs_head {k : Nat} : ∀ u, u ≤ k → 1 ≤ u → (Lib.decDigits u).head? ≠ some 48 := by
  induction k with
  | zero => intro u a b; omega
  | succ k ih =>
    intro u a b
    by_cases h : u < 10
    · rw [Lib.decDigits_one h]
      have : ∀ u, u < 10 → 1 ≤ u → ([UInt8.ofNat (48 + u)] : List UInt8).head? ≠ some 48 := by decide
      exact this u h b
    · rw [Lib.decDigits.eq_1 u, dif_neg h]
      have hne := digs_ne (u / 10)
      have := ih (u / 10) (by omega) (by omega)
      generalize Lib.decDigits (u / 10) = D at *
      cases D with
      | nil => exact absurd rfl hne
      | cons c r => simpa using this
theorem numV_digs (u : Nat) (hu : u < 1000000000000) : numV (Lib.decDigits u) = u := by
  have hl := digs_len 11 u (by omega)
  have h1 : 1 ≤ (Lib.decDigits u).length := by rw [Lib.decDigits_length]; exact Lib.nDigits_pos u
  have hok : numOk (Lib.decDigits u) = true := by
    unfold numOk
    by_cases h10 : u < 10
    · rw [Lib.decDigits_one h10]; simp
    · have h3 : ((Lib.decDigits u).head? == some 48) = false := by
        cases h : (Lib.decDigits u).head? == some 48 with
        | false => rfl
        | true => exact absurd (by simpa using h) (digs_head u (Nat.le_refl _) (by omega))
      rw [h3]; simp; omega
  rw [numV, hok, decFromD u u (Nat.le_refl _)]; rfl
theorem numV_itoa {x : Int} (h0 : 0 ≤ x) (h1 : x < 1000000000000) : numV (Lib.itoa x) = x := by
  rw [Lib.itoa, if_neg (by omega), numV_digs _ (by omega)]; omega
theorem intV_itoa {x : Int} (h0 : -1000000000000 < x) (h1 : x < 1000000000000) : intV (Lib.itoa x) = x := by
  by_cases hx : x < 0
  · rw [Lib.itoa, if_pos hx]
    show (if (45 : UInt8) = 45 then -(numV (Lib.decDigits x.natAbs)) else numV (45 :: Lib.decDigits x.natAbs)) = x
    rw [if_pos rfl, numV_digs _ (by omega)]; omega
  · have e := numV_itoa (x := x) (by omega) h1
    have hf := digs_fig x.toNat x.toNat (Nat.le_refl _)
    have hne := digs_ne x.toNat
    rw [Lib.itoa, if_neg hx] at e ⊢
    have e2 : (Lib.decDigits x.toNat) = Lib.decDigits x.toNat := rfl
    generalize Lib.decDigits x.toNat = D at *
    cases D with
    | nil => exact absurd rfl hne
    | cons c r =>
      have hc := hf c (by simp)
      show (if c = 45 then -(numV r) else numV (c :: r)) = x
      rw [if_neg (by intro q; subst q; simp at hc)]; exact e

/-! The program's reader. -/
def rdMark (l : List UInt8) : Option ((Int × Int) × List UInt8) := (rdNum l).bind fun a => (rdNext 58 a.2).bind fun r => (rdNum r).bind fun b => some ((a.1, b.1), b.2)
def rdArg (o : Int) (l : List UInt8) : Option (Pl × List UInt8) :=
  if o = 1 ∨ o = 9 ∨ o = 11 then (rdNext 32 l).bind fun r => (rdNum r).bind fun a => some (⟨o, a.1, ⟨#[]⟩, []⟩, a.2)
  else if o = 2 then (rdNext 32 l).bind fun r => some (⟨o, 0, ⟨(runOf letS r).toArray⟩, []⟩, offOf letS r)
  else if o = 10 then (rdNext 32 l).bind fun r => (rdList 32 rdMark r).bind fun a => some (⟨o, 0, ⟨#[]⟩, a.1⟩, a.2)
  else some (⟨o, 0, ⟨#[]⟩, []⟩, l)
def rdPl (l : List UInt8) : Option (Pl × List UInt8) := (opOfV (runOf letS l)).bind fun o => (rdArg o (offOf letS l)).bind fun a => (rdNext 10 a.2).bind fun r => some (a.1, r)
def rdCode : Nat → List UInt8 → List Pl → Option (List Pl)
  | 0, l, acc => some acc
  | n + 1, l, acc => if l = [] then some acc else (rdPl l).bind fun a => rdCode n a.2 (acc ++ [a.1])
theorem markT_list (m : Int × Int) : (markT m).data.toList = Lib.itoa m.1 ++ 58 :: Lib.itoa m.2 := by
  simp [markT, intB]
def SmMk (ms : List (Int × Int)) : Prop := ∀ m ∈ ms, (0 ≤ m.1 ∧ m.1 ≤ 1000000000) ∧ (0 ≤ m.2 ∧ m.2 ≤ 1000000)
theorem rdMark_text {m : Int × Int} (h : (0 ≤ m.1 ∧ m.1 ≤ 1000000000) ∧ (0 ≤ m.2 ∧ m.2 ≤ 1000000)) {r : List UInt8} (hr : ∀ a b, r = a :: b → figS.contains a = false) : rdMark ((markT m).data.toList ++ r) = some (m, r) := by
  unfold rdMark
  rw [markT_list, List.append_assoc, rdNum_itoa (by omega) (fun a b e => by cases e; rfl), Option.bind_some]
  simp only [List.cons_append]
  rw [rdNext_cons, Option.bind_some, rdNum_itoa (by omega) hr]; rfl
theorem ahead_head (r : List (Int × Int)) {t : List UInt8} (ht : ∀ a b, t = a :: b → figS.contains a = false) : ∀ a b, aheadT r ++ t = a :: b → figS.contains a = false := by
  intro a b e
  cases r with
  | nil => exact ht a b e
  | cons x r => unfold aheadT at e; rw [List.flatMap_cons, List.cons_append, List.cons_append] at e; cases e; rfl
theorem aheadT_cons (m : Int × Int) (r : List (Int × Int)) : aheadT (m :: r) = 32 :: ((markT m).data.toList ++ aheadT r) := by
  unfold aheadT; rw [List.flatMap_cons]; rfl
theorem marksT_cons (m : Int × Int) (r : List (Int × Int)) : marksT 32 (m :: r) = (markT m).data.toList ++ aheadT r := by
  have h := aheadT_eq (ms := m :: r) (by simp)
  rw [aheadT_cons] at h
  injection h with _ h
  exact h.symm
theorem rdTail_marks {t : List UInt8} (ht : ∀ a b, t = a :: b → figS.contains a = false) (hn : rdNext 32 t = none) : ∀ (r : List (Int × Int)) (n : Nat) (acc : List (Int × Int)), SmMk r → (aheadT r ++ t).length ≤ n → rdTail 32 rdMark n (aheadT r ++ t) acc = some (acc ++ r, t)
  | [], n, acc, h, hl => by
    show rdTail 32 rdMark n t acc = _
    rw [rdTail_stop hn]; simp
  | x :: r, n, acc, h, hl => by
    have h1 : rdNext 32 (aheadT (x :: r) ++ t) = some ((markT x).data.toList ++ (aheadT r ++ t)) := by
      rw [aheadT_cons, List.cons_append, rdNext_cons, List.append_assoc]
    have h2 := rdMark_text (h x (by simp)) (ahead_head r ht)
    obtain ⟨m, -, hm, e⟩ := rdTail_more h1 h2 hl acc
    rw [e, rdTail_marks ht hn r m _ (fun y hy => h y (by simp [hy])) (by rw [List.length_append] at hm; omega)]
    simp
theorem rdList_marks {l : List (Int × Int)} (h0 : l.length ≠ 0) (h : SmMk l) {t : List UInt8} (ht : ∀ a b, t = a :: b → figS.contains a = false) (hn : rdNext 32 t = none) : rdList 32 rdMark (marksT 32 l ++ t) = some (l, t) := by
  cases l with
  | nil => simp at h0
  | cons x r =>
    rw [marksT_cons, List.append_assoc, rdList, rdMark_text (h x (by simp)) (ahead_head r ht)]
    simp only
    rw [rdTail_marks ht hn r _ _ (fun y hy => h y (by simp [hy])) (Nat.le_refl _)]
    rfl
theorem bytes0 {s : ByteArray} (h : s.size = 0) : s = ⟨#[]⟩ := by
  apply ByteArray.ext; apply Array.ext'
  exact List.eq_nil_of_length_eq_zero (by simpa using h)
theorem bytesL (s : ByteArray) : (⟨s.data.toList.toArray⟩ : ByteArray) = s := by
  apply ByteArray.ext; apply Array.ext'; simp
/-- A place as it is ok. -/
def OkPl (d : Pl) : Prop := (1 ≤ d.op ∧ d.op ≤ 11) ∧ ∃ k : Int, k ≤ 1000000 ∧ HoldsV d.op d.num k d.nm d.ms
theorem arg_head (d : Pl) (r : List UInt8) : ∀ a b, argV d ++ 10 :: r = a :: b → letS.contains a = false := by
  intro a b e
  unfold argV at e
  split at e
  · cases e; rfl
  split at e
  · cases e; rfl
  split at e
  · cases e; rfl
  · cases e; rfl
/-- What a place that is ok has. -/
theorem okPl_cases {d : Pl} (h : OkPl d) : ((d.op = 1 ∨ d.op = 9 ∨ d.op = 11) ∧ d = ⟨d.op, d.num, ⟨#[]⟩, []⟩ ∧ -1000000000 ≤ d.num ∧ d.num ≤ 1000000000) ∨ (d.op = 2 ∧ d = ⟨d.op, 0, d.nm, []⟩ ∧ nameB d.nm.data.toList = true) ∨ (d.op = 10 ∧ d = ⟨d.op, 0, ⟨#[]⟩, d.ms⟩ ∧ MOk (mF d.ms) (mP d.ms) d.ms.length) ∨ ((¬ (d.op = 1 ∨ d.op = 9 ∨ d.op = 11) ∧ d.op ≠ 2 ∧ d.op ≠ 10) ∧ d = ⟨d.op, 0, ⟨#[]⟩, []⟩) := by
  obtain ⟨ho, k, hk, h⟩ := h
  obtain ⟨o, n, s, ms⟩ := d
  dsimp only at ho h ⊢
  unfold HoldsV HoldsN at h
  split at h
  · rename_i c
    obtain ⟨a, b, e⟩ := h
    have := bytes0 b
    have e' := List.eq_nil_of_length_eq_zero e
    subst this e'
    exact Or.inl ⟨by omega, rfl, by omega, by omega⟩
  rename_i c
  split at h
  · rename_i c1
    obtain ⟨a, b, e⟩ := h
    have := bytes0 b
    have e' := List.eq_nil_of_length_eq_zero e
    subst this e'
    exact Or.inl ⟨by omega, rfl, by omega, by omega⟩
  rename_i c1
  split at h
  · rename_i c2
    obtain ⟨a, b, e⟩ := h
    have e' := List.eq_nil_of_length_eq_zero e
    subst b e'
    exact Or.inr (Or.inl ⟨c2, rfl, a⟩)
  rename_i c2
  split at h
  · rename_i c3
    obtain ⟨a, b, e⟩ := h
    have := bytes0 b
    subst this a
    exact Or.inr (Or.inr (Or.inl ⟨c3, rfl, e⟩))
  · rename_i c3
    obtain ⟨a, b, e⟩ := h
    have := bytes0 b
    have e' := List.eq_nil_of_length_eq_zero e
    subst this a e'
    exact Or.inr (Or.inr (Or.inr ⟨by omega, rfl⟩))
theorem rdPl_line {d : Pl} (h : OkPl d) (r : List UInt8) : rdPl (lineV d ++ r) = some (d, r) := by
  have e0 : lineV d ++ r = wordV d.op ++ (argV d ++ 10 :: r) := by unfold lineV; simp
  obtain ⟨h1, h2⟩ := run_app letS (wordV d.op) (argV d ++ 10 :: r) (word_let h.1) (arg_head d r)
  unfold rdPl
  rw [e0, h1, h2, opOf_word h.1, Option.bind_some]
  have key : rdArg d.op (argV d ++ 10 :: r) = some (d, 10 :: r) := by
    rcases okPl_cases h with ⟨c, e, b1, b2⟩ | ⟨c, e, b1⟩ | ⟨c, e, b1⟩ | ⟨⟨c, c2, c3⟩, e⟩
    · unfold rdArg argV
      rw [if_pos c, if_pos c, List.cons_append, rdNext_cons, Option.bind_some]
      show (rdNum (Lib.itoa d.num ++ 10 :: r)).bind _ = _
      rw [rdNum_itoa (by omega) (fun a b e => by cases e; rfl), Option.bind_some]
      simp only
      rw [← e]
    · have hn : ¬ (d.op = 1 ∨ d.op = 9 ∨ d.op = 11) := by omega
      unfold rdArg argV
      rw [if_neg hn, if_neg hn, if_pos c, if_pos c, List.cons_append, rdNext_cons, Option.bind_some]
      obtain ⟨k1, k2⟩ := run_app letS d.nm.data.toList (10 :: r) (name_in b1) (fun a b e => by cases e; rfl)
      rw [k1, k2, bytesL, ← e]
    · have hn : ¬ (d.op = 1 ∨ d.op = 9 ∨ d.op = 11) := by omega
      have hn2 : ¬ d.op = 2 := by omega
      unfold rdArg argV
      rw [if_neg hn, if_neg hn, if_neg hn2, if_neg hn2, if_pos c, if_pos c, List.cons_append, rdNext_cons, Option.bind_some, rdList_marks (by have := b1.1; omega) (mok_mem b1).2 (fun a b e => by cases e; rfl) (by simp [rdNext]), Option.bind_some]
      simp only
      rw [← e]
    · unfold rdArg argV
      rw [if_neg c, if_neg c, if_neg c2, if_neg c2, if_neg c3, if_neg c3, List.nil_append, ← e]
  rw [key, Option.bind_some]
  simp only
  rw [rdNext_cons]; rfl
theorem lineV_ne (d : Pl) : lineV d ≠ [] := by
  intro e
  have := congrArg List.length e
  unfold lineV at this
  simp at this
theorem rdCode_text : ∀ (ds : List Pl) (n : Nat) (acc : List Pl), (∀ d ∈ ds, OkPl d) → (textV ds).length ≤ n → rdCode n (textV ds) acc = some (acc ++ ds)
  | [], n, acc, _, _ => by
    cases n with
    | zero => simp [rdCode]
    | succ n => simp [rdCode, textV]
  | d :: r, n, acc, h, hn => by
    have e : textV (d :: r) = lineV d ++ textV r := by unfold textV; rw [List.flatMap_cons]
    have hp : 0 < (lineV d).length := List.length_pos_iff.2 (lineV_ne d)
    rw [e, List.length_append] at hn
    cases n with
    | zero => omega
    | succ n =>
      rw [rdCode, if_neg (by rw [e]; intro q; have := congrArg List.length q; rw [List.length_append, List.length_nil] at this; omega), e, rdPl_line (h d (by simp)), Option.bind_some]
      simp only
      rw [rdCode_text r n _ (fun x hx => h x (by simp [hx])) (by omega)]
      simp
theorem okV_pl {ds : List Pl} (h : OkV ds) : ∀ d ∈ ds, OkPl d := by
  intro d hd
  obtain ⟨j, hj, rfl⟩ := List.getElem_of_mem hd
  have := allV_get (okV_all h) j hj
  exact ⟨this.1, _, by have := h.1.2; omega, this.2⟩
def IsVmT (s : ByteArray) : Prop := ∃ ds, OkV ds ∧ textVB ds = s
def rdProg (l : List UInt8) : Option (List Pl) := rdCode l.length l []
theorem rdProg_text {ds : List Pl} (h : OkV ds) : rdProg (textV ds) = some ds := by
  unfold rdProg
  rw [rdCode_text ds _ _ (okV_pl h) (Nat.le_refl _), List.nil_append]
theorem textVB_list (ds : List Pl) : (textVB ds).data.toList = textV ds := by simp [textVB]
theorem vm_none {s : ByteArray} (h : rdProg s.data.toList = none) : ¬ IsVmT s := by
  rintro ⟨ds, h1, h2⟩
  rw [← h2, textVB_list, rdProg_text h1] at h
  cases h
theorem vm_no {s : ByteArray} {ds : List Pl} (h : rdProg s.data.toList = some ds) (hn : ¬ (OkV ds ∧ textVB ds = s)) : ¬ IsVmT s := by
  rintro ⟨es, h1, h2⟩
  rw [← h2, textVB_list, rdProg_text h1] at h
  cases h
  exact hn ⟨h1, h2⟩
theorem vm_uniq {ds es : List Pl} (h : OkV ds) (h' : OkV es) (e : textVB ds = textVB es) : ds = es := by
  have a := rdProg_text h
  have b := rdProg_text h'
  rw [← textVB_list] at a b
  rw [e, b] at a
  exact (Option.some.inj a).symm

/-! The model's reader. -/
/-- The last op below a bound with that word. -/
def opAt : Nat → List UInt8 → Int
  | 0, _ => 0
  | k + 1, u => if 1 ≤ k ∧ wordV k = u then k else opAt k u
theorem opAt_word {o : Int} (h : 1 ≤ o ∧ o ≤ 11) : opAt 12 (wordV o) = o := by
  rcases ops11 h with rfl | rfl | rfl | rfl | rfl | rfl | rfl | rfl | rfl | rfl | rfl <;> decide
def markM (u : List UInt8) : Int × Int := (numV ((splitB 58 u).headD []), numV ((splitB 58 u).getLastD []))
def argM (x : Pl) (u : List UInt8) : Pl :=
  if x.op = 1 ∨ x.op = 9 ∨ x.op = 11 then { x with num := intV u } else if x.op = 2 then { x with nm := ⟨u.toArray⟩ } else if x.op = 10 then { x with ms := x.ms ++ [markM u] } else x
def placeM (l : List UInt8) : Pl := (((splitB 32 l).drop 1).take 6).foldl argM ⟨opAt 12 ((splitB 32 l).headD []), 0, ⟨#[]⟩, []⟩
def readM (l : List UInt8) : List Pl := ((splitB 10 l).dropLast).map placeM
theorem markM_text {m : Int × Int} (h : (0 ≤ m.1 ∧ m.1 ≤ 1000000000) ∧ (0 ≤ m.2 ∧ m.2 ≤ 1000000)) : markM (markT m).data.toList = m := by
  unfold markM
  rw [markT_list, splitB_at _ (itoa_no (by decide)), splitB_end (itoa_no (by decide))]
  simp only [List.headD_cons, List.getLastD_cons, List.getLastD_nil]
  rw [numV_itoa h.1.1 (by omega), numV_itoa h.2.1 (by omega)]
theorem mark_no {m : Int × Int} {b : UInt8} (h : figS.contains b = false) (h58 : b ≠ 58) : b ∉ (markT m).data.toList := by
  rw [markT_list]
  simp [itoa_no h, h58]
theorem split_ahead : ∀ (r : List (Int × Int)) (a : List UInt8), (32 : UInt8) ∉ a → splitB 32 (a ++ aheadT r) = a :: r.map fun m => (markT m).data.toList
  | [], a, ha => by simp [aheadT, splitB_end ha]
  | x :: r, a, ha => by
    rw [aheadT_cons, splitB_at _ ha, split_ahead r _ (mark_no (by decide) (by decide))]; rfl
theorem fold_marks : ∀ (r acc : List (Int × Int)), SmMk r → (r.map fun m => (markT m).data.toList).foldl argM ⟨10, 0, ⟨#[]⟩, acc⟩ = ⟨10, 0, ⟨#[]⟩, acc ++ r⟩
  | [], acc, h => by simp
  | x :: r, acc, h => by
    have e : argM ⟨10, 0, ⟨#[]⟩, acc⟩ (markT x).data.toList = ⟨10, 0, ⟨#[]⟩, acc ++ [x]⟩ := by
      unfold argM
      rw [if_neg (show ¬ ((10 : Int) = 1 ∨ (10 : Int) = 9 ∨ (10 : Int) = 11) by decide), if_neg (show ¬ (10 : Int) = 2 by decide), if_pos rfl, markM_text (h x (by simp))]
    rw [List.map_cons, List.foldl_cons, e, fold_marks r _ (fun y hy => h y (by simp [hy])), List.append_assoc]; rfl
/-- A line without its end. -/
def lineC (d : Pl) : List UInt8 := wordV d.op ++ argV d
theorem placeM_line {d : Pl} (h : OkPl d) : placeM (lineC d) = d := by
  have hw : (32 : UInt8) ∉ wordV d.op := let_no (word_let h.1) (by decide)
  unfold placeM lineC
  rcases okPl_cases h with ⟨c, e, b1, b2⟩ | ⟨c, e, b1⟩ | ⟨c, e, b1⟩ | ⟨⟨c, c2, c3⟩, e⟩
  · have ea : argV d = 32 :: Lib.itoa d.num := by unfold argV; rw [if_pos c]; rfl
    rw [ea, splitB_at _ hw, splitB_end (itoa_no (by decide))]
    simp only [List.headD_cons, List.drop_succ_cons, List.drop_zero, List.take_succ_cons, List.take_nil, List.foldl_cons, List.foldl_nil]
    rw [opAt_word h.1]
    unfold argM
    rw [if_pos c]
    simp only
    rw [intV_itoa (by omega) (by omega), ← e]
  · have hn : ¬ (d.op = 1 ∨ d.op = 9 ∨ d.op = 11) := by omega
    have ea : argV d = 32 :: d.nm.data.toList := by unfold argV; rw [if_neg hn, if_pos c]
    rw [ea, splitB_at _ hw, splitB_end (let_no (name_in b1) (by decide))]
    simp only [List.headD_cons, List.drop_succ_cons, List.drop_zero, List.take_succ_cons, List.take_nil, List.foldl_cons, List.foldl_nil]
    rw [opAt_word h.1]
    unfold argM
    rw [if_neg hn, if_pos c]
    simp only
    rw [bytesL, ← e]
  · have hn : ¬ (d.op = 1 ∨ d.op = 9 ∨ d.op = 11) := by omega
    have hn2 : ¬ d.op = 2 := by omega
    have hm := mok_mem b1
    have ea : argV d = aheadT d.ms := by unfold argV; rw [if_neg hn, if_neg hn2, if_pos c, aheadT_eq (by have := b1.1; omega)]
    rw [ea, split_ahead _ _ hw]
    simp only [List.headD_cons, List.drop_succ_cons, List.drop_zero]
    rw [opAt_word h.1, List.take_of_length_le (by rw [List.length_map]; omega), c, fold_marks d.ms [] hm.2, List.nil_append, ← c, ← e]
  · have ea : argV d = [] := by unfold argV; rw [if_neg c, if_neg c2, if_neg c3]
    rw [ea, List.append_nil, splitB_end hw]
    simp only [List.headD_cons, List.drop_succ_cons, List.drop_zero, List.take_nil, List.foldl_nil]
    rw [opAt_word h.1, ← e]
theorem line_no {d : Pl} (h : OkPl d) : (10 : UInt8) ∉ lineC d := by
  have hw : (10 : UInt8) ∉ wordV d.op := let_no (word_let h.1) (by decide)
  unfold lineC
  rcases okPl_cases h with ⟨c, e, b1, b2⟩ | ⟨c, e, b1⟩ | ⟨c, e, b1⟩ | ⟨⟨c, c2, c3⟩, e⟩
  · have ea : argV d = 32 :: Lib.itoa d.num := by unfold argV; rw [if_pos c]; rfl
    rw [ea]
    simp [hw, itoa_no (x := d.num) (b := 10) (by decide)]
  · have hn : ¬ (d.op = 1 ∨ d.op = 9 ∨ d.op = 11) := by omega
    have ea : argV d = 32 :: d.nm.data.toList := by unfold argV; rw [if_neg hn, if_pos c]
    have := let_no (name_in b1) (b := 10) (by decide)
    rw [ea]
    intro q
    rcases List.mem_append.1 q with q | q
    · exact hw q
    · rcases List.mem_cons.1 q with q | q
      · cases q
      · exact this q
  · have hn : ¬ (d.op = 1 ∨ d.op = 9 ∨ d.op = 11) := by omega
    have hn2 : ¬ d.op = 2 := by omega
    have ea : argV d = aheadT d.ms := by unfold argV; rw [if_neg hn, if_neg hn2, if_pos c, aheadT_eq (by have := b1.1; omega)]
    rw [ea]
    intro q
    rcases List.mem_append.1 q with q | q
    · exact hw q
    · unfold aheadT at q
      obtain ⟨m, -, q⟩ := List.mem_flatMap.1 q
      rcases List.mem_cons.1 q with q | q
      · cases q
      · exact mark_no (by decide) (by decide) q
  · have ea : argV d = [] := by unfold argV; rw [if_neg c, if_neg c2, if_neg c3]
    rw [ea, List.append_nil]; exact hw
theorem split_text : ∀ {ds : List Pl}, (∀ d ∈ ds, OkPl d) → splitB 10 (textV ds) = ds.map lineC ++ [[]]
  | [], _ => rfl
  | d :: r, h => by
    have e : textV (d :: r) = lineC d ++ 10 :: textV r := by unfold textV lineC; rw [List.flatMap_cons]; simp [lineV]
    rw [e, splitB_at _ (line_no (h d (by simp))), split_text (fun x hx => h x (by simp [hx]))]; rfl
theorem readM_text {ds : List Pl} (h : OkV ds) : readM (textV ds) = ds := by
  have hp := okV_pl h
  unfold readM
  rw [split_text hp, List.dropLast_concat, List.map_map]
  conv => rhs; rw [← List.map_id ds]
  apply List.map_congr_left
  intro d hd
  exact placeM_line (hp d hd)
theorem vmM_no {s : ByteArray} (hn : ¬ (OkV (readM s.data.toList) ∧ textVB (readM s.data.toList) = s)) : ¬ IsVmT s := by
  rintro ⟨ds, h1, h2⟩
  rw [← h2, textVB_list, readM_text h1] at hn
  exact hn ⟨h1, rfl⟩
theorem isVm_ne {s : ByteArray} (h : s.size = 0) : ¬ IsVmT s := by
  rintro ⟨ds, h1, h2⟩
  have := h1.1.1
  have e := congrArg ByteArray.size h2
  cases ds with
  | nil => simp at this
  | cons d r =>
    have hp : 0 < (lineV d).length := List.length_pos_iff.2 (lineV_ne d)
    have e2 : (textVB (d :: r)).size = (textV (d :: r)).length := by simp [textVB, ByteArray.size]
    have e3 : (textV (d :: r)).length = (lineV d).length + (textV r).length := by unfold textV; rw [List.flatMap_cons, List.length_append]
    omega
theorem isVm_len {s : ByteArray} (h : IsVmT s) : s.size ≤ 1600 := by
  obtain ⟨ds, h1, h2⟩ := h
  have := h1.2.2
  have e2 : (textVB ds).size = (textV ds).length := by simp [textVB, ByteArray.size]
  rw [← h2, e2]; exact this
end Go.Proofs.YtjhgmmcglonokaaGreatDoor
