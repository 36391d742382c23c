/-
  Trips that were written are read as they were. No program is walked here.
-/
import Derived.Test.YtlfmhhdlandcjaaDoorTripMathR
import Derived.Test.YtlfmhhdlandcjaaDoorReadName
import Derived.Test.YtlfmhhdlandcjaaDoorCut3
import Derived.Test.YtlfmhhdlandcjaaDoorNum
namespace Go.Proofs.YtlfmhhdlandcjaaDoor
open Go.RowKit
set_option linter.unusedVariables false
set_option linter.unusedSimpArgs false

theorem let_in {b : UInt8} (h : letB b = true) : letS.contains b = true := by
  have q : ∀ n, n < 123 → 97 ≤ n → letS.contains (UInt8.ofNat n) = true := by decide
  simp only [letB, Bool.and_eq_true, decide_eq_true_eq] at h
  have := q b.toNat (by omega) (by omega)
  rwa [UInt8.ofNat_toNat] at this
theorem name_in {l : List UInt8} (h : nameB l = true) : ∀ x ∈ l, letS.contains x = true := by
  simp only [nameB, Bool.and_eq_true] at h
  exact fun x hx => let_in (List.all_eq_true.1 h.2 x hx)
theorem name_no' {l : List UInt8} {b : UInt8} (hl : nameB l = true) (h : letS.contains b = false) : b ∉ l := fun q => by
  have := name_in hl b q
  rw [h] at this; cases this
def rdTrip (l : List UInt8) : Option ((List ByteArray × ByteArray × Int) × List UInt8) :=
  (rdList 45 rdWord l).bind fun p => (rdNext 47 p.2).bind fun r1 => (rdNext 47 (offOf letS r1)).bind fun r3 => (rdNum r3).bind fun n => some ((p.1, ⟨(runOf letS r1).toArray⟩, n.1), n.2)
theorem rdWord_name {x : ByteArray} (h : nameB x.data.toList = true) {r : List UInt8} (hr : ∀ a b, r = a :: b → letS.contains a = false) : rdWord (x.data.toList ++ r) = some (x, r) := by
  obtain ⟨h1, h2⟩ := run_app letS x.data.toList r (name_in h) hr
  unfold rdWord
  rw [h1, h2]
/-- Names behind the first one. -/
def dashL : List ByteArray → List UInt8
  | [] => []
  | x :: r => 45 :: (x.data.toList ++ dashL r)
theorem joinL_cons (x : ByteArray) : ∀ r, joinL (x :: r) = x.data.toList ++ dashL r := by
  intro r
  have tail : ∀ r : List ByteArray, Lib.joinTail [45] (r.map (·.data.toList)) = dashL r := by
    intro r
    induction r with
    | nil => rfl
    | cons y r ih =>
      rw [Lib.joinTail] at ih ⊢
      simp only [List.map_cons, List.flatten_cons, ih]
      simp [dashL]
  rw [joinL, List.map_cons, Lib.join_cons, tail]
theorem dash_head (r : List ByteArray) (t : List UInt8) : ∀ a b, dashL r ++ 47 :: t = a :: b → letS.contains a = false := by
  intro a b e
  cases r with
  | nil => cases e; rfl
  | cons x r => cases e; rfl
theorem rdTail_names (t : List UInt8) : ∀ (r : List ByteArray) (n : Nat) (acc : List ByteArray), (∀ x ∈ r, nameB x.data.toList = true) → (dashL r ++ 47 :: t).length ≤ n → rdTail 45 rdWord n (dashL r ++ 47 :: t) acc = some (acc ++ r, 47 :: t)
  | [], n, acc, h, hn => by rw [dashL, List.nil_append, rdTail_stop (by rfl)]; simp
  | x :: r, n, acc, h, hn => by
    have h1 : rdNext 45 (dashL (x :: r) ++ 47 :: t) = some (x.data.toList ++ (dashL r ++ 47 :: t)) := by
      rw [dashL, List.cons_append, rdNext_cons, List.append_assoc]
    have h2 := rdWord_name (h x (by simp)) (dash_head r t)
    obtain ⟨m, -, hm, e⟩ := rdTail_more h1 h2 hn acc
    rw [e, rdTail_names t r m _ (fun y hy => h y (by simp [hy])) (by rw [List.length_append] at hm; omega)]
    simp
theorem rdList_names {ss : List ByteArray} (h0 : 1 ≤ ss.length) (h : ∀ x ∈ ss, nameB x.data.toList = true) (t : List UInt8) : rdList 45 rdWord (joinL ss ++ 47 :: t) = some (ss, 47 :: t) := by
  cases ss with
  | nil => simp at h0
  | cons x r =>
    rw [joinL_cons, List.append_assoc, rdList, rdWord_name (h x (by simp)) (dash_head r t)]
    simp only
    rw [rdTail_names t r _ _ (fun y hy => h y (by simp [hy])) (Nat.le_refl _)]
    rfl
theorem form_names {ss : List ByteArray} {f : ByteArray} {n : Int} (h : FormOk ss f n) : ∀ x ∈ ss, nameB x.data.toList = true := by
  intro x hx
  obtain ⟨i, hi, e⟩ := List.getElem_of_mem hx
  have := (h.2.2.1 i hi).1
  rw [legAt, List.getD_eq_getElem?_getD, List.getElem?_eq_getElem hi] at this
  rw [← e]; exact this
theorem dec_itoa {n : Int} (h : 0 ≤ n) : Lib.decDigits n.toNat = Lib.itoa n := by rw [Lib.itoa, if_neg (by omega)]
/-- A trip's text is read as it was written. -/
theorem rdTrip_text {ss : List ByteArray} {f : ByteArray} {n : Int} (h : FormOk ss f n) : rdTrip (tripT ss f n) = some ((ss, f, n), []) := by
  obtain ⟨h1, h2, h3, h4, h5, h6⟩ := h
  have hn := form_names ⟨h1, h2, h3, h4, h5, h6⟩
  obtain ⟨q1, q2⟩ := run_app letS f.data.toList (47 :: Lib.decDigits n.toNat) (name_in h4) (fun a b e => by cases e; rfl)
  unfold rdTrip tripT
  rw [rdList_names h1 hn]
  simp only [Option.bind_some]
  rw [rdNext_cons]
  simp only [Option.bind_some]
  rw [q1, q2, rdNext_cons]
  simp only [Option.bind_some]
  have := rdNum_itoa (x := n) (by omega) (r := []) (fun a b e => by cases e)
  rw [List.append_nil] at this
  rw [dec_itoa (by omega), this]
  rfl
def IsTripT (s : ByteArray) : Prop := ∃ ss f n, FormOk ss f n ∧ tripT ss f n = s.data.toList
theorem trip_uniq {ss ss' : List ByteArray} {f f' : ByteArray} {n n' : Int} (h : FormOk ss f n) (h' : FormOk ss' f' n') (e : tripT ss f n = tripT ss' f' n') : ss = ss' ∧ f = f' ∧ n = n' := by
  have a := rdTrip_text h
  have b := rdTrip_text h'
  rw [e, b] at a
  injection a with a
  injection a with a
  injection a with a1 a2
  injection a2 with a2 a3
  exact ⟨a1.symm, a2.symm, a3.symm⟩
theorem tripT_ne (ss : List ByteArray) (f : ByteArray) (n : Int) : tripT ss f n ≠ [] := by unfold tripT; simp
/-! The pieces that the model takes. -/
theorem split_names {r : List ByteArray} : ∀ (a : List UInt8), (45 : UInt8) ∉ a → (∀ x ∈ r, nameB x.data.toList = true) → splitB 45 (a ++ dashL r) = a :: r.map (·.data.toList) := by
  induction r with
  | nil => intro a ha _; simp [dashL, splitB_end ha]
  | cons x r ih =>
    intro a ha h
    rw [dashL, splitB_at _ ha, ih _ (name_no' (h x (by simp)) (by decide)) (fun y hy => h y (by simp [hy]))]
    rfl
theorem split_join {ss : List ByteArray} (h0 : 1 ≤ ss.length) (h : ∀ x ∈ ss, nameB x.data.toList = true) : splitB 45 (joinL ss) = ss.map (·.data.toList) := by
  cases ss with
  | nil => simp at h0
  | cons x r => rw [joinL_cons, split_names _ (name_no' (h x (by simp)) (by decide)) (fun y hy => h y (by simp [hy]))]; rfl
theorem dash_no {r : List ByteArray} (h : ∀ x ∈ r, nameB x.data.toList = true) : (47 : UInt8) ∉ dashL r := by
  induction r with
  | nil => simp [dashL]
  | cons x r ih =>
    have a := name_no' (b := 47) (h x (by simp)) (by decide)
    have b := ih (fun y hy => h y (by simp [hy]))
    simp [dashL, a, b]
theorem join_no {ss : List ByteArray} (h0 : 1 ≤ ss.length) (h : ∀ x ∈ ss, nameB x.data.toList = true) : (47 : UInt8) ∉ joinL ss := by
  cases ss with
  | nil => simp at h0
  | cons x r =>
    rw [joinL_cons]
    have a := name_no' (b := 47) (h x (by simp)) (by decide)
    have b := dash_no (r := r) (fun y hy => h y (by simp [hy]))
    simp [a, b]
theorem split_trip {ss : List ByteArray} {f : ByteArray} {n : Int} (h : FormOk ss f n) : splitB 47 (tripT ss f n) = [joinL ss, f.data.toList, Lib.decDigits n.toNat] := by
  have hn := form_names h
  obtain ⟨h1, h2, h3, h4, h5, h6⟩ := h
  have hd : (47 : UInt8) ∉ Lib.decDigits n.toNat := fun q => by
    have := digs_fig _ _ (Nat.le_refl _) _ q
    simp at this
  unfold tripT
  rw [splitB_at _ (join_no h1 hn), splitB_at _ (name_no' h4 (by decide)), splitB_end hd]
theorem numV_small {n : Int} (h1 : 1 ≤ n) (h4 : n ≤ 4) : numV (Lib.decDigits n.toNat) = n := by
  have e : n = 1 ∨ n = 2 ∨ n = 3 ∨ n = 4 := by omega
  have dd : ∀ d, d < 10 → numV (Lib.decDigits d) = d := by
    intro d hd
    rw [Lib.decDigits_one hd]
    have : ∀ d, d < 10 → numV [UInt8.ofNat (48 + d)] = d := by decide
    exact this d hd
  rw [dd n.toNat (by omega)]; omega
/-- All pieces together are not longer than the text. -/
theorem splitB_sum (b : UInt8) : ∀ l, ((splitB b l).map List.length).sum + (splitB b l).length = l.length + 1
  | [] => by simp [splitB]
  | c :: r => by
    have ih := splitB_sum b r
    rw [splitB]
    split
    · simp only [List.map_cons, List.sum_cons, List.length_cons, List.length_nil]; omega
    · cases hs : splitB b r with
      | nil => exact absurd hs (splitB_ne b r)
      | cons p ps =>
        rw [hs] at ih
        simp only [List.map_cons, List.sum_cons, List.length_cons] at ih ⊢
        omega
end Go.Proofs.YtlfmhhdlandcjaaDoor
