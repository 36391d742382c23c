/-
  What the model reads of ops' text: by its pieces. No program is walked here.
-/
import Derived.Test.YtlfmhhdlandcjaaDoorOpsReadI
import Derived.Test.YtlfmhhdlandcjaaDoorCut3
import Derived.Test.YtlfmhhdlandcjaaDoorInt2
namespace Go.Proofs.YtlfmhhdlandcjaaDoor
open Go.RowKit
set_option linter.unusedVariables false
set_option linter.unusedSimpArgs false

theorem digs_head {k : Nat} : ∀ u, u ≤ k → 1 ≤ u → (Lib.decDigits u).head? ≠ some 48 := by
  induction k with
  | zero => intro u a b; omega
  | succ k ih =>
    intro u a b
    by_cases h : u < 10
    · rw [Lib.decDigits_one h]
      have : ∀ u, u < 10 → 1 ≤ u → ([UInt8.ofNat (48 + u)] : List UInt8).head? ≠ some 48 := by decide
      exact this u h b
    · rw [Lib.decDigits.eq_1 u, dif_neg h]
      have hne := digs_ne (u / 10)
      have := ih (u / 10) (by omega) (by omega)
      generalize Lib.decDigits (u / 10) = D at *
      cases D with
      | nil => exact absurd rfl hne
      | cons c r => simpa using this
theorem numV_digs (u : Nat) (hu : u < 1000000000000) : numV (Lib.decDigits u) = u := by
  have hl := digs_len 11 u (by omega)
  have h1 : 1 ≤ (Lib.decDigits u).length := by rw [Lib.decDigits_length]; exact Lib.nDigits_pos u
  have hok : numOk (Lib.decDigits u) = true := by
    unfold numOk
    by_cases h10 : u < 10
    · rw [Lib.decDigits_one h10]; simp
    · have h3 : ((Lib.decDigits u).head? == some 48) = false := by
        cases h : (Lib.decDigits u).head? == some 48 with
        | false => rfl
        | true => exact absurd (by simpa using h) (digs_head u (Nat.le_refl _) (by omega))
      rw [h3]; simp; omega
  rw [numV, hok, decFromD u u (Nat.le_refl _)]; rfl
theorem numV_itoa {x : Int} (h0 : 0 ≤ x) (h1 : x < 1000000000000) : numV (Lib.itoa x) = x := by
  rw [Lib.itoa, if_neg (by omega), numV_digs _ (by omega)]; omega
theorem intV_itoa {x : Int} (h0 : -1000000000000 < x) (h1 : x < 1000000000000) : intV (Lib.itoa x) = x := by
  by_cases hx : x < 0
  · rw [Lib.itoa, if_pos hx]
    show (if (45 : UInt8) = 45 then -(numV (Lib.decDigits x.natAbs)) else numV (45 :: Lib.decDigits x.natAbs)) = x
    rw [if_pos rfl, numV_digs _ (by omega)]; omega
  · have hv := numV_itoa (x := x) (by omega) h1
    rw [Lib.itoa, if_neg hx] at hv ⊢
    have hf := digs_fig _ x.toNat (Nat.le_refl _)
    have hne := digs_ne x.toNat
    generalize Lib.decDigits x.toNat = D at *
    cases D with
    | nil => exact absurd rfl hne
    | cons c r =>
      have hc := hf c (by simp)
      show (if c = 45 then _ else _) = _
      rw [if_neg (by intro e; rw [e] at hc; simp at hc)]
      exact hv
def pieceOp (l : List UInt8) : Option OpD := match splitB 58 l with
  | [a, b, c, d] => some ⟨⟨a.toArray⟩, numV b, intV c, numV d⟩
  | _ => none
theorem itoa_no {x : Int} {b : UInt8} (h : figS.contains b = false) : b ∉ Lib.itoa x := fun q => by
  have := itoa_figs x b q
  rw [h] at this; cases this
theorem name_no' {l : List UInt8} {b : UInt8} (hl : nameB l = true) (h : letS.contains b = false) : b ∉ l := fun q => by
  simp only [nameB, Bool.and_eq_true] at hl
  have := let_in (List.all_eq_true.1 hl.2 b q)
  rw [h] at this; cases this
theorem pieceOp_opB {d : OpD} (h : OpGood d) (hs : d.sh < 1000000000000) : pieceOp (opB d).data.toList = some d := by
  obtain ⟨h1, h2, h3, h4, h5⟩ := h
  unfold pieceOp
  rw [opB_list, splitB_at _ (name_no' h1 (by decide)), splitB_at _ (itoa_no (by decide)), splitB_at _ (itoa_no (by decide)), splitB_end (itoa_no (by decide))]
  simp only
  rw [numV_itoa (by omega) (by omega), intV_itoa (by omega) (by omega), numV_itoa (by omega) hs]
theorem opB_no {d : OpD} (h : OpGood d) : (44 : UInt8) ∉ (opB d).data.toList := by
  rw [opB_list]
  have a := name_no' h.1 (b := 44) (by decide)
  have b : (44 : UInt8) ∉ Lib.itoa d.cls := itoa_no (by decide)
  have c : (44 : UInt8) ∉ Lib.itoa d.st := itoa_no (by decide)
  have e : (44 : UInt8) ∉ Lib.itoa d.sh := itoa_no (by decide)
  simp [a, b, c, e]
theorem split_rest {ds : Nat → OpD} : ∀ (k i : Nat) (a : List UInt8), (44 : UInt8) ∉ a → (∀ j, i ≤ j → j < i + k → OpGood (ds j)) → splitB 44 (a ++ restL ds i k) = a :: (opList ds i k).map fun d => (opB d).data.toList
  | 0, i, a, ha, _ => by simp [restL, opList, splitB_end ha]
  | k + 1, i, a, ha, h => by
    rw [restL, splitB_at _ ha, opList, List.map_cons, split_rest k (i + 1) _ (opB_no (h i (by omega) (by omega))) (fun j h1 h2 => h j (by omega) (by omega))]
theorem split_ops {n : Nat} {ds : Nat → OpD} (h : OpsGood n ds) : splitB 44 (opsB ds n).data.toList = (opList ds 0 n).map fun d => (opB d).data.toList := by
  obtain ⟨⟨h1, h2⟩, h3⟩ := h
  obtain ⟨k, rfl⟩ : ∃ k, n = k + 1 := ⟨n - 1, by omega⟩
  rw [opsB_rest, split_rest k 1 _ (opB_no (h3 0 (by omega)).1) (fun j a b => (h3 j (by omega)).1), opList]
  rfl
/-- A text that the model reads: of ops that are ok, each share of twelve figures at most. -/
def IsOpsM (s : ByteArray) : Prop := ∃ n ds, OpsGood n ds ∧ opsB ds n = s ∧ ∀ i, i < n → (ds i).sh < 1000000000000
/-- The first k pieces are those ops. -/
def Pieces (ws : List ByteArray) (acc : List OpD) : Prop := ∀ i, i < acc.length → ∃ x, ws[i]? = some x ∧ pieceOp x.data.toList = acc[i]?
theorem isM_piece {s : ByteArray} {ws : List ByteArray} (hw : ws.map (·.data.toList) = splitB 44 s.data.toList) {n : Nat} {ds : Nat → OpD} (hg : OpsGood n ds) (he : opsB ds n = s) (hs : ∀ i, i < n → (ds i).sh < 1000000000000) : ws.length = n ∧ ∀ i, i < n → ∃ x, ws[i]? = some x ∧ pieceOp x.data.toList = some (ds i) := by
  rw [← he, split_ops hg] at hw
  have hl := congrArg List.length hw
  simp only [List.length_map, opList_len] at hl
  refine ⟨hl, fun i hi => ?_⟩
  have e := congrArg (fun l => l[i]?) hw
  simp only [List.getElem?_map, opList_get ds n 0 i hi, Nat.zero_add, Option.map_some] at e
  have hx : i < ws.length := by omega
  rw [List.getElem?_eq_getElem hx, Option.map_some] at e
  exact ⟨_, List.getElem?_eq_getElem hx, by rw [Option.some.inj e]; exact pieceOp_opB (hg.2 i hi).1 (hs i hi)⟩
theorem isM_no {s : ByteArray} {ws : List ByteArray} (hw : ws.map (·.data.toList) = splitB 44 s.data.toList) {k : Nat} (hk : k ≤ 3) {x : ByteArray} (hx : ws[k]? = some x) (hn : pieceOp x.data.toList = none) : ¬ IsOpsM s := by
  rintro ⟨n, ds, hg, he, hs⟩
  obtain ⟨h1, h2⟩ := isM_piece hw hg he hs
  have hk2 : k < ws.length := (List.getElem?_eq_some_iff.1 hx).1
  obtain ⟨y, h3, h4⟩ := h2 k (by omega)
  rw [hx] at h3; cases h3
  rw [hn] at h4; cases h4
theorem isM_same {s : ByteArray} {ws : List ByteArray} (hw : ws.map (·.data.toList) = splitB 44 s.data.toList) {acc : List OpD} (hp : Pieces ws acc) (hl : acc.length = ws.length ∨ acc.length = 4) {n : Nat} {ds : Nat → OpD} (hg : OpsGood n ds) (he : opsB ds n = s) (hs : ∀ i, i < n → (ds i).sh < 1000000000000) : acc.length = n ∧ ∀ i, i < n → ds i = dsL acc i := by
  obtain ⟨h1, h2⟩ := isM_piece hw hg he hs
  have hn3 := hg.1.2
  have hl2 : acc.length = n := by
    rcases hl with h | h
    · omega
    · obtain ⟨x, hx, _⟩ := hp 3 (by omega)
      have := (List.getElem?_eq_some_iff.1 hx).1
      omega
  refine ⟨hl2, fun i hi => ?_⟩
  obtain ⟨x, a1, a2⟩ := hp i (by omega)
  obtain ⟨y, b1, b2⟩ := h2 i hi
  rw [a1] at b1; cases b1
  rw [a2] at b2
  rw [dsL, List.getD_eq_getElem?_getD, b2]; rfl
theorem isM_wrong {s : ByteArray} {ws : List ByteArray} (hw : ws.map (·.data.toList) = splitB 44 s.data.toList) {acc : List OpD} (hp : Pieces ws acc) (hl : acc.length = ws.length ∨ acc.length = 4) (hne : (textO acc.length (dsL acc)).toList ≠ s.toList) : ¬ IsOpsM s := by
  rintro ⟨n, ds, hg, he, hs⟩
  obtain ⟨h1, h2⟩ := isM_same hw hp hl hg he hs
  apply hne
  rw [h1]
  unfold textO
  rw [if_pos (good_same hg h2), ← opsB_same n h2, he]
theorem isM_right {s : ByteArray} {acc : List OpD} (h0 : s.size ≠ 0) (he : (textO acc.length (dsL acc)).toList = s.toList) : OpsGood acc.length (dsL acc) ∧ opsB (dsL acc) acc.length = s := by
  have e : textO acc.length (dsL acc) = s := by
    apply ByteArray.ext; apply Array.ext'
    rw [Lib.toList_data, Lib.toList_data] at he; exact he
  unfold textO at e
  split at e
  · rename_i q; exact ⟨q, e⟩
  · subst e; exact absurd rfl h0
theorem isM_empty {s : ByteArray} (h : s.size = 0) : ¬ IsOpsM s := by
  rintro ⟨n, ds, hg, he, hs⟩
  have : s.data.toList = [] := List.eq_nil_of_length_eq_zero (by simpa using h)
  have q := rdOps_opsB hg
  rw [he, this] at q
  simp [rdOps, rdList, rdOp, rdPart, rdNext, offOf] at q
theorem pieces_snoc {ws : List ByteArray} {acc : List OpD} (h : Pieces ws acc) {x : ByteArray} (hx : ws[acc.length]? = some x) {d : OpD} (hd : pieceOp x.data.toList = some d) : Pieces ws (acc ++ [d]) := by
  intro i hi
  rcases Nat.lt_or_ge i acc.length with q | q
  · obtain ⟨y, h1, h2⟩ := h i q
    exact ⟨y, h1, by rw [h2, List.getElem?_append_left q]⟩
  · obtain rfl : i = acc.length := by simp at hi; omega
    exact ⟨x, hx, by rw [hd]; simp⟩
theorem pieces_none {ps : List ByteArray} {l : List UInt8} (h : ps.map (·.data.toList) = splitB 58 l) (h4 : ps.length ≠ 4) : pieceOp l = none := by
  have e := congrArg List.length h
  rw [List.length_map] at e
  unfold pieceOp
  split
  · rename_i a b c d q; rw [q] at e; exact absurd e h4
  · rfl
end Go.Proofs.YtlfmhhdlandcjaaDoor
