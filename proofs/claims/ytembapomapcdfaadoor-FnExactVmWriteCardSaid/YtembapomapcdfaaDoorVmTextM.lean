/-
  A program's text, and whether it is ok: plain facts; no law is proved here.
-/
import Derived.Test.YtembapomapcdfaaDoorVmMath
import Derived.Test.YtembapomapcdfaaDoorRuleMath
namespace Go.Proofs.YtembapomapcdfaaDoor
open Go.RowKit
set_option linter.unusedVariables false
set_option linter.unusedSimpArgs false

def wordV (o : Int) : List UInt8 := if o = 1 then [112, 117, 115, 104] else if o = 2 then [108, 111, 97, 100] else if o = 9 then [116, 101, 115, 116] else if o = 11 then [115, 107, 105, 112] else wordT o
theorem wordV_len (o : Int) : (wordV o).length ≤ 5 := by
  unfold wordV
  iterate 4 refine ite_len (by decide) ?_
  exact wordT_len o
def argV (d : Pl) : List UInt8 := if d.op = 1 ∨ d.op = 9 ∨ d.op = 11 then 32 :: (intB d.num).data.toList else if d.op = 2 then 32 :: d.nm.data.toList else if d.op = 10 then 32 :: marksT 32 d.ms else []
def lineV (d : Pl) : List UInt8 := wordV d.op ++ (argV d ++ [10])
def lineB (d : Pl) : ByteArray := ⟨(lineV d).toArray⟩
def textV (ds : List Pl) : List UInt8 := ds.flatMap lineV
def textVB (ds : List Pl) : ByteArray := ⟨(textV ds).toArray⟩
/-- What is written of a place is small. -/
def SmV (d : Pl) : Prop := (1 ≤ d.op ∧ d.op ≤ 11) ∧ (-1000000000 ≤ d.num ∧ d.num ≤ 1000000000) ∧ d.nm.size ≤ 8 ∧ (d.op = 10 → MOk (mF d.ms) (mP d.ms) d.ms.length) ∧ (d.op ≠ 10 → d.ms.length = 0)
theorem smV_of {d : Pl} {k : Int} (hk : k ≤ 1000000) (ho : 1 ≤ d.op ∧ d.op ≤ 11) (h : HoldsV d.op d.num k d.nm d.ms) : SmV d := by
  unfold HoldsV at h
  split at h
  · rename_i h9
    obtain ⟨a, b, c⟩ := h
    exact ⟨ho, ⟨by omega, by omega⟩, by omega, fun e => by omega, fun _ => c⟩
  rename_i h9
  unfold HoldsN at h
  split at h
  · rename_i h1
    obtain ⟨a, b, c⟩ := h
    exact ⟨ho, a, by omega, fun e => by omega, fun _ => c⟩
  split at h
  · rename_i h1 h2
    obtain ⟨a, b, c⟩ := h
    exact ⟨ho, by omega, nmB_size a, fun e => by omega, fun _ => c⟩
  split at h
  · rename_i h1 h2 h3
    obtain ⟨a, b, c⟩ := h
    exact ⟨ho, by omega, by omega, fun _ => c, fun e => absurd h3 e⟩
  · rename_i h1 h2 h3
    obtain ⟨a, b, c⟩ := h
    exact ⟨ho, by omega, by omega, fun e => absurd e h3, fun _ => c⟩
theorem argV_len {d : Pl} (h : SmV d) : (argV d).length ≤ 221 := by
  obtain ⟨h1, h2, h3, h4, h5⟩ := h
  unfold argV
  split
  · have := intB_size (x := d.num) (by omega) (by omega)
    have e : (intB d.num).data.toList.length = (intB d.num).size := by simp
    simp only [List.length_cons]; omega
  split
  · have e : d.nm.data.toList.length = d.nm.size := by simp
    simp only [List.length_cons]; omega
  split
  · have := marksT_len 32 (h4 ‹_›)
    simp only [List.length_cons]; omega
  · simp
theorem lineV_len {d : Pl} (h : SmV d) : (lineV d).length ≤ 240 := by
  have a := wordV_len d.op
  have b := argV_len h
  unfold lineV
  simp only [List.length_append, List.length_cons, List.length_nil]
  omega
theorem textV_len : ∀ {ds : List Pl}, (∀ d ∈ ds, SmV d) → (textV ds).length ≤ 240 * ds.length
  | [], h => by simp [textV]
  | d :: r, h => by
    have a := lineV_len (h d (by simp))
    have b := textV_len (ds := r) (fun x hx => h x (by simp [hx]))
    unfold textV at b ⊢
    simp only [List.flatMap_cons, List.length_append, List.length_cons]
    omega
theorem textV_snoc {ds : List Pl} {k : Nat} (h : k < ds.length) : textV (ds.take (k + 1)) = textV (ds.take k) ++ lineV ds[k] := by
  unfold textV
  rw [List.take_succ_eq_append_getElem h, List.flatMap_append, List.flatMap_cons, List.flatMap_nil, List.append_nil]
theorem joinS_succ (sep : UInt8) (l : List ByteArray) (x : ByteArray) : sep :: joinS sep (l ++ [x]) = (if l = [] then [] else sep :: joinS sep l) ++ sep :: x.data.toList := by
  by_cases h : l = []
  · subst h; rw [if_pos rfl, List.nil_append, joinS_one]; rfl
  · rw [if_neg h, joinS_snoc _ _ _ h]; rfl
/-- Marks, each with a byte ahead. -/
def aheadT (ms : List (Int × Int)) : List UInt8 := ms.flatMap fun m => 32 :: (markT m).data.toList
theorem aheadT_eq {ms : List (Int × Int)} (h : ms.length ≠ 0) : aheadT ms = 32 :: marksT 32 ms := by
  have key : ∀ (k : Nat), k ≤ ms.length → k ≠ 0 → aheadT (ms.take k) = 32 :: marksT 32 (ms.take k) := by
    intro k
    induction k with
    | zero => intro _ h; exact absurd rfl h
    | succ k ih =>
      intro hk _
      rw [List.take_succ_eq_append_getElem (by omega : k < ms.length)]
      unfold marksT
      rw [List.map_append, List.map_cons, List.map_nil, joinS_succ]
      unfold aheadT
      rw [List.flatMap_append]
      simp only [List.flatMap_cons, List.flatMap_nil, List.append_nil]
      by_cases h0 : k = 0
      · subst h0; simp
      · rw [if_neg (by intro e; have h2 := congrArg List.length e; rw [List.length_map, List.length_take, List.length_nil] at h2; omega)]
        have := ih (by omega) h0
        unfold aheadT marksT at this
        rw [this]
  have := key ms.length (Nat.le_refl _) h
  rwa [List.take_length] at this
theorem aheadT_snoc {ms : List (Int × Int)} {k : Nat} (h : k < ms.length) : aheadT (ms.take (k + 1)) = aheadT (ms.take k) ++ 32 :: (markT ms[k]).data.toList := by
  unfold aheadT
  rw [List.take_succ_eq_append_getElem h, List.flatMap_append, List.flatMap_cons, List.flatMap_nil, List.append_nil]
theorem aheadT_len {ms : List (Int × Int)} (h : MOk (mF ms) (mP ms) ms.length) (k : Nat) (hk : k ≤ ms.length) : (aheadT (ms.take k)).length ≤ 44 * k := by
  obtain ⟨h5, hm⟩ := mok_mem h
  induction k with
  | zero => simp [aheadT]
  | succ k ih =>
    rw [aheadT_snoc (by omega)]
    have := hm ms[k] (List.getElem_mem _)
    have b := markT_size (m := ms[k]) (by omega) (by omega) (by omega) (by omega)
    have e : (markT ms[k]).data.toList.length = (markT ms[k]).size := by simp
    have := ih (by omega)
    simp only [List.length_append, List.length_cons]
    omega
/-- What each place must be, where it stands. -/
def AllV (q i : Nat) : List Pl → Prop
  | [] => True
  | d :: r => ((1 ≤ d.op ∧ d.op ≤ 11) ∧ HoldsV d.op d.num ((q : Int) - i - 1) d.nm d.ms) ∧ AllV q (i + 1) r
theorem takes_nn {o : Int} : ¬ (takesV o).1 < 0 ↔ 1 ≤ o ∧ o ≤ 11 := by
  constructor
  · intro h
    by_cases hin : 1 ≤ o ∧ o ≤ 11
    · exact hin
    · rw [takes_bad hin] at h; exact absurd (by decide) h
  · intro h
    rcases ops11 h with rfl | rfl | rfl | rfl | rfl | rfl | rfl | rfl | rfl | rfl | rfl <;> decide
theorem allV_of_run {q : Nat} : ∀ {ds : List Pl} {i : Nat} {hs hs' : List Int}, runV q i ds hs = some hs' → AllV q i ds
  | [], _, _, _, _ => trivial
  | d :: r, i, hs, hs', h => by
    rw [runV] at h
    obtain ⟨h1, e1, e2⟩ := Option.bind_eq_some_iff.1 h
    refine ⟨?_, allV_of_run e2⟩
    unfold stepV at e1
    by_cases hc : (takesV d.op).1 < 0 ∨ ¬ HoldsV d.op d.num ((q : Int) - i - 1) d.nm d.ms
    · rw [if_pos hc] at e1; cases e1
    · exact ⟨takes_nn.1 (fun x => hc (Or.inl x)), Classical.byContradiction fun x => hc (Or.inr x)⟩
theorem allV_get {q : Nat} : ∀ {ds : List Pl} {i : Nat}, AllV q i ds → ∀ j, (hj : j < ds.length) → (1 ≤ ds[j].op ∧ ds[j].op ≤ 11) ∧ HoldsV ds[j].op ds[j].num ((q : Int) - ((i + j : Nat) : Int) - 1) ds[j].nm ds[j].ms
  | [], _, _, j, hj => by simp at hj
  | d :: r, i, h, 0, hj => by simpa using h.1
  | d :: r, i, h, j + 1, hj => by
    have := allV_get h.2 j (by simpa using hj)
    rw [show i + 1 + j = i + (j + 1) by omega] at this
    simpa using this
theorem allV_of {q : Nat} : ∀ {ds : List Pl} {i : Nat}, (∀ j, (hj : j < ds.length) → (1 ≤ ds[j].op ∧ ds[j].op ≤ 11) ∧ HoldsV ds[j].op ds[j].num ((q : Int) - ((i + j : Nat) : Int) - 1) ds[j].nm ds[j].ms) → AllV q i ds
  | [], _, _ => trivial
  | d :: r, i, h => by
    refine ⟨h 0 (by simp), allV_of fun j hj => ?_⟩
    have := h (j + 1) (by simpa using hj)
    rw [show i + (j + 1) = i + 1 + j by omega] at this
    simpa using this
theorem heightsV_all {ds : List Pl} {hs : List Int} (h : heightsV ds = some hs) : AllV ds.length 0 ds := by
  unfold heightsV at h
  obtain ⟨h1, e1, e2⟩ := Option.bind_eq_some_iff.1 h
  exact allV_of_run e1
theorem heightsV_len {ds : List Pl} {hs : List Int} (h : heightsV ds = some hs) : hs.length = ds.length + 1 := by
  unfold heightsV at h
  obtain ⟨h1, e1, e2⟩ := Option.bind_eq_some_iff.1 h
  split at e2
  · cases e2
    have key : ∀ (q : Nat) (ds : List Pl) (i : Nat) (a b : List Int), runV q i ds a = some b → b.length = a.length := by
      intro q ds
      induction ds with
      | nil => intro i a b h; rw [runV] at h; cases h; rfl
      | cons d r ih =>
        intro i a b h
        rw [runV] at h
        obtain ⟨c, g1, g2⟩ := Option.bind_eq_some_iff.1 h
        rw [ih _ _ _ g2, step_len g1]
    rw [key _ _ _ _ _ e1]
    simp [firstV]
  · cases e2
theorem runV_in {q : Nat} : ∀ {ds : List Pl} {i : Nat} {a b : List Int}, InV a → runV q i ds a = some b → InV b
  | [], i, a, b, ha, h => by rw [runV] at h; cases h; exact ha
  | d :: r, i, a, b, ha, h => by
    rw [runV] at h
    obtain ⟨c, g1, g2⟩ := Option.bind_eq_some_iff.1 h
    exact runV_in (step_in ha g1) g2
theorem heightsV_in {ds : List Pl} {hs : List Int} (h : heightsV ds = some hs) : InV hs := by
  unfold heightsV at h
  obtain ⟨h1, e1, e2⟩ := Option.bind_eq_some_iff.1 h
  split at e2
  · cases e2; exact runV_in (inV_first _) e1
  · cases e2
theorem allV_sm {q : Nat} {ds : List Pl} (hq : q ≤ 1000000) (h : AllV q 0 ds) : ∀ d ∈ ds, SmV d := by
  intro d hd
  obtain ⟨j, hj, rfl⟩ := List.getElem_of_mem hd
  have := allV_get h j hj
  exact smV_of (by omega) this.1 this.2
/-- Whether a program is ok. -/
def OkV (ds : List Pl) : Prop := (1 ≤ ds.length ∧ ds.length ≤ 80) ∧ (heightsV ds).isSome = true ∧ (textV ds).length ≤ 1600
instance (ds : List Pl) : Decidable (OkV ds) := by unfold OkV; infer_instance
theorem okV_all {ds : List Pl} (h : OkV ds) : AllV ds.length 0 ds := by
  obtain ⟨hs, e⟩ := Option.isSome_iff_exists.1 h.2.1
  exact heightsV_all e
theorem okV_sm {ds : List Pl} (h : OkV ds) : ∀ d ∈ ds, SmV d := allV_sm (by have := h.1.2; omega) (okV_all h)
/-- The greatest of numbers, 0 at least. -/
def mxV (hs : List Int) : Int := hs.foldl max 0
def deepV (ds : List Pl) : Int := if OkV ds then mxV ((heightsV ds).getD []) else 0
theorem foldl_max (l : List Int) (a : Int) : l.foldl max a = max a (l.foldl max 0) ∨ a < 0 := by
  by_cases h : a < 0
  · exact Or.inr h
  · left
    induction l generalizing a with
    | nil => simp; omega
    | cons x r ih =>
      simp only [List.foldl_cons]
      rw [ih (max a x) (by omega)]
      rcases Int.lt_or_le x 0 with hx | hx
      · rw [show max 0 x = 0 from by omega]; omega
      · rw [ih (max 0 x) (by omega)]; omega
theorem mxV_cons (x : Int) (r : List Int) : mxV (x :: r) = max (max 0 x) (mxV r) := by
  unfold mxV
  rw [List.foldl_cons]
  rcases foldl_max r (max 0 x) with h | h
  · exact h
  · omega
theorem mxV_nn (l : List Int) : 0 ≤ mxV l := by
  cases l with
  | nil => simp [mxV]
  | cons x r => rw [mxV_cons]; omega
theorem mxV_snoc (l : List Int) (x : Int) : mxV (l ++ [x]) = max (mxV l) x := by
  unfold mxV; rw [List.foldl_append]; rfl
theorem mxV_take {l : List Int} {k : Nat} (h : k < l.length) : mxV (l.take (k + 1)) = max (mxV (l.take k)) l[k] := by
  rw [List.take_succ_eq_append_getElem h, mxV_snoc]
theorem mxV_ge : ∀ {l : List Int} {x : Int}, x ∈ l → x ≤ mxV l
  | y :: r, x, h => by
    rw [mxV_cons]
    rcases List.mem_cons.1 h with rfl | h
    · omega
    · have := mxV_ge h; omega
theorem mxV_set : ∀ (l : List Int) (i : Nat) (n : Int), i < l.length → (l.getD i 0 < 0 ∨ l.getD i 0 = n) → mxV (l.set i n) = max (mxV l) n
  | x :: r, 0, n, _, h => by
    simp only [List.set_cons_zero, mxV_cons, List.getD_cons_zero] at h ⊢
    have := mxV_nn r
    omega
  | x :: r, i + 1, n, hi, h => by
    simp only [List.set_cons_succ, mxV_cons, List.getD_cons_succ] at h ⊢
    rw [mxV_set r i n (by simpa using hi) h]
    omega
theorem mxV_le {l : List Int} (h : InV l) : mxV l ≤ 12 := by
  induction l with
  | nil => simp [mxV]
  | cons x r ih =>
    rw [mxV_cons]
    have := ih (fun y hy => h y (by simp [hy]))
    have := h x (by simp)
    omega
/-- The program's way to mark: what stands there must be nothing, or the same. -/
theorem markV_ok {hs : List Int} (hin : InV hs) {i : Nat} (hi : i < hs.length) {n : Int} (n0 : 0 ≤ n) (h : ¬ (hs.getD i 0 ≠ -1 ∧ hs.getD i 0 ≠ n)) : markV hs i n = (hs.set i n, true) ∧ mxV (hs.set i n) = max (mxV hs) n := by
  have hb := inV_getD hin i
  unfold markV
  split
  · rename_i hp
    have e : hs.getD i 0 = n := by omega
    refine ⟨?_, mxV_set _ _ _ hi (Or.inr e)⟩
    have e2 : hs.set i n = hs := by
      rw [← e]
      have : hs.getD i 0 = hs[i] := by simp [hi]
      rw [this]; exact List.set_getElem_self hi
    rw [e2, e]; simp
  · exact ⟨rfl, mxV_set _ _ _ hi (Or.inl (by omega))⟩
theorem markV_no {hs : List Int} (hin : InV hs) {i : Nat} {n : Int} (h : hs.getD i 0 ≠ -1 ∧ hs.getD i 0 ≠ n) : (markV hs i n).2 = false := by
  have hb := inV_getD hin i
  unfold markV
  rw [if_pos (by omega)]
  simpa using h.2
/-- Where ways lead to. -/
def nextsV (i : Nat) (d : Pl) : List Nat := if d.op = 9 then [i + 1, i + 1 + d.num.toNat] else if d.op = 11 then [i + 1 + d.num.toNat] else [i + 1]
def marksL : List Nat → Int → List Int → Option (List Int)
  | [], _, hs => some hs
  | t :: r, n, hs => if (markV hs t n).2 then marksL r n (markV hs t n).1 else none
theorem marksL_eq (i : Nat) (d : Pl) (n : Int) (hs : List Int) : (if (marksV i d n hs).2 then some (marksV i d n hs).1 else none) = marksL (nextsV i d) n hs := by
  unfold marksV nextsV
  by_cases h9 : d.op = 9
  · rw [if_pos h9, if_pos h9, marksL, marksL, marksL]
    by_cases h1 : (markV hs (i + 1) n).2
    · rw [if_pos h1, if_pos h1]
    · rw [if_neg h1, if_neg h1, if_neg h1]
  rw [if_neg h9, if_neg h9]
  by_cases h11 : d.op = 11
  · rw [if_pos h11, if_pos h11, marksL, marksL]
  · rw [if_neg h11, if_neg h11, marksL, marksL]
theorem nexts_len (i : Nat) (d : Pl) : 1 ≤ (nextsV i d).length ∧ (nextsV i d).length ≤ 2 := by
  unfold nextsV
  split
  · simp
  split <;> simp
theorem nexts_le {q i : Nat} {d : Pl} (h : HoldsV d.op d.num ((q : Int) - i - 1) d.nm d.ms) (hi : i < q) : ∀ t ∈ nextsV i d, t ≤ q := by
  unfold nextsV
  unfold HoldsV at h
  intro t ht
  split at ht
  · rw [if_pos (Or.inl ‹_›)] at h
    obtain ⟨⟨h1, h2⟩, -⟩ := h
    simp at ht
    omega
  split at ht
  · rw [if_pos (Or.inr ‹_›)] at h
    obtain ⟨⟨h1, h2⟩, -⟩ := h
    simp at ht
    omega
  · simp at ht
    omega
theorem marksL_drop {ts : List Nat} {j : Nat} (h : j < ts.length) (n : Int) (hs : List Int) : marksL (ts.drop j) n hs = if (markV hs ts[j] n).2 then marksL (ts.drop (j + 1)) n (markV hs ts[j] n).1 else none := by
  rw [List.drop_eq_getElem_cons h, marksL]
def fillV (q k : Nat) : List Int := 0 :: (List.replicate k (-1) ++ List.replicate (q - k) 0)
theorem fillV_len {q k : Nat} (h : k ≤ q) : (fillV q k).length = q + 1 := by simp [fillV]; omega
theorem fillV_set {q k : Nat} (h : k < q) : (fillV q k).set (k + 1) (-1) = fillV q (k + 1) := by
  unfold fillV
  rw [List.set_cons_succ, List.set_append_right _ _ (by simp)]
  simp only [List.length_replicate, Nat.sub_self]
  rw [show q - k = (q - (k + 1)) + 1 by omega, List.replicate_succ, List.set_cons_zero, List.replicate_succ', List.append_assoc]
  rfl
theorem fillV_zero (q : Nat) : fillV q 0 = List.replicate (q + 1) 0 := by simp [fillV, List.replicate_succ]
theorem fillV_all (q : Nat) : fillV q q = firstV q := by simp [fillV, firstV]
theorem mxV_first (q : Nat) : mxV (firstV q) = 0 := by
  have h : ∀ k : Nat, mxV (List.replicate k (-1)) = 0 := by
    intro k
    induction k with
    | zero => rfl
    | succ k ih => rw [List.replicate_succ, mxV_cons, ih]; rfl
  unfold firstV
  rw [mxV_cons, h]; rfl
end Go.Proofs.YtembapomapcdfaaDoor
