/-
  A program that grows in memory of one's own: places, their marks, and what two programs one behind the other are; the program of a rule.
-/
import Derived.Test.YtembapomapcdfaaDoorIns
import Derived.Test.YtembapomapcdfaaDoorRuleMath
import Derived.Test.YtembapomapcdfaaDoorRuleFits
import Derived.Deep.AppendLies
namespace Go.Proofs.YtembapomapcdfaaDoor
open Go.RowKit
set_option linter.unusedVariables false
set_option linter.unusedSimpArgs false

abbrev tI : TypeId := 61
abbrev tK : TypeId := 78
def cells4 (f : FI) : List Value := [.int .i64 f.op, .int .i64 f.num, .string f.name, .slice f.ma f.ml f.mc]
def rowsI (fs : List FI) : List Value := fs.flatMap cells4
def cells2 (m : Int × Int) : List Value := [.int .i64 m.1, .int .i64 m.2]
def rowsM (ms : List (Int × Int)) : List Value := ms.flatMap cells2
def MkV (f : FI) : Value := .slice f.ma f.ml f.mc
/-- A place whose marks lie in memory of one's own. -/
def PlO (B : Nat) (w : World) (d : Pl) (f : FI) : Prop := f.op = d.op ∧ f.num = d.num ∧ f.name = d.nm ∧ f.ml = d.ms.length ∧ w.ownsRow B tK 2 (MkV f) f.ml (rowsM d.ms)
def AllO (B : Nat) (w : World) : List Pl → List FI → Prop
  | [], [] => True
  | d :: ds, f :: fs => PlO B w d f ∧ AllO B w ds fs
  | _, _ => False
def ApartF (fs : List FI) : Prop := fs.Pairwise fun f f' => ∀ g, (MkV f).ownBlock = some g → (MkV f').ownBlock ≠ some g
def CodeF (B : Nat) (w : World) (v : Value) (ds : List Pl) (fs : List FI) : Prop := w.ownsRow B tI 4 v ds.length (rowsI fs) ∧ AllO B w ds fs ∧ ApartF fs
def CodeO (B : Nat) (w : World) (v : Value) (ds : List Pl) : Prop := ∃ fs, CodeF B w v ds fs

theorem rowsI_len (fs : List FI) : (rowsI fs).length = fs.length * 4 := by
  unfold rowsI
  induction fs with
  | nil => simp
  | cons f r ih => rw [List.flatMap_cons, List.length_append, ih, List.length_cons]; simp [cells4]; omega
theorem rowsM_len (ms : List (Int × Int)) : (rowsM ms).length = ms.length * 2 := by
  unfold rowsM
  induction ms with
  | nil => simp
  | cons f r ih => rw [List.flatMap_cons, List.length_append, ih, List.length_cons]; simp [cells2]; omega
theorem rowsI_get : ∀ (fs : List FI) (j c : Nat), (hj : j < fs.length) → c < 4 → (rowsI fs)[j * 4 + c]? = (cells4 fs[j])[c]?
  | f :: r, 0, c, _, hc => by
    unfold rowsI
    rw [List.flatMap_cons, List.getElem?_append_left (by simp [cells4]; omega)]; simp
  | f :: r, j + 1, c, hj, hc => by
    have ih := rowsI_get r j c (by simpa using hj) hc
    unfold rowsI at ih ⊢
    rw [List.flatMap_cons, List.getElem?_append_right (by simp [cells4]; omega)]
    have e : (j + 1) * 4 + c - (cells4 f).length = j * 4 + c := by simp [cells4]; omega
    rw [e, ih]; rfl
theorem rowsM_get : ∀ (ms : List (Int × Int)) (j c : Nat), (hj : j < ms.length) → c < 2 → (rowsM ms)[j * 2 + c]? = (cells2 ms[j])[c]?
  | f :: r, 0, c, _, hc => by
    unfold rowsM
    rw [List.flatMap_cons, List.getElem?_append_left (by simp [cells2]; omega)]; simp
  | f :: r, j + 1, c, hj, hc => by
    have ih := rowsM_get r j c (by simpa using hj) hc
    unfold rowsM at ih ⊢
    rw [List.flatMap_cons, List.getElem?_append_right (by simp [cells2]; omega)]
    have e : (j + 1) * 2 + c - (cells2 f).length = j * 2 + c := by simp [cells2]; omega
    rw [e, ih]; rfl
theorem allO_len {B : Nat} {w : World} : ∀ {ds : List Pl} {fs : List FI}, AllO B w ds fs → fs.length = ds.length
  | [], [], _ => rfl
  | d :: ds, f :: fs, h => by simp only [List.length_cons]; rw [allO_len h.2]
theorem allO_get {B : Nat} {w : World} : ∀ {ds : List Pl} {fs : List FI}, AllO B w ds fs → ∀ j, (hj : j < ds.length) → (hf : j < fs.length) → PlO B w ds[j] fs[j]
  | d :: ds, f :: fs, h, 0, _, _ => h.1
  | d :: ds, f :: fs, h, j + 1, hj, hf => allO_get h.2 j (by simpa using hj) (by simpa using hf)
theorem allO_mem {B : Nat} {w : World} : ∀ {ds : List Pl} {fs : List FI}, AllO B w ds fs → ∀ f ∈ fs, ∃ d, PlO B w d f
  | _, [], h, x, hx => by simp at hx
  | [], _ :: _, h, x, hx => h.elim
  | d :: ds, f :: fs, h, x, hx => by
    rcases List.mem_cons.1 hx with e | hx
    · subst e; exact ⟨d, h.1⟩
    · exact allO_mem h.2 x hx
theorem allO_app {B : Nat} {w : World} : ∀ {ds : List Pl} {fs : List FI} {ds' : List Pl} {fs' : List FI}, AllO B w ds fs → AllO B w ds' fs' → AllO B w (ds ++ ds') (fs ++ fs')
  | [], [], _, _, _, h' => h'
  | d :: ds, f :: fs, _, _, h, h' => ⟨h.1, allO_app h.2 h'⟩
theorem allO_imp {B B' : Nat} {w w' : World} (H : ∀ d f, PlO B w d f → PlO B' w' d f) : ∀ {ds : List Pl} {fs : List FI}, AllO B w ds fs → AllO B' w' ds fs
  | [], [], _ => trivial
  | d :: ds, f :: fs, h => ⟨H d f h.1, allO_imp H h.2⟩
/-- What an owned value's block is. -/
theorem owns_typed {w : World} {B : Nat} {e : TypeId} {z : Nat} {v : Value} {n : Nat} {xs : List Value} (h : w.ownsRow B e z v n xs) {g : Nat} (hg : v.ownBlock = some g) : B ≤ g ∧ ∃ cur, w.heap[g]? = some (.cells cur e (0, 0)) := by
  rcases h.2 with ⟨rfl, -⟩ | ⟨g', cap, cur, rfl, hb, hc, -⟩
  · simp [Value.ownBlock] at hg
  · simp [Value.ownBlock] at hg
    subst hg
    exact ⟨hb, cur, hc⟩
theorem owns_mono {w : World} {B B' : Nat} {e : TypeId} {z : Nat} {v : Value} {n : Nat} {xs : List Value} (h : w.ownsRow B e z v n xs) (hB : B' ≤ B) : w.ownsRow B' e z v n xs := by
  refine ⟨h.1, ?_⟩
  rcases h.2 with h2 | ⟨g, cap, cur, h3, hb, h4⟩
  · exact Or.inl h2
  · exact Or.inr ⟨g, cap, cur, h3, Nat.le_trans hB hb, h4⟩
theorem tIK : tI ≠ tK := by decide
theorem PlO.kept {B : Nat} {w w' : World} {d : Pl} {f : FI} (h : PlO B w d f) {row : Option Nat} (hg : w.grownBy w' row) (hr : ∀ g, row = some g → ∃ cur, w.heap[g]? = some (.cells cur tI (0, 0))) : PlO B w' d f := by
  obtain ⟨h1, h2, h3, h4, h5⟩ := h
  refine ⟨h1, h2, h3, h4, h5.kept hg ?_⟩
  cases hb : (MkV f).ownBlock with
  | none => exact Or.inl rfl
  | some g =>
    refine Or.inr fun e => ?_
    obtain ⟨-, cur, hc⟩ := owns_typed h5 hb
    obtain ⟨cur', hc'⟩ := hr g e.symm
    rw [hc] at hc'
    have := Option.some.inj hc'
    injection this with _ h _
    exact tIK h.symm
theorem PlO.below {B : Nat} {w w' : World} {d : Pl} {f : FI} (h : PlO B w d f) (hb : Below w.heap.size w w') : PlO B w' d f :=
  h.kept (row := none) (below_grownM hb) (fun g e => by cases e)
theorem PlO.mono {B B' : Nat} {w : World} {d : Pl} {f : FI} (h : PlO B w d f) (hB : B' ≤ B) : PlO B' w d f := ⟨h.1, h.2.1, h.2.2.1, h.2.2.2.1, owns_mono h.2.2.2.2 hB⟩
theorem CodeF.below {B : Nat} {w w' : World} {v : Value} {ds : List Pl} {fs : List FI} (h : CodeF B w v ds fs) (hb : Below w.heap.size w w') : CodeF B w' v ds fs :=
  ⟨h.1.kept (row := none) (below_grownM hb) (Classical.em _), allO_imp (fun _ _ k => k.below hb) h.2.1, h.2.2⟩
theorem CodeO.below {B : Nat} {w w' : World} {v : Value} {ds : List Pl} (h : CodeO B w v ds) (hb : Below w.heap.size w w') : CodeO B w' v ds := by
  obtain ⟨fs, h⟩ := h; exact ⟨fs, h.below hb⟩
theorem CodeO.mono {B B' : Nat} {w : World} {v : Value} {ds : List Pl} (h : CodeO B w v ds) (hB : B' ≤ B) : CodeO B' w v ds := by
  obtain ⟨fs, h1, h2, h3⟩ := h; exact ⟨fs, owns_mono h1 hB, allO_imp (fun _ _ k => k.mono hB) h2, h3⟩
theorem CodeO.nil (B : Nat) (w : World) : CodeO B w (.slice none 0 0) [] := ⟨[], World.ownsRow_nil _ _ _ _, trivial, List.Pairwise.nil⟩
theorem CodeO.made {B : Nat} {w : World} (hB : B ≤ w.heap.size) : CodeO B (w.alloc (.cells #[] tI)) (.slice (some ⟨w.heap.size, 0, none⟩) 0 0) [] :=
  ⟨[], World.ownsRow_made w #[] 0 hB (by unfold maxLen; omega) rfl, trivial, List.Pairwise.nil⟩
/-- Blocks of marks lie below. -/
theorem codeF_lt {B : Nat} {w : World} {v : Value} {ds : List Pl} {fs : List FI} (h : CodeF B w v ds fs) : ∀ f ∈ fs, ∀ g, (MkV f).ownBlock = some g → B ≤ g ∧ g < w.heap.size := by
  intro f hf g hg
  obtain ⟨d, hd⟩ := allO_mem h.2.1 f hf
  exact hd.2.2.2.2.lt g hg
/-- One program behind another. -/
theorem CodeF.app {B C : Nat} {w w' : World} {v : Value} {ds ds' : List Pl} {fs fs' : List FI} {g cap : Nat} (h : CodeF B w v ds fs) (hlow : ∀ f ∈ fs, ∀ b, (MkV f).ownBlock = some b → b < C) (hBC : B ≤ C)
    (h' : AllO C w ds' fs') (ha : ApartF fs') (hown : w'.ownsRow B tI 4 (.slice (some ⟨g, 0, none⟩) (ds.length + ds'.length) cap) (ds.length + ds'.length) (rowsI fs ++ rowsI fs')) (hgr : w.grownBy w' v.ownBlock) :
    CodeF B w' (.slice (some ⟨g, 0, none⟩) (ds.length + ds'.length) cap) (ds ++ ds') (fs ++ fs') := by
  have hrow : ∀ b, v.ownBlock = some b → ∃ cur, w.heap[b]? = some (.cells cur tI (0, 0)) := fun b e => (owns_typed h.1 e).2
  refine ⟨?_, ?_, ?_⟩
  · rw [List.length_append]; unfold rowsI at hown ⊢; rw [List.flatMap_append]; exact hown
  · exact allO_app (allO_imp (fun _ _ k => k.kept hgr hrow) h.2.1) (allO_imp (fun _ _ k => (k.kept hgr hrow).mono hBC) h')
  · refine List.pairwise_append.2 ⟨h.2.2, ha, fun f hf f' hf' b hb hb' => ?_⟩
    have h1 := hlow f hf b hb
    obtain ⟨d, hd⟩ := allO_mem h' f' hf'
    have h2 := (hd.2.2.2.2.lt b hb').1
    omega
theorem rowsI_one {fs : List FI} : ∀ u ∈ rowsI fs, u.oneCell' = true := by
  intro u hu
  unfold rowsI at hu
  obtain ⟨f, -, hf⟩ := List.mem_flatMap.1 hu
  unfold cells4 at hf
  simp at hf
  rcases hf with rfl | rfl | rfl | rfl <;> rfl
theorem rowsM_one {ms : List (Int × Int)} : ∀ u ∈ rowsM ms, u.oneCell' = true := by
  intro u hu
  unfold rowsM at hu
  obtain ⟨f, -, hf⟩ := List.mem_flatMap.1 hu
  unfold cells2 at hf
  simp at hf
  rcases hf with rfl | rfl <;> rfl
theorem addA (b o j : Nat) : (⟨b, o, none⟩ : Addr).add j = ⟨b, o + j, none⟩ := by unfold Addr.add; split <;> simp_all
/-- The cells of an owned row, to be appended. -/
theorem owns_news {w : World} {B g cap z n : Nat} {e : TypeId} {xs : List Value} (h : w.ownsRow B e z (.slice (some ⟨g, 0, none⟩) n cap) n xs) : ∀ j u, xs[j]? = some u → w.cell? ((⟨g, 0, none⟩ : Addr).add j) = some u := by
  intro j u hj
  rw [addA, Nat.zero_add, h.cellAt j (by rw [← h.1]; exact (List.getElem?_eq_some_iff.1 hj).1)]
  exact hj
/-- As it reads. -/
theorem marksN_owns {w : World} {B : Nat} {f : FI} {ms : List (Int × Int)} {N : Nat → Prop} (h : w.ownsRow B tK 2 (MkV f) f.ml (rowsM ms)) (hl : f.ml = ms.length) (hN : ∀ b, B ≤ b → N b) : MarksN N w f.ma f.ml ms := by
  refine ⟨hl, ?_⟩
  rcases Nat.eq_zero_or_pos f.ml with h0 | h0
  · exact Or.inl h0
  right
  obtain ⟨g, cap, e, hb, hlt⟩ := h.form h0
  unfold MkV at e h
  injection e with e1 e2 e3
  rw [e1] at h
  refine ⟨g, 0, e1, hN g hb, hlt, fun i hi => ?_⟩
  have hi' : i < ms.length := by omega
  have k0 := h.cellAt (i * 2) (by omega)
  have k1 := h.cellAt (i * 2 + 1) (by omega)
  have r0 := rowsM_get ms i 0 hi' (by omega)
  have r1 := rowsM_get ms i 1 hi' (by omega)
  have eg : ms.getD i (0, 0) = ms[i] := by simp [hi']
  rw [Nat.add_zero] at r0
  rw [eg, Nat.zero_add, k0, r0, k1, r1]
  exact ⟨rfl, rfl⟩
theorem codeO_pls {B : Nat} {w : World} {a : Option Addr} {n c : Nat} {ds : List Pl} (h : CodeO B w (.slice a n c) ds) (hn : n = ds.length) : PlsN All w a n ds := by
  obtain ⟨fs, h1, h2, h3⟩ := h
  refine ⟨hn, ?_⟩
  rcases Nat.eq_zero_or_pos n with h0 | h0
  · exact Or.inl h0
  right
  rw [← hn] at h1
  obtain ⟨g, cap, e, hb, hlt⟩ := h1.form h0
  injection e with e1 e2 e3
  subst e1
  refine ⟨g, 0, rfl, trivial, hlt, fun j hj => ?_⟩
  have hjf : j < fs.length := by rw [allO_len h2]; exact hj
  have key := fun c (hc : c < 4) => (h1.cellAt (j * 4 + c) (by omega)).trans (rowsI_get fs j c hjf hc)
  have hp := allO_get h2 j hj hjf
  refine ⟨fs[j], ⟨by rw [Nat.zero_add]; exact key 0 (by omega), by rw [Nat.zero_add]; exact key 1 (by omega), by rw [Nat.zero_add]; exact key 2 (by omega), by rw [Nat.zero_add]; exact key 3 (by omega)⟩, hp.1, hp.2.1, hp.2.2.1, marksN_owns hp.2.2.2.2 hp.2.2.2.1 (fun _ _ => trivial), ?_⟩
  rcases hp.2.2.2.2.2 with ⟨e, e0⟩ | ⟨g', cap', cur, e, -, -, hle, -⟩
  · unfold MkV at e; injection e with _ e2 e3; omega
  · unfold MkV at e; injection e with _ e2 e3; omega

mutual
/-- The program of a rule. -/
def codeT : Tr → List Pl
  | .node o n s ks ms => if o = 9 then ((codesL ks).take 2).flatten ++ (⟨9, ((codesL ks).getD 2 []).length + 1, ⟨#[]⟩, []⟩ :: ((codesL ks).getD 2 [] ++ (⟨11, ((codesL ks).getD 3 []).length, ⟨#[]⟩, []⟩ :: (codesL ks).getD 3 []))) else (codesL ks).flatten ++ [⟨o, n, s, ms⟩]
def codesL : List Tr → List (List Pl)
  | [] => []
  | t :: r => codeT t :: codesL r
end
theorem codesL_eq : ∀ ks : List Tr, codesL ks = ks.map codeT
  | [] => by rw [codesL]; rfl
  | t :: r => by rw [codesL, codesL_eq r]; rfl
theorem codeT_if {n : Int} {s : ByteArray} {ks : List Tr} {ms : List (Int × Int)} (h : ks.length = 4) : codeT (.node 9 n s ks ms) = ((ks.take 2).map codeT).flatten ++ (⟨9, (codeT (ks[2]'(by omega))).length + 1, ⟨#[]⟩, []⟩ :: (codeT (ks[2]'(by omega)) ++ (⟨11, (codeT (ks[3]'(by omega))).length, ⟨#[]⟩, []⟩ :: codeT (ks[3]'(by omega))))) := by
  rw [codeT, if_pos rfl, codesL_eq, ← List.map_take]
  have e2 : (ks.map codeT).getD 2 [] = codeT (ks[2]'(by omega)) := by simp [h]
  have e3 : (ks.map codeT).getD 3 [] = codeT (ks[3]'(by omega)) := by simp [h]
  rw [e2, e3]
theorem codeT_op {o n : Int} {s : ByteArray} {ks : List Tr} {ms : List (Int × Int)} (h : o ≠ 9) : codeT (.node o n s ks ms) = (ks.map codeT).flatten ++ [⟨o, n, s, ms⟩] := by
  rw [codeT, if_neg h, codesL_eq]
theorem codeT_pos : ∀ t : Tr, 1 ≤ (codeT t).length
  | .node o n s ks ms => by
    rw [codeT]
    split
    · simp only [List.length_append, List.length_cons]; omega
    · simp only [List.length_append, List.length_cons]; omega
theorem flat_le (f : Tr → List Pl) : ∀ (l : List Tr) (c : Nat), (∀ t ∈ l, (f t).length ≤ 2 * wT t) → ((l.map f).flatten).length ≤ 2 * wL l
  | [], c, h => by simp
  | t :: r, c, h => by
    have a := h t (by simp)
    have b := flat_le f r c (fun x hx => h x (by simp [hx]))
    simp only [List.map_cons, List.flatten_cons, List.length_append, wL]
    omega
theorem wL_split (ks : List Tr) (h : ks.length = 4) : wL (ks.take 2) + wT (ks[2]'(by omega)) + wT (ks[3]'(by omega)) = wL ks := by
  match ks, h with
  | [a, b, c, d], _ => simp [wL]; omega
theorem codeT_len {t : Tr} (h : OkP t) : (codeT t).length ≤ 2 * wT t := by
  have key : ∀ (k : Nat) (t : Tr), wT t ≤ k → OkP t → (codeT t).length ≤ 2 * wT t := by
    intro k
    induction k with
    | zero => intro t hw _; cases t; rw [wT] at hw; omega
    | succ k ih =>
      rintro ⟨o, n, s, ks, ms⟩ hw hok
      obtain ⟨hp, hoks⟩ := okP_parts hok
      rw [wT] at hw
      have hm : ∀ t ∈ ks, (codeT t).length ≤ 2 * wT t := fun t ht => ih t (by have := wL_mem ht; omega) (hoks t ht)
      by_cases h9 : o = 9
      · subst h9
        have h4 : ks.length = 4 := by have := hp.1; unfold kidsN at this; simp at this; omega
        rw [codeT_if h4, wT]
        have a := flat_le codeT (ks.take 2) 0 (fun t ht => hm t (List.mem_of_mem_take ht))
        have b := hm (ks[2]'(by omega)) (List.getElem_mem _)
        have c := hm (ks[3]'(by omega)) (List.getElem_mem _)
        have d := wL_split ks h4
        simp only [List.length_append, List.length_cons]
        omega
      · rw [codeT_op h9, wT]
        have a := flat_le codeT ks 0 hm
        simp only [List.length_append, List.length_cons, List.length_nil]
        omega
  exact key _ t (Nat.le_refl _) h
theorem codes_snoc {ks : List Tr} {k : Nat} (h : k < ks.length) : ((ks.take (k + 1)).map codeT).flatten = ((ks.take k).map codeT).flatten ++ codeT ks[k] := by
  rw [List.take_succ_eq_append_getElem h, List.map_append, List.flatten_append]
  simp
end Go.Proofs.YtembapomapcdfaaDoor
