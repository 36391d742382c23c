/-
  A program that grows in memory of one's own: places, their marks, and what two programs one behind the other are; the program of a rule.
  What a program has at hand: the model's walk.
  What a program has at hand: the program's walk.
  The kids of a rule in a row of one's own; no law is proved here.
-/
import Derived.Test.YtjhgmmcglonokaaGreatDoorJ15
import Derived.Test.YtjhgmmcglonokaaGreatDoorRuleMath
import Derived.Test.YtjhgmmcglonokaaGreatDoorJ20
import Derived.Deep.AppendLies
import Derived.Deep.Cut
import Derived.Test.YtjhgmmcglonokaaGreatDoorJ19
import Derived.WalkLawsBesides
import Derived.OwnWalk
namespace Go.Proofs.YtjhgmmcglonokaaGreatDoor
open Go.RowKit
set_option linter.unusedVariables false
set_option linter.unusedSimpArgs false

abbrev tI : TypeId := 48
abbrev tK : TypeId := 93
def cells4 (f : FI) : List Value := [.int .i64 f.op, .int .i64 f.num, .string f.name, .slice f.ma f.ml f.mc]
def rowsI (fs : List FI) : List Value := fs.flatMap cells4
def cells2 (m : Int × Int) : List Value := [.int .i64 m.1, .int .i64 m.2]
def rowsM (ms : List (Int × Int)) : List Value := ms.flatMap cells2
def MkV (f : FI) : Value := .slice f.ma f.ml f.mc
/-- A place whose marks lie in memory of one's own. -/
def PlO (B : Nat) (w : World) (d : Pl) (f : FI) : Prop := f.op = d.op ∧ f.num = d.num ∧ f.name = d.nm ∧ f.ml = d.ms.length ∧ w.ownsRow B tK 2 (MkV f) f.ml (rowsM d.ms)
def AllO (B : Nat) (w : World) : List Pl → List FI → Prop
  | [], [] => True
  | d :: ds, f :: fs => PlO B w d f ∧ AllO B w ds fs
  | _, _ => False
def ApartF (fs : List FI) : Prop := fs.Pairwise fun f f' => ∀ g, (MkV f).ownBlock = some g → (MkV f').ownBlock ≠ some g
def CodeF (B : Nat) (w : World) (v : Value) (ds : List Pl) (fs : List FI) : Prop := w.ownsRow B tI 4 v ds.length (rowsI fs) ∧ AllO B w ds fs ∧ ApartF fs
def CodeO (B : Nat) (w : World) (v : Value) (ds : List Pl) : Prop := ∃ fs, CodeF B w v ds fs

theorem rowsI_len (fs : List FI) : (rowsI fs).length = fs.length * 4 := by
  unfold rowsI
  induction fs with
  | nil => simp
  | cons f r ih => rw [List.flatMap_cons, List.length_append, ih, List.length_cons]; simp [cells4]; omega
theorem rowsM_len (ms : List (Int × Int)) : (rowsM ms).length = ms.length * 2 := by
  unfold rowsM
  induction ms with
  | nil => simp
  | cons f r ih => rw [List.flatMap_cons, List.length_append, ih, List.length_cons]; simp [cells2]; omega
theorem rowsI_get : ∀ (fs : List FI) (j c : Nat), (hj : j < fs.length) → c < 4 → (rowsI fs)[j * 4 + c]? = (cells4 fs[j])[c]?
  | f :: r, 0, c, _, hc => by
    unfold rowsI
    rw [List.flatMap_cons, List.getElem?_append_left (by simp [cells4]; omega)]; simp
  | f :: r, j + 1, c, hj, hc => by
    have ih := rowsI_get r j c (by simpa using hj) hc
    unfold rowsI at ih ⊢
    rw [List.flatMap_cons, List.getElem?_append_right (by simp [cells4]; omega)]
    have e : (j + 1) * 4 + c - (cells4 f).length = j * 4 + c := by simp [cells4]; omega
    rw [e, ih]; rfl
theorem rowsM_get : ∀ (ms : List (Int × Int)) (j c : Nat), (hj : j < ms.length) → c < 2 → (rowsM ms)[j * 2 + c]? = (cells2 ms[j])[c]?
  | f :: r, 0, c, _, hc => by
    unfold rowsM
    rw [List.flatMap_cons, List.getElem?_append_left (by simp [cells2]; omega)]; simp
  | f :: r, j + 1, c, hj, hc => by
    have ih := rowsM_get r j c (by simpa using hj) hc
    unfold rowsM at ih ⊢
    rw [List.flatMap_cons, List.getElem?_append_right (by simp [cells2]; omega)]
    have e : (j + 1) * 2 + c - (cells2 f).length = j * 2 + c := by simp [cells2]; omega
    rw [e, ih]; rfl
theorem allO_len {B : Nat} {w : World} : ∀ {ds : List Pl} {fs : List FI}, AllO B w ds fs → fs.length = ds.length
  | [], [], _ => rfl
  | d :: ds, f :: fs, h => by simp only [List.length_cons]; rw [allO_len h.2]
theorem allO_get {B : Nat} {w : World} : ∀ {ds : List Pl} {fs : List FI}, AllO B w ds fs → ∀ j, (hj : j < ds.length) → (hf : j < fs.length) → PlO B w ds[j] fs[j]
  | d :: ds, f :: fs, h, 0, _, _ => h.1
  | d :: ds, f :: fs, h, j + 1, hj, hf => allO_get h.2 j (by simpa using hj) (by simpa using hf)
theorem allO_mem {B : Nat} {w : World} : ∀ {ds : List Pl} {fs : List FI}, AllO B w ds fs → ∀ f ∈ fs, ∃ d, PlO B w d f
  | _, [], h, x, hx => by simp at hx
  | [], _ :: _, h, x, hx => h.elim
  | d :: ds, f :: fs, h, x, hx => by
    rcases List.mem_cons.1 hx with e | hx
    · subst e; exact ⟨d, h.1⟩
    · exact allO_mem h.2 x hx
theorem allO_app {B : Nat} {w : World} : ∀ {ds : List Pl} {fs : List FI} {ds' : List Pl} {fs' : List FI}, AllO B w ds fs → AllO B w ds' fs' → AllO B w (ds ++ ds') (fs ++ fs')
  | [], [], _, _, _, h' => h'
  | d :: ds, f :: fs, _, _, h, h' => ⟨h.1, allO_app h.2 h'⟩
theorem allO_imp {B B' : Nat} {w w' : World} (H : ∀ d f, PlO B w d f → PlO B' w' d f) : ∀ {ds : List Pl} {fs : List FI}, AllO B w ds fs → AllO B' w' ds fs
  | [], [], _ => trivial
  | d :: ds, f :: fs, h => ⟨H d f h.1, allO_imp H h.2⟩
/-- What an owned value's block is. -/
theorem owns_typed {w : World} {B : Nat} {e : TypeId} {z : Nat} {v : Value} {n : Nat} {xs : List Value} (h : w.ownsRow B e z v n xs) {g : Nat} (hg : v.ownBlock = some g) : B ≤ g ∧ ∃ cur, w.heap[g]? = some (.cells cur e (0, 0)) := by
  rcases h.2 with ⟨rfl, -⟩ | ⟨g', cap, cur, rfl, hb, hc, -⟩
  · simp [Value.ownBlock] at hg
  · simp [Value.ownBlock] at hg
    subst hg
    exact ⟨hb, cur, hc⟩
theorem owns_mono {w : World} {B B' : Nat} {e : TypeId} {z : Nat} {v : Value} {n : Nat} {xs : List Value} (h : w.ownsRow B e z v n xs) (hB : B' ≤ B) : w.ownsRow B' e z v n xs := by
  refine ⟨h.1, ?_⟩
  rcases h.2 with h2 | ⟨g, cap, cur, h3, hb, h4⟩
  · exact Or.inl h2
  · exact Or.inr ⟨g, cap, cur, h3, Nat.le_trans hB hb, h4⟩
theorem tIK : tI ≠ tK := by decide
theorem PlO.kept {B : Nat} {w w' : World} {d : Pl} {f : FI} (h : PlO B w d f) {row : Option Nat} (hg : w.grownBy w' row) (hr : ∀ g, row = some g → ∃ cur, w.heap[g]? = some (.cells cur tI (0, 0))) : PlO B w' d f := by
  obtain ⟨h1, h2, h3, h4, h5⟩ := h
  refine ⟨h1, h2, h3, h4, h5.kept hg ?_⟩
  cases hb : (MkV f).ownBlock with
  | none => exact Or.inl rfl
  | some g =>
    refine Or.inr fun e => ?_
    obtain ⟨-, cur, hc⟩ := owns_typed h5 hb
    obtain ⟨cur', hc'⟩ := hr g e.symm
    rw [hc] at hc'
    have := Option.some.inj hc'
    injection this with _ h _
    exact tIK h.symm
theorem PlO.below {B : Nat} {w w' : World} {d : Pl} {f : FI} (h : PlO B w d f) (hb : Below w.heap.size w w') : PlO B w' d f :=
  h.kept (row := none) (below_grownM hb) (fun g e => by cases e)
theorem PlO.mono {B B' : Nat} {w : World} {d : Pl} {f : FI} (h : PlO B w d f) (hB : B' ≤ B) : PlO B' w d f := ⟨h.1, h.2.1, h.2.2.1, h.2.2.2.1, owns_mono h.2.2.2.2 hB⟩
theorem CodeF.below {B : Nat} {w w' : World} {v : Value} {ds : List Pl} {fs : List FI} (h : CodeF B w v ds fs) (hb : Below w.heap.size w w') : CodeF B w' v ds fs :=
  ⟨h.1.kept (row := none) (below_grownM hb) (Classical.em _), allO_imp (fun _ _ k => k.below hb) h.2.1, h.2.2⟩
theorem CodeO.below {B : Nat} {w w' : World} {v : Value} {ds : List Pl} (h : CodeO B w v ds) (hb : Below w.heap.size w w') : CodeO B w' v ds := by
  obtain ⟨fs, h⟩ := h; exact ⟨fs, h.below hb⟩
theorem CodeO.mono {B B' : Nat} {w : World} {v : Value} {ds : List Pl} (h : CodeO B w v ds) (hB : B' ≤ B) : CodeO B' w v ds := by
  obtain ⟨fs, h1, h2, h3⟩ := h; exact ⟨fs, owns_mono h1 hB, allO_imp (fun _ _ k => k.mono hB) h2, h3⟩
theorem CodeO.nil (B : Nat) (w : World) : CodeO B w (.slice none 0 0) [] := ⟨[], World.ownsRow_nil _ _ _ _, trivial, List.Pairwise.nil⟩
theorem CodeO.made {B : Nat} {w : World} (hB : B ≤ w.heap.size) : CodeO B (w.alloc (.cells #[] tI)) (.slice (some ⟨w.heap.size, 0, none⟩) 0 0) [] :=
  ⟨[], World.ownsRow_made w #[] 0 hB (by unfold maxLen; omega) rfl, trivial, List.Pairwise.nil⟩
/-- Blocks of marks lie below. -/
theorem codeF_lt {B : Nat} {w : World} {v : Value} {ds : List Pl} {fs : List FI} (h : CodeF B w v ds fs) : ∀ f ∈ fs, ∀ g, (MkV f).ownBlock = some g → B ≤ g ∧ g < w.heap.size := by
  intro f hf g hg
  obtain ⟨d, hd⟩ := allO_mem h.2.1 f hf
  exact hd.2.2.2.2.lt g hg
/-- One program behind another. -/
theorem CodeF.app {B C : Nat} {w w' : World} {v : Value} {ds ds' : List Pl} {fs fs' : List FI} {g cap : Nat} (h : CodeF B w v ds fs) (hlow : ∀ f ∈ fs, ∀ b, (MkV f).ownBlock = some b → b < C) (hBC : B ≤ C)
    (h' : AllO C w ds' fs') (ha : ApartF fs') (hown : w'.ownsRow B tI 4 (.slice (some ⟨g, 0, none⟩) (ds.length + ds'.length) cap) (ds.length + ds'.length) (rowsI fs ++ rowsI fs')) (hgr : w.grownBy w' v.ownBlock) :
    CodeF B w' (.slice (some ⟨g, 0, none⟩) (ds.length + ds'.length) cap) (ds ++ ds') (fs ++ fs') := by
  have hrow : ∀ b, v.ownBlock = some b → ∃ cur, w.heap[b]? = some (.cells cur tI (0, 0)) := fun b e => (owns_typed h.1 e).2
  refine ⟨?_, ?_, ?_⟩
  · rw [List.length_append]; unfold rowsI at hown ⊢; rw [List.flatMap_append]; exact hown
  · exact allO_app (allO_imp (fun _ _ k => k.kept hgr hrow) h.2.1) (allO_imp (fun _ _ k => (k.kept hgr hrow).mono hBC) h')
  · refine List.pairwise_append.2 ⟨h.2.2, ha, fun f hf f' hf' b hb hb' => ?_⟩
    have h1 := hlow f hf b hb
    obtain ⟨d, hd⟩ := allO_mem h' f' hf'
    have h2 := (hd.2.2.2.2.lt b hb').1
    omega
theorem rowsI_one {fs : List FI} : ∀ u ∈ rowsI fs, u.oneCell' = true := by
  intro u hu
  unfold rowsI at hu
  obtain ⟨f, -, hf⟩ := List.mem_flatMap.1 hu
  unfold cells4 at hf
  simp at hf
  rcases hf with rfl | rfl | rfl | rfl <;> rfl
theorem rowsM_one {ms : List (Int × Int)} : ∀ u ∈ rowsM ms, u.oneCell' = true := by
  intro u hu
  unfold rowsM at hu
  obtain ⟨f, -, hf⟩ := List.mem_flatMap.1 hu
  unfold cells2 at hf
  simp at hf
  rcases hf with rfl | rfl <;> rfl
theorem addA (b o j : Nat) : (⟨b, o, none⟩ : Addr).add j = ⟨b, o + j, none⟩ := by unfold Addr.add; split <;> simp_all
/-- The cells of an owned row, to be appended. -/
theorem owns_news {w : World} {B g cap z n : Nat} {e : TypeId} {xs : List Value} (h : w.ownsRow B e z (.slice (some ⟨g, 0, none⟩) n cap) n xs) : ∀ j u, xs[j]? = some u → w.cell? ((⟨g, 0, none⟩ : Addr).add j) = some u := by
  intro j u hj
  rw [addA, Nat.zero_add, h.cellAt j (by rw [← h.1]; exact (List.getElem?_eq_some_iff.1 hj).1)]
  exact hj
/-- As it reads. -/
theorem marksN_owns {w : World} {B : Nat} {f : FI} {ms : List (Int × Int)} {N : Nat → Prop} (h : w.ownsRow B tK 2 (MkV f) f.ml (rowsM ms)) (hl : f.ml = ms.length) (hN : ∀ b, B ≤ b → N b) : MarksN N w f.ma f.ml ms := by
  refine ⟨hl, ?_⟩
  rcases Nat.eq_zero_or_pos f.ml with h0 | h0
  · exact Or.inl h0
  right
  obtain ⟨g, cap, e, hb, hlt⟩ := h.form h0
  unfold MkV at e h
  injection e with e1 e2 e3
  rw [e1] at h
  refine ⟨g, 0, e1, hN g hb, hlt, fun i hi => ?_⟩
  have hi' : i < ms.length := by omega
  have k0 := h.cellAt (i * 2) (by omega)
  have k1 := h.cellAt (i * 2 + 1) (by omega)
  have r0 := rowsM_get ms i 0 hi' (by omega)
  have r1 := rowsM_get ms i 1 hi' (by omega)
  have eg : ms.getD i (0, 0) = ms[i] := by simp [hi']
  rw [Nat.add_zero] at r0
  rw [eg, Nat.zero_add, k0, r0, k1, r1]
  exact ⟨rfl, rfl⟩
theorem codeO_pls {B : Nat} {w : World} {a : Option Addr} {n c : Nat} {ds : List Pl} (h : CodeO B w (.slice a n c) ds) (hn : n = ds.length) : PlsN All w a n ds := by
  obtain ⟨fs, h1, h2, h3⟩ := h
  refine ⟨hn, ?_⟩
  rcases Nat.eq_zero_or_pos n with h0 | h0
  · exact Or.inl h0
  right
  rw [← hn] at h1
  obtain ⟨g, cap, e, hb, hlt⟩ := h1.form h0
  injection e with e1 e2 e3
  subst e1
  refine ⟨g, 0, rfl, trivial, hlt, fun j hj => ?_⟩
  have hjf : j < fs.length := by rw [allO_len h2]; exact hj
  have key := fun c (hc : c < 4) => (h1.cellAt (j * 4 + c) (by omega)).trans (rowsI_get fs j c hjf hc)
  have hp := allO_get h2 j hj hjf
  refine ⟨fs[j], ⟨by rw [Nat.zero_add]; exact key 0 (by omega), by rw [Nat.zero_add]; exact key 1 (by omega), by rw [Nat.zero_add]; exact key 2 (by omega), by rw [Nat.zero_add]; exact key 3 (by omega)⟩, hp.1, hp.2.1, hp.2.2.1, marksN_owns hp.2.2.2.2 hp.2.2.2.1 (fun _ _ => trivial), ?_⟩
  rcases hp.2.2.2.2.2 with ⟨e, e0⟩ | ⟨g', cap', cur, e, -, -, hle, -⟩
  · unfold MkV at e; injection e with _ e2 e3; omega
  · unfold MkV at e; injection e with _ e2 e3; omega

mutual
/-- The program of a rule. -/
def codeT : Tr → List Pl
  | .node o n s ks ms => if o = 9 then ((codesL ks).take 2).flatten ++ (⟨9, ((codesL ks).getD 2 []).length + 1, ⟨#[]⟩, []⟩ :: ((codesL ks).getD 2 [] ++ (⟨11, ((codesL ks).getD 3 []).length, ⟨#[]⟩, []⟩ :: (codesL ks).getD 3 []))) else (codesL ks).flatten ++ [⟨o, n, s, ms⟩]
def codesL : List Tr → List (List Pl)
  | [] => []
  | t :: r => codeT t :: codesL r
end
theorem codesL_eq : ∀ ks : List Tr, codesL ks = ks.map codeT
  | [] => by rw [codesL]; rfl
  | t :: r => by rw [codesL, codesL_eq r]; rfl
theorem codeT_if {n : Int} {s : ByteArray} {ks : List Tr} {ms : List (Int × Int)} (h : ks.length = 4) : codeT (.node 9 n s ks ms) = ((ks.take 2).map codeT).flatten ++ (⟨9, (codeT (ks[2]'(by omega))).length + 1, ⟨#[]⟩, []⟩ :: (codeT (ks[2]'(by omega)) ++ (⟨11, (codeT (ks[3]'(by omega))).length, ⟨#[]⟩, []⟩ :: codeT (ks[3]'(by omega))))) := by
  rw [codeT, if_pos rfl, codesL_eq, ← List.map_take]
  have e2 : (ks.map codeT).getD 2 [] = codeT (ks[2]'(by omega)) := by simp [h]
  have e3 : (ks.map codeT).getD 3 [] = codeT (ks[3]'(by omega)) := by simp [h]
  rw [e2, e3]
theorem codeT_op {o n : Int} {s : ByteArray} {ks : List Tr} {ms : List (Int × Int)} (h : o ≠ 9) : codeT (.node o n s ks ms) = (ks.map codeT).flatten ++ [⟨o, n, s, ms⟩] := by
  rw [codeT, if_neg h, codesL_eq]
theorem codeT_pos : ∀ t : Tr, 1 ≤ (codeT t).length
  | .node o n s ks ms => by
    rw [codeT]
    split
    · simp only [List.length_append, List.length_cons]; omega
    · simp only [List.length_append, List.length_cons]; omega
theorem flat_le (f : Tr → List Pl) : ∀ (l : List Tr) (c : Nat), (∀ t ∈ l, (f t).length ≤ 2 * wT t) → ((l.map f).flatten).length ≤ 2 * wL l
  | [], c, h => by simp
  | t :: r, c, h => by
    have a := h t (by simp)
    have b := flat_le f r c (fun x hx => h x (by simp [hx]))
    simp only [List.map_cons, List.flatten_cons, List.length_append, wL]
    omega
theorem wL_split (ks : List Tr) (h : ks.length = 4) : wL (ks.take 2) + wT (ks[2]'(by omega)) + wT (ks[3]'(by omega)) = wL ks := by
  match ks, h with
  | [a, b, c, d], _ => simp [wL]; omega
theorem codeT_len {t : Tr} (h : OkP t) : (codeT t).length ≤ 2 * wT t := by
  have key : ∀ (k : Nat) (t : Tr), wT t ≤ k → OkP t → (codeT t).length ≤ 2 * wT t := by
    intro k
    induction k with
    | zero => intro t hw _; cases t; rw [wT] at hw; omega
    | succ k ih =>
      rintro ⟨o, n, s, ks, ms⟩ hw hok
      obtain ⟨hp, hoks⟩ := okP_parts hok
      rw [wT] at hw
      have hm : ∀ t ∈ ks, (codeT t).length ≤ 2 * wT t := fun t ht => ih t (by have := wL_mem ht; omega) (hoks t ht)
      by_cases h9 : o = 9
      · subst h9
        have h4 : ks.length = 4 := by have := hp.1; unfold kidsN at this; simp at this; omega
        rw [codeT_if h4, wT]
        have a := flat_le codeT (ks.take 2) 0 (fun t ht => hm t (List.mem_of_mem_take ht))
        have b := hm (ks[2]'(by omega)) (List.getElem_mem _)
        have c := hm (ks[3]'(by omega)) (List.getElem_mem _)
        have d := wL_split ks h4
        simp only [List.length_append, List.length_cons]
        omega
      · rw [codeT_op h9, wT]
        have a := flat_le codeT ks 0 hm
        simp only [List.length_append, List.length_cons, List.length_nil]
        omega
  exact key _ t (Nat.le_refl _) h
theorem codes_snoc {ks : List Tr} {k : Nat} (h : k < ks.length) : ((ks.take (k + 1)).map codeT).flatten = ((ks.take k).map codeT).flatten ++ codeT ks[k] := by
  rw [List.take_succ_eq_append_getElem h, List.map_append, List.flatten_append]
  simp
end Go.Proofs.YtjhgmmcglonokaaGreatDoor

namespace Go.Proofs.YtjhgmmcglonokaaGreatDoor
open Go.RowKit
set_option linter.unusedVariables false
set_option linter.unusedSimpArgs false

theorem infoIntV : (Tryz.prog.info? 3).map (fun i => (i.zero, i.size, i.bytes)) = some (some (.int .i64 0), 1, 8) := by kernel_rfl
theorem PlsN.lt {w : World} {a : Option Addr} {n : Nat} {ds : List Pl} (h : PlsN All w a n ds) : PlsN (fun b => b < w.heap.size) w a n ds := by
  obtain ⟨h1, h2⟩ := h
  refine ⟨h1, ?_⟩
  rcases h2 with h | ⟨b, off, k1, k2, k3, k4⟩
  · exact Or.inl h
  · refine Or.inr ⟨b, off, k1, k3, k3, fun j hj => ?_⟩
    obtain ⟨f, c, t⟩ := k4 j hj
    refine ⟨f, c, t.1, t.2.1, t.2.2.1, ?_, t.2.2.2.2⟩
    obtain ⟨m1, m2⟩ := t.2.2.2.1
    refine ⟨m1, ?_⟩
    rcases m2 with m | ⟨b', off', l1, l2, l3, l4⟩
    · exact Or.inl m
    · exact Or.inr ⟨b', off', l1, l3, l3, l4⟩
theorem same_lt {B : Nat} {w w' : World} (h : Below B w w') (hB : B ≤ w.heap.size) : Same (fun b => b < B) w w' := ⟨h.size, fun b hb _ => h.block b hb⟩
def HeightsP (ds : List Pl) (w : World) (e : Ending) (w' : World) : Prop := ∃ (b : Bool) (v : Value), e = .returned (.tuple #[v, .bool b]) ∧ Hid (b = (heightsV ds).isSome) ∧ Hid (∀ hs, heightsV ds = some hs → ∃ g c, w.heap.size ≤ g ∧ v = .slice (some ⟨g, 0, none⟩) (ds.length + 1) c ∧ HighR w' w.heap.size g (ds.length + 1) c hs) ∧ Below w.heap.size w w'
theorem HeightsP.fail {ds : List Pl} {w w' : World} {v : Value} (hn : heightsV ds = none) (hB : Below w.heap.size w w') : HeightsP ds w (.returned (.tuple #[v, .bool false])) w' :=
  ⟨false, v, rfl, Lib.hid (by rw [hn]; rfl), Lib.hid (fun hs h => by rw [hn] at h; cases h), hB⟩
set_option maxRecDepth 100000 in
set_option maxHeartbeats 32000000 in
theorem specHeights (a0 : Option Addr) (n cap : Nat) (ds : List Pl) (w : World) (h : PlsN All w a0 n ds) (hsm : ∀ d ∈ ds, SmallP d) (h0 : 1 ≤ n) (h80 : n ≤ 80) :
    Calls Tryz.prog 51 #[.slice a0 n cap] w (HeightsP ds w) := by
  obtain ⟨it0, hi, hz0, hz1, hz2⟩ := info_parts infoIntV
  have H := Lib.hid h.lt
  have HSM := Lib.hid hsm
  have HN : Hid (n = ds.length) := h.1
  have hownM : (w.alloc (.cells #[] 3)).ownsRow w.heap.size 3 1 (.slice (some ⟨w.heap.size, 0, none⟩) 0 0) 0 [] := World.ownsRow_made w #[] 0 (Nat.le_refl _) (by unfold maxLen; omega) rfl
  have hB1 : Below w.heap.size w (w.alloc (.cells #[] 3)) := (Below.refl _ _).alloc (Nat.le_refl _) _
  clear h hsm
  go_enter Tryz.func51, Tryz.ntmps51
  go_wp2_with fail
  go_loopw [4, 5] (fun vl vi wr => ∃ (k c : Nat) (a : Option Addr), k ≤ n + 1 ∧ vi = .int .i64 k ∧ vl = .slice a k c ∧ wr.ownsRow w.heap.size 3 1 (.slice a k c) k ((List.replicate k (-1 : Int)).map (Value.int .i64)) ∧ Below w.heap.size w wr) (fun _ vi _ => n + 1 - (intOf vi).toNat)
  case atStart => exact ⟨0, 0, _, Nat.zero_le _, rfl, rfl, hownM, hB1⟩
  case round =>
    clear hownM hB1
    obtain ⟨k, c, a, hk, rfl, rfl, hown, hb⟩ := hrel
    rcases Nat.lt_or_ge k (n + 1) with hlt | hge
    · have k1 : (k : Int) ≤ n := by omega
      have k0 : (0 : Int) ≤ k := by omega
      have hzr := hb.size
      go_wp2_with (at_builtin; refine wpList_append_lies ?pw ?p1 ?ps ?px 71 ?p2 w.heap.size 3 it0 (.int .i64 0) 1 8 ?p3 ?p4 ?p5 ?p6 ?p7 ?p8 ?p9 (.slice a k c) k ((List.replicate k (-1 : Int)).map (Value.int .i64)) ?p10 ?ph1 ⟨wr.heap.size, 0, none⟩ 1 1 [.int .i64 (-1)] ?p11 ?p12 ?ph2 ?ph3 ?pc1 ?pc2 ?pc3 ?pc4 (wr.heap.size + 1) ?pc5 ?_; (case p1 => rfl); (case p2 => rfl); (case p10 => rfl); (case p11 => rfl); (case ph1 => exact hown.alloc _); (case p3 => exact Tryz.underlying71); (case p4 => exact hi); (case p5 => exact hz0); (case p6 => exact hz1); (case p7 => exact hz2); (case p8 => rfl); (case p9 => decide); (case p12 => rfl); (case ph2 => exact World.news_of_block (heap_alloc_new wr _)); (case ph3 => intro u hu; simp at hu; subst hu; rfl); (case pc1 => decide); (case pc2 => unfold maxLen; omega); (case pc3 => omega); (case pc4 => simp only [World.size_alloc]; omega); (case pc5 => simp only [World.size_alloc]); intro g2 cp2 wz hownZ hgrowZ hatZ hltZ)
      have hbx : Below wr.heap.size wr (wr.alloc (.cells #[.int .i64 (-1)] 3)) := (Below.refl _ _).alloc (Nat.le_refl _) _
      have hbz : Below w.heap.size w wz := (hb.trans (hbx.mono hzr)).grown hgrowZ (by have := hbx.size; omega) (fun i e => (hown.lt i e).1)
      have hownV : wz.ownsRow w.heap.size 3 1 (.slice (some ⟨g2, 0, none⟩) (k + 1) cp2) (k + 1) ((List.replicate (k + 1) (-1 : Int)).map (Value.int .i64)) := by rw [List.replicate_succ', List.map_append]; exact hownZ
      go_wp2_with fail
      go_roundw
      case rel => exact ⟨k + 1, cp2, some ⟨g2, 0, none⟩, by omega, by go_num, rfl, hownV, hbz⟩
      case measure => simp [intOf]; omega
    · obtain rfl : k = n + 1 := by omega
      obtain ⟨g, rfl⟩ : ∃ g, a = some ⟨g, 0, none⟩ := by
        rcases hown.2 with ⟨h1, h2⟩ | ⟨g, cp, cur, h1, -⟩
        · omega
        · simp at h1; exact ⟨g, h1.1⟩
      have hg0 : w.heap.size ≤ g := (hown.lt g rfl).1
      have hR0 : HighR wr w.heap.size g (n + 1) c (List.replicate (n + 1) (-1)) := ⟨by simp, hown⟩
      have c0 := hR0.at (i := 0) (by omega)
      have fz := hR0.2.frozenAt 0
      have hR1 := Lib.hid (hR0.set 0 0)
      have hb1 : Hid (Below w.heap.size w (wr.setCell ⟨g, 0, none⟩ (.int .i64 0))) := hb.setCell hg0 _
      have HF : Hid ((List.replicate (n + 1) (-1 : Int)).set 0 0 = firstV ds.length) := by show _ = _; rw [← HN.out]; rfl
      rw [HF.out] at hR1
      have n1 : ¬ ((n : Int) + 1 ≤ n) := by omega
      have z1 : decide ((n : Int) + 1 ≤ n) = false := decide_eq_false n1
      clear hown hR0 hb n1
      go_wp2_with fail
      clear c0 fz
      generalize hWr : wr.setCell ⟨g, 0, none⟩ (.int .i64 0) = W0 at *
      clear hWr
      rw [← HN.out] at hR1
      simp only [show (((n + 1 : Nat)) : Int) = (n : Int) + 1 from by omega]
      go_loopw [6] (fun vi wr => ∃ (k : Nat) (hs : List Int), k ≤ n ∧ vi = .int .i64 k ∧ HighR wr w.heap.size g (n + 1) c hs ∧ Hid (runV n k (ds.drop k) hs = runV n 0 ds (firstV n)) ∧ Hid (InV hs) ∧ Below w.heap.size w wr) (fun vi _ => n - (intOf vi).toNat)
      case atStart => exact ⟨0, firstV n, Nat.zero_le _, rfl, hR1.out, by show _ = _; rw [List.drop_zero], inV_first n, hb1.out⟩
      case round =>
        obtain ⟨k, hs, hk, rfl, hR, hrun, hin, hb⟩ := hrel
        have HR := Lib.hid hR
        have HB := Lib.hid hb
        have hszr := hb.size
        clear hR hb
        rcases Nat.lt_or_ge k n with hlt | hge
        · have hkl : k < ds.length := by have := HN.out; omega
          have k1 : (k : Int) < n := by omega
          have k0 : (0 : Int) ≤ k := by omega
          have k2 : (k : Int) < (n : Int) + 1 := by omega
          have em1 : IntKind.i64.wrap ((k : Int) + 1) = (k : Int) + 1 := IntWalk.i64_in _ (by omega)
          have hsmk := HSM.out ds[k] (List.getElem_mem _)
          have HRD := Lib.hid (runV_drop (q := n) hkl hs)
          obtain ⟨b, off, rfl, hbn, hbl, hrow⟩ := H.out.cells (by omega)
          obtain ⟨f, hcf, ht⟩ := hrow k hkl
          obtain ⟨e1, e2, e3, hm, hc2⟩ := ht
          generalize hd : ds[k] = d at *
          obtain ⟨o, nn, s, ms⟩ := d
          obtain ⟨fo, fn, fs, ma, ml, mc⟩ := f
          dsimp only at e1 e2 e3 hm hc2
          have q1 := e1.symm
          have q2 := e2.symm
          have q3 := e3.symm
          clear e1 e2 e3
          subst q1 q2 q3
          obtain rfl := hm.1
          have HC : Hid (∀ W, Below w.heap.size w W → CellsI W b (off + k * 4) ⟨o, nn, s, ma, ms.length, mc⟩) := fun W hW => hcf.kept (hW.block b hbn)
          have HM : Hid (∀ W, Below w.heap.size w W → MarksN All W ma ms.length ms) := fun W hW => (hm.kept (same_lt hW (Nat.le_refl _))).mono (fun _ _ => trivial)
          have hs1 : s.size ≤ maxLen := by have hx : s.size ≤ 1048576 := hsmk.1; unfold maxLen; omega
          have hs2 : ms.length ≤ 1048576 := hsmk.2
          have HS1 := Lib.hid hs1
          have HNO : Hid (stepV n k ⟨o, nn, s, ms⟩ hs = none → heightsV ds = none) := fun hst => by
            unfold heightsV
            rw [← HN.out, ← hrun.out, HRD.out, hst]; rfl
          have HGO : Hid (∀ hs', stepV n k ⟨o, nn, s, ms⟩ hs = some hs' → runV n (k + 1) (ds.drop (k + 1)) hs' = runV n 0 ds (firstV n)) := fun hs' hst => by
            rw [← hrun.out, HRD.out, hst]; rfl
          have hvin := inV_getD hin.out k
          have HTB := Lib.hid (takes_bd o)
          have hT := Lib.hid (specTakes o)
          generalize htk : takesV o = tk at *
          have HTK := Lib.hid htk
          obtain ⟨t1, t2⟩ := tk
          have htb := HTB.out
          dsimp only at htb hT
          clear hrow hcf hm hc2 hsmk htk hd hs1
          obtain ⟨y0, y1, y2, y3⟩ := HC.out wr HB.out
          dsimp only at y0 y1 y2 y3
          go_wp2_with fail
          refine (hT.out wr).mono ?_
          rintro e wq ⟨rfl, hq⟩
          have hq' := hq.symm
          subst hq'
          clear hq
          rcases Int.lt_or_le t1 0 with c1 | c1
          · have z2 : decide (t1 < 0) = true := decide_eq_true c1
            have hst : stepV n k ⟨o, nn, s, ms⟩ hs = none := by unfold stepV; rw [if_pos (Or.inl (by show (takesV o).1 < 0; rw [HTK.out]; exact c1))]
            have HST := Lib.hid hst
            clear hst
            go_wp2
            go_ret2
            exact HeightsP.fail (HNO.out HST.out) HB.out
          have z2 : decide (t1 < 0) = false := decide_eq_false (by omega)
          have hP := Lib.hid (specVPlain o nn s ma ms.length mc ms k n wr HS1.out (HM.out wr HB.out) hs2 (by omega) (by omega) (by omega))
          go_wp2_with fail
          refine hP.out.mono ?_
          rintro e w1 ⟨bb, rfl, hbb, d1⟩
          have HB1 : Hid (Below w.heap.size w w1) := HB.out.trans (d1.mono hszr)
          have HR1 : Hid (HighR w1 w.heap.size g (n + 1) c hs) := ⟨HR.out.1, HR.out.2.kept (row := none) (below_grownM d1) (Or.inr (by simp [Value.ownBlock]))⟩
          clear y0 y1 y2 y3 d1 hP
          cases bb with
          | false =>
            have HST : Hid (stepV n k ⟨o, nn, s, ms⟩ hs = none) := by
              show _ = _
              unfold stepV
              rw [if_pos (Or.inr (fun hh => by have := hbb.out.2 hh; cases this))]
            go_wp2
            go_ret2
            exact HeightsP.fail (HNO.out HST.out) HB1.out
          | true =>
            have hHV := hbb.out.1 (by first | rfl | trivial)
            have HV := Lib.hid hHV
            have c0 := HR1.out.at (i := k) (by omega)
            have HS0 : Hid (stepV n k ⟨o, nn, s, ms⟩ hs = if hs.getD k 0 < 0 then some hs else if hs.getD k 0 < t1 ∨ 12 < hs.getD k 0 - t1 + t2 then none else if (marksV k ⟨o, nn, s, ms⟩ (hs.getD k 0 - t1 + t2) hs).2 then some (marksV k ⟨o, nn, s, ms⟩ (hs.getD k 0 - t1 + t2) hs).1 else none) := by
              show _ = _
              unfold stepV leftV
              dsimp only
              rw [HTK.out]
              dsimp only
              rw [if_neg (fun hh => by rcases hh with hh | hh; omega; exact hh HV.out)]
            clear hHV
            generalize hv : hs.getD k 0 = v at *
            rcases Int.lt_or_le v 0 with c2 | c2
            · have z3 : decide (v < 0) = true := decide_eq_true c2
              have HST : Hid (stepV n k ⟨o, nn, s, ms⟩ hs = some hs) := by show _ = _; rw [HS0.out, if_pos c2]
              go_wp2_with fail
              go_roundw
              case rel => exact ⟨k + 1, hs, by omega, by go_num, HR1.out, HGO.out _ HST.out, hin, HB1.out⟩
              case measure => simp [intOf]; omega
            have z3 : decide (v < 0) = false := decide_eq_false (by omega)
            have en1 : IntKind.i64.wrap (v - t1) = v - t1 := IntWalk.i64_in _ (by omega)
            have en2 : IntKind.i64.wrap (v - t1 + t2) = v - t1 + t2 := IntWalk.i64_in _ (by omega)
            obtain ⟨y0, y1, y2, y3⟩ := HC.out w1 HB1.out
            dsimp only at y0 y1 y2 y3
            by_cases c3 : v < t1 ∨ 12 < v - t1 + t2
            · have HST : Hid (stepV n k ⟨o, nn, s, ms⟩ hs = none) := by show _ = _; rw [HS0.out, if_neg (by omega), if_pos c3]
              by_cases c4 : v < t1
              · have z4 : decide (v < t1) = true := decide_eq_true c4
                go_wp2
                go_ret2
                exact HeightsP.fail (HNO.out HST.out) HB1.out
              · have z4 : decide (v < t1) = false := decide_eq_false c4
                have z5 : decide (12 < v - t1 + t2) = true := decide_eq_true (by omega)
                go_wp2
                go_ret2
                exact HeightsP.fail (HNO.out HST.out) HB1.out
            have z4 : decide (v < t1) = false := decide_eq_false (fun x => c3 (Or.inl x))
            have z5 : decide (12 < v - t1 + t2) = false := decide_eq_false (fun x => c3 (Or.inr x))
            have HS1' : Hid (stepV n k ⟨o, nn, s, ms⟩ hs = if (marksV k ⟨o, nn, s, ms⟩ (v - t1 + t2) hs).2 then some (marksV k ⟨o, nn, s, ms⟩ (v - t1 + t2) hs).1 else none) := by show _ = _; rw [HS0.out, if_neg (by omega), if_neg c3]
            have hn0 : -1 ≤ v - t1 + t2 ∧ v - t1 + t2 ≤ 12 := by omega
            have HIN2 := Lib.hid (inV_marks hin.out k ⟨o, nn, s, ms⟩ hn0.1 hn0.2)
            clear c3
            by_cases h11 : o = 11
            · subst h11
              have hh := HV.out
              unfold HoldsV at hh
              rw [if_pos (by decide)] at hh
              have hh1 : 0 ≤ nn ∧ nn ≤ (n : Int) - k - 1 := hh.1
              have em2 : IntKind.i64.wrap ((k : Int) + 1 + nn) = (k : Int) + 1 + nn := IntWalk.i64_in _ (by omega)
              clear hh
              have HMV : Hid (marksV k ⟨11, nn, s, ms⟩ (v - t1 + t2) hs = markV hs (k + 1 + nn.toNat) (v - t1 + t2)) := by show _ = _; unfold marksV; rw [if_neg (show ¬ (11 : Int) = 9 by decide), if_pos rfl]
              have hM := specMark hs (k + 1 + nn.toNat) (v - t1 + t2) w.heap.size g (n + 1) c w1 HR1.out (by omega)
              rw [show (((k + 1 + nn.toNat : Nat)) : Int) = (k : Int) + 1 + nn from by omega] at hM
              rw [HMV.out] at HS1' HIN2
              unfold MarkP at hM
              have HMK := Lib.hid hM
              clear hM
              generalize markV hs (k + 1 + nn.toNat) (v - t1 + t2) = mk at *
              obtain ⟨hs9, mb⟩ := mk
              dsimp only at *
              go_wp2_with fail
              refine HMK.out.mono ?_
              rintro e w2 ⟨rfl, hr2, g2⟩
              have HB2 : Hid (Below w.heap.size w w2) := HB1.out.grown g2 HB1.out.size (fun i e => by cases e; exact hg0)
              have HR2 := Lib.hid hr2
              clear y0 y1 y2 y3 hr2 g2
              cases mb with
              | false =>
                have HST : Hid (stepV n k ⟨11, nn, s, ms⟩ hs = none) := HS1'.out
                go_wp2
                go_ret2
                exact HeightsP.fail (HNO.out HST.out) HB2.out
              | true =>
                have HST : Hid (stepV n k ⟨11, nn, s, ms⟩ hs = some hs9) := HS1'.out
                go_wp2_with fail
                go_roundw
                case rel => exact ⟨k + 1, hs9, by omega, by go_num, HR2.out, HGO.out _ HST.out, HIN2, HB2.out⟩
                case measure => simp [intOf]; omega
            by_cases h9 : o = 9
            · subst h9
              clear h11
              have hh := HV.out
              unfold HoldsV at hh
              rw [if_pos (by decide)] at hh
              have hh1 : 0 ≤ nn ∧ nn ≤ (n : Int) - k - 1 := hh.1
              have em2 : IntKind.i64.wrap ((k : Int) + 1 + nn) = (k : Int) + 1 + nn := IntWalk.i64_in _ (by omega)
              clear hh
              have hM1 := specMark hs (k + 1) (v - t1 + t2) w.heap.size g (n + 1) c w1 HR1.out (by omega)
              rw [show (((k + 1 : Nat)) : Int) = (k : Int) + 1 from by omega] at hM1
              have HMV : Hid (marksV k ⟨9, nn, s, ms⟩ (v - t1 + t2) hs = if (markV hs (k + 1) (v - t1 + t2)).2 then markV (markV hs (k + 1) (v - t1 + t2)).1 (k + 1 + nn.toNat) (v - t1 + t2) else markV hs (k + 1) (v - t1 + t2)) := by show _ = _; unfold marksV; rw [if_pos rfl]
              rw [HMV.out] at HS1' HIN2
              unfold MarkP at hM1
              have HMK1 := Lib.hid hM1
              clear hM1
              generalize markV hs (k + 1) (v - t1 + t2) = mk1 at *
              obtain ⟨hs1, mb1⟩ := mk1
              dsimp only at *
              go_wp2_with fail
              refine HMK1.out.mono ?_
              rintro e w3 ⟨rfl, hr3, g3⟩
              have HB3 : Hid (Below w.heap.size w w3) := HB1.out.grown g3 HB1.out.size (fun i e => by cases e; exact hg0)
              have HR3 := Lib.hid hr3
              clear y0 y1 y2 y3 hr3 g3
              obtain ⟨y0, y1, y2, y3⟩ := HC.out w3 HB3.out
              dsimp only at y0 y1 y2 y3
              cases mb1 with
              | false =>
                have HST : Hid (stepV n k ⟨9, nn, s, ms⟩ hs = none) := HS1'.out
                go_wp2
                go_ret2
                exact HeightsP.fail (HNO.out HST.out) HB3.out
              | true =>
                have hM := specMark hs1 (k + 1 + nn.toNat) (v - t1 + t2) w.heap.size g (n + 1) c w3 HR3.out (by omega)
                rw [show (((k + 1 + nn.toNat : Nat)) : Int) = (k : Int) + 1 + nn from by omega] at hM
                unfold MarkP at hM
                have HMK := Lib.hid hM
                have HS1'' : Hid (stepV n k ⟨9, nn, s, ms⟩ hs = if (markV hs1 (k + 1 + nn.toNat) (v - t1 + t2)).2 then some (markV hs1 (k + 1 + nn.toNat) (v - t1 + t2)).1 else none) := HS1'.out
                have HIN3 : Hid (InV (markV hs1 (k + 1 + nn.toNat) (v - t1 + t2)).1) := HIN2.out
                clear hM HS1' HIN2
                generalize markV hs1 (k + 1 + nn.toNat) (v - t1 + t2) = mk at *
                obtain ⟨hs9, mb⟩ := mk
                dsimp only at *
                go_wp2_with fail
                refine HMK.out.mono ?_
                rintro e w4 ⟨rfl, hr2, g2⟩
                have HB2 : Hid (Below w.heap.size w w4) := HB3.out.grown g2 HB3.out.size (fun i e => by cases e; exact hg0)
                have HR2 := Lib.hid hr2
                clear y0 y1 y2 y3 hr2 g2
                cases mb with
                | false =>
                  have HST : Hid (stepV n k ⟨9, nn, s, ms⟩ hs = none) := HS1''.out
                  go_wp2
                  go_ret2
                  exact HeightsP.fail (HNO.out HST.out) HB2.out
                | true =>
                  have HST : Hid (stepV n k ⟨9, nn, s, ms⟩ hs = some hs9) := HS1''.out
                  go_wp2_with fail
                  go_roundw
                  case rel => exact ⟨k + 1, hs9, by omega, by go_num, HR2.out, HGO.out _ HST.out, HIN3, HB2.out⟩
                  case measure => simp [intOf]; omega
            have b11 : (o != 11) = true := by simpa using h11
            have b11' : (o == 11) = false := by simpa using h11
            have b9 : (o == 9) = false := by simpa using h9
            have HMV : Hid (marksV k ⟨o, nn, s, ms⟩ (v - t1 + t2) hs = markV hs (k + 1) (v - t1 + t2)) := by show _ = _; unfold marksV; rw [if_neg h9, if_neg h11]
            have hM := specMark hs (k + 1) (v - t1 + t2) w.heap.size g (n + 1) c w1 HR1.out (by omega)
            rw [show (((k + 1 : Nat)) : Int) = (k : Int) + 1 from by omega] at hM
            rw [HMV.out] at HS1' HIN2
            unfold MarkP at hM
            have HMK := Lib.hid hM
            clear hM h11 h9
            generalize markV hs (k + 1) (v - t1 + t2) = mk at *
            obtain ⟨hs2, mb⟩ := mk
            dsimp only at *
            go_wp2_with fail
            refine HMK.out.mono ?_
            rintro e w2 ⟨rfl, hr2, g2⟩
            have HB2 : Hid (Below w.heap.size w w2) := HB1.out.grown g2 HB1.out.size (fun i e => by cases e; exact hg0)
            have HR2 := Lib.hid hr2
            clear y0 y1 y2 y3 hr2 g2
            obtain ⟨y0, y1, y2, y3⟩ := HC.out w2 HB2.out
            dsimp only at y0 y1 y2 y3
            cases mb with
            | false =>
              have HST : Hid (stepV n k ⟨o, nn, s, ms⟩ hs = none) := HS1'.out
              go_wp2
              go_ret2
              exact HeightsP.fail (HNO.out HST.out) HB2.out
            | true =>
              have HST : Hid (stepV n k ⟨o, nn, s, ms⟩ hs = some hs2) := HS1'.out
              go_wp2_with fail
              go_roundw
              case rel => exact ⟨k + 1, hs2, by omega, by go_num, HR2.out, HGO.out _ HST.out, HIN2, HB2.out⟩
              case measure => simp [intOf]; omega
        · obtain rfl : k = n := by omega
          have c0 := HR.out.at (i := k) (by omega)
          have hrn : runV k k (ds.drop k) hs = some hs := by rw [List.drop_of_length_le (by have := HN.out; omega), runV]
          have HH : Hid (heightsV ds = if hs.getD k 0 = 1 then some hs else none) := by
            show _ = _
            unfold heightsV
            rw [← HN.out, ← hrun.out, hrn]; rfl
          have k1 : (k : Int) < (k : Int) + 1 := by omega
          have k0 : (0 : Int) ≤ k := by omega
          have HRX := Lib.hid (show HighR wr w.heap.size g (ds.length + 1) c hs from by rw [← HN.out]; exact HR.out)
          clear hrn hrun
          generalize hs.getD k 0 = v at *
          cases hv : (v == 1) with
          | true =>
            have HST : Hid (heightsV ds = some hs) := by show _ = _; rw [HH.out, if_pos (by simpa using hv)]
            go_wp2_with fail
            go_region
            all_goals
              go_wp2
              go_ret2
              refine ⟨true, _, rfl, Lib.hid (by rw [HST.out]; rfl), Lib.hid (fun hs' h' => ?_), ⟨HB.out.os, HB.out.tape, HB.out.output, HB.out.size, HB.out.block⟩⟩
              rw [HST.out] at h'
              cases h'
              exact ⟨g, c, hg0, by rw [← HN.out]; rfl, HRX.out⟩
          | false =>
            have HST : Hid (heightsV ds = none) := by show _ = _; rw [HH.out, if_neg (by simpa using hv)]
            go_wp2_with fail
            go_region
            all_goals
              go_wp2
              go_ret2
              exact HeightsP.fail HST.out ⟨HB.out.os, HB.out.tape, HB.out.output, HB.out.size, HB.out.block⟩
end Go.Proofs.YtjhgmmcglonokaaGreatDoor

namespace Go.Proofs.YtjhgmmcglonokaaGreatDoor
open Go.RowKit
set_option linter.unusedVariables false
set_option linter.unusedSimpArgs false

set_option maxHeartbeats 8000000 in
theorem vmTakesI (o : Int) (w : World) (h : 1 ≤ o ∧ o ≤ 11) : Calls Tryz.prog 110 #[.int .i64 o] w fun e w' => e = .returned (.tuple #[.int .i64 (takesV o).1, .int .i64 (takesV o).2]) ∧ Below w.heap.size w w' := by
  by_cases h9 : o = 9
  · subst h9
    clear h
    go_enter Tryz.func110, Tryz.ntmps110
    go_wp2
    go_ret2
    exact ⟨rfl, Below.refl _ _⟩
  by_cases h11 : o = 11
  · subst h11
    clear h h9
    go_enter Tryz.func110, Tryz.ntmps110
    go_wp2
    go_ret2
    exact ⟨rfl, Below.refl _ _⟩
  have b9 : (o == 9) = false := by simpa using h9
  have b11 : (o == 11) = false := by simpa using h11
  have Hop : Hid (1 ≤ o ∧ o ≤ 10) := by refine Lib.hid ?_; omega
  have HT : Hid (takesV o = (kidsN o, 1)) := by
    refine Lib.hid ?_
    have : o = 1 ∨ o = 2 ∨ o = 3 ∨ o = 4 ∨ o = 5 ∨ o = 6 ∨ o = 7 ∨ o = 8 ∨ o = 10 := by omega
    rcases this with rfl | rfl | rfl | rfl | rfl | rfl | rfl | rfl | rfl <;> rfl
  rw [HT.out]
  dsimp only
  have mk := fun W => meth_kids o Hop.out W
  have nk := fun W => nil_kids o Hop.out W
  have fk := fun a W => call_kids o Hop.out a W
  have cK := Lib.hid (fun W => kidsI o Hop.out W)
  clear h h9 h11
  generalize kidsN o = kn at *
  go_enter Tryz.func110, Tryz.ntmps110
  go_wp2_with fail
  refine (opOf o _ Hop.out).mono ?_
  rintro e w2 ⟨rfl, d2⟩
  have HB := Lib.hid d2
  clear d2
  go_wp2_with fail
  refine (cK.out _).mono ?_
  rintro e w3 ⟨rfl, d3⟩
  go_wp2
  go_ret2
  exact ⟨rfl, HB.out.trans (d3.mono HB.out.size)⟩
def NextP (ts : List Nat) (w : World) (e : Ending) (w' : World) : Prop := ∃ gt : Nat, w.heap.size ≤ gt ∧ e = .returned (.slice (some ⟨gt, 0, none⟩) ts.length ts.length) ∧ Hid (∀ j, (hj : j < ts.length) → w'.cell? ⟨gt, j, none⟩ = some (.int .i64 (ts[j] : Int))) ∧ gt < w'.heap.size ∧ Below w.heap.size w w'
set_option maxHeartbeats 8000000 in
theorem vmNextI (o n : Int) (s : ByteArray) (ma : Option Addr) (mc : Nat) (ms : List (Int × Int)) (i : Nat) (w : World) (hi : i ≤ 1000) (hn : o = 9 ∨ o = 11 → 0 ≤ n ∧ n ≤ 1000) :
    Calls Tryz.prog 111 #[.agg #[.int .i64 o, .int .i64 n, .string s, .slice ma ms.length mc], .int .i64 (i : Int)] w (NextP (nextsV i ⟨o, n, s, ms⟩) w) := by
  have w1 : IntKind.i64.wrap ((i : Int) + 1) = (i : Int) + 1 := IntWalk.i64_in _ (by omega)
  have i0 : (0 : Int) ≤ i := by omega
  have hA : Hid (Below w.heap.size w (w.alloc (.cells #[.int .i64 o, .int .i64 n, .string s, .slice ma ms.length mc] 48))) := (Below.refl w.heap.size w).alloc (Nat.le_refl _) _
  by_cases h9 : o = 9
  · have b9 : (o == 9) = true := by simpa using h9
    have hn' := hn (Or.inl h9)
    have HN : Hid (nextsV i ⟨o, n, s, ms⟩ = [i + 1, i + 1 + n.toNat]) := by refine Lib.hid ?_; unfold nextsV; rw [if_pos (show o = 9 from h9)]
    rw [HN.out]
    clear hn h9
    go_enter Tryz.func111, Tryz.ntmps111
    go_wp2
    go_ret
    refine ⟨w.heap.size + 1, by omega, rfl, ?_, by simp only [World.size_alloc]; omega, hA.out.alloc (by simp only [World.size_alloc]; omega) _⟩
    refine Lib.hid ?_
    intro j hj
    have hz : (w.alloc (.cells #[.int .i64 o, .int .i64 n, .string s, .slice ma ms.length mc] 48)).heap.size = w.heap.size + 1 := World.size_alloc _ _
    rw [← hz, Lib.cell_of_heap (heap_alloc_new _ _)]
    have : j = 0 ∨ j = 1 := by simp at hj; omega
    rcases this with rfl | rfl
    · rfl
    · show some (Value.int .i64 ((i : Int) + 1 + n)) = some (Value.int .i64 ((i + 1 + n.toNat : Nat) : Int))
      rw [show (((i + 1 + n.toNat : Nat)) : Int) = (i : Int) + 1 + n from by omega]
  have b9 : (o == 9) = false := by simpa using h9
  by_cases h11 : o = 11
  · have b11 : (o == 11) = true := by simpa using h11
    have hn' := hn (Or.inr h11)
    have HN : Hid (nextsV i ⟨o, n, s, ms⟩ = [i + 1 + n.toNat]) := by refine Lib.hid ?_; unfold nextsV; rw [if_neg (show ¬ o = 9 from h9), if_pos (show o = 11 from h11)]
    rw [HN.out]
    clear hn h9 h11
    go_enter Tryz.func111, Tryz.ntmps111
    go_wp2
    go_ret
    refine ⟨w.heap.size + 1, by omega, rfl, ?_, by simp only [World.size_alloc]; omega, hA.out.alloc (by simp only [World.size_alloc]; omega) _⟩
    refine Lib.hid ?_
    intro j hj
    have hz : (w.alloc (.cells #[.int .i64 o, .int .i64 n, .string s, .slice ma ms.length mc] 48)).heap.size = w.heap.size + 1 := World.size_alloc _ _
    rw [← hz, Lib.cell_of_heap (heap_alloc_new _ _)]
    have : j = 0 := by simp at hj; omega
    subst this
    show some (Value.int .i64 ((i : Int) + 1 + n)) = some (Value.int .i64 ((i + 1 + n.toNat : Nat) : Int))
    rw [show (((i + 1 + n.toNat : Nat)) : Int) = (i : Int) + 1 + n from by omega]
  have b11 : (o == 11) = false := by simpa using h11
  have HN : Hid (nextsV i ⟨o, n, s, ms⟩ = [i + 1]) := by refine Lib.hid ?_; unfold nextsV; rw [if_neg (show ¬ o = 9 from h9), if_neg (show ¬ o = 11 from h11)]
  rw [HN.out]
  clear hn h9 h11
  go_enter Tryz.func111, Tryz.ntmps111
  go_wp2
  go_ret
  refine ⟨w.heap.size + 1, by omega, rfl, ?_, by simp only [World.size_alloc]; omega, hA.out.alloc (by simp only [World.size_alloc]; omega) _⟩
  refine Lib.hid ?_
  intro j hj
  have hz : (w.alloc (.cells #[.int .i64 o, .int .i64 n, .string s, .slice ma ms.length mc] 48)).heap.size = w.heap.size + 1 := World.size_alloc _ _
  rw [← hz, Lib.cell_of_heap (heap_alloc_new _ _)]
  have : j = 0 := by simp at hj; omega
  subst this
  rfl
def WaysP (ds : List Pl) (w : World) (e : Ending) (w' : World) : Prop := ∃ (b : Bool) (x : Int), e = .returned (.tuple #[.int .i64 x, .bool b]) ∧ Hid (b = (heightsV ds).isSome) ∧ Hid (∀ hs, heightsV ds = some hs → x = mxV hs) ∧ Below w.heap.size w w'
theorem WaysP.fail {ds : List Pl} {w w' : World} {x : Int} (hn : heightsV ds = none) (hB : Below w.heap.size w w') : WaysP ds w (.returned (.tuple #[.int .i64 x, .bool false])) w' :=
  ⟨false, x, rfl, Lib.hid (by rw [hn]; rfl), Lib.hid (fun hs h => by rw [hn] at h; cases h), hB⟩
set_option maxRecDepth 100000 in
set_option maxHeartbeats 32000000 in
theorem vmWaysI (a0 : Option Addr) (n cap : Nat) (ds : List Pl) (w : World) (h : PlsN All w a0 n ds) (hsm : ∀ d ∈ ds, SmallP d) (hall : AllV n 0 ds) (h0 : 1 ≤ n) (h80 : n ≤ 80) :
    Calls Tryz.prog 82 #[.slice a0 n cap] w (WaysP ds w) := by
  obtain ⟨it0, hi, hz0, hz1, hz2⟩ := info_parts infoIntV
  have H := Lib.hid h.lt
  have HSM := Lib.hid hsm
  have HALL := Lib.hid hall
  have HN : Hid (n = ds.length) := h.1
  have ew : IntKind.i64.wrap ((n : Int) + 1) = ((n + 1 : Nat) : Int) := by rw [IntWalk.i64_in _ (by omega)]; omega
  clear h hsm hall
  go_enter Tryz.func82, Tryz.ntmps82
  go_wp2_with (at_make; refine wpList_make_full _ rfl _ _ 71 rfl w.heap.size 3 it0 (.int .i64 0) 1 Tryz.underlying71 hi hz0 hz1 .i64 .i64 ((n : Int) + 1) ((n : Int) + 1) (n + 1) rfl rfl rfl rfl ?_ ?_ ?_ ?_; rw [hz2]; omega; unfold maxLen; omega; exact Nat.le_refl _; intro w1 hown1 hgrow1)
  have HB1 : Hid (Below w.heap.size w w1) := (Below.refl _ _).grown hgrow1 (Nat.le_refl _) (fun k e => by cases e)
  have hR1 : Hid (∀ g, w.heap.size = g → HighR w1 w.heap.size g (n + 1) (n + 1) (fillV n 0)) := by
    refine Lib.hid ?_
    rintro g rfl
    refine ⟨(fillV_len (Nat.zero_le _)).symm, ?_⟩
    have e : (madeCells (Value.int IntKind.i64 0).cells ((n + 1) * 1)).toList = (fillV n 0).map (Value.int .i64) := by
      rw [fillV_zero, Nat.mul_one, List.map_replicate]
      exact toList_madeCells_one _ _
    rw [← e]; exact hown1
  clear hown1 hgrow1
  generalize hgg : w.heap.size = g
  have hg0 : w.heap.size ≤ g := by omega
  have hR0 := Lib.hid (hR1.out g hgg)
  clear hR1 hgg
  go_wp2_with fail
  go_loopw [20] (fun vi wr => ∃ k : Nat, k ≤ n ∧ vi = .int .i64 k ∧ HighR wr w.heap.size g (n + 1) (n + 1) (fillV n k) ∧ Below w.heap.size w wr) (fun vi _ => n - (intOf vi).toNat)
  case atStart => exact ⟨0, Nat.zero_le _, rfl, hR0.out, HB1.out⟩
  case round =>
    obtain ⟨k, hk, rfl, hR, hb⟩ := hrel
    rcases Nat.lt_or_ge k n with hlt | hge
    · have k1 : (k : Int) < n := by omega
      have k0 : (0 : Int) ≤ k := by omega
      have ew1 : IntKind.i64.wrap ((k : Int) + 1) = ((k + 1 : Nat) : Int) := by rw [IntWalk.i64_in _ (by omega)]; omega
      have ew2 : (k : Int) + 1 < (n : Int) + 1 := by omega
      have c0 := hR.at (i := k + 1) (by omega)
      have fz := hR.2.frozenAt (k + 1)
      have HSET := hR.set (k + 1) (-1)
      rw [fillV_set hlt] at HSET
      have HS := Lib.hid HSET
      have hb2 : Below w.heap.size w (wr.setCell ⟨g, k + 1, none⟩ (.int .i64 (-1))) := hb.setCell hg0 _
      have HB2 := Lib.hid hb2
      clear HSET hR hb hb2
      generalize hvv : (fillV n k).getD (k + 1) 0 = vv at c0
      go_wp2_with fail
      go_roundw
      case rel => exact ⟨k + 1, by omega, by go_num, HS.out, HB2.out⟩
      case measure => simp [intOf]; omega
    · obtain rfl : k = n := by omega
      rw [fillV_all] at hR
      have HR0 := Lib.hid hR
      have HB0 := Lib.hid hb
      clear hR hb hR0 HB1
      generalize wr = wo at *
      go_wp2_with fail
      go_loopw [6, 30] (fun vd vi wr => ∃ (j : Nat) (hs : List Int), j ≤ k ∧ vi = .int .i64 j ∧ vd = .int .i64 (mxV hs) ∧ HighR wr w.heap.size g (k + 1) (k + 1) hs ∧ Hid (runV k j (ds.drop j) hs = runV k 0 ds (firstV k)) ∧ Hid (InV hs) ∧ Below w.heap.size w wr) (fun _ vi _ => k - (intOf vi).toNat)
      case atStart => exact ⟨0, firstV k, Nat.zero_le _, rfl, by rw [mxV_first], HR0.out, by show _ = _; rw [List.drop_zero], inV_first k, HB0.out⟩
      case round =>
        obtain ⟨j, hs, hj, rfl, rfl, hR, hrun, hin, hb⟩ := hrel
        have HR := Lib.hid hR
        have HB := Lib.hid hb
        have hszr := hb.size
        have HDP : Hid (mxV hs = mxV hs ∧ 0 ≤ mxV hs ∧ mxV hs ≤ 12) := ⟨rfl, mxV_nn _, mxV_le hin.out⟩
        clear hR hb
        obtain ⟨dp, hdp⟩ : ∃ dp, mxV hs = dp := ⟨_, rfl⟩
        have HDE := Lib.hid hdp
        have hdb : 0 ≤ dp ∧ dp ≤ 12 := by have := HDP.out; omega
        rw [hdp]
        clear hdp HDP
        rcases Nat.lt_or_ge j k with hlt | hge
        · have hkl : j < ds.length := by have := HN.out; omega
          have k1 : (j : Int) < k := by omega
          have k0 : (0 : Int) ≤ j := by omega
          have k2 : (j : Int) < (k : Int) + 1 := by omega
          have hsmk := HSM.out ds[j] (List.getElem_mem _)
          have HRD := Lib.hid (runV_drop (q := k) hkl hs)
          have hal := allV_get HALL.out j hkl
          rw [Nat.zero_add] at hal
          obtain ⟨b, off, rfl, hbn, hbl, hrow⟩ := H.out.cells (by omega)
          obtain ⟨f, hcf, ht⟩ := hrow j hkl
          obtain ⟨e1, e2, e3, hm, hc2⟩ := ht
          generalize hd : ds[j] = d at *
          obtain ⟨o, nn, s, ms⟩ := d
          obtain ⟨fo, fn, fs, ma, ml, mc⟩ := f
          dsimp only at e1 e2 e3 hm hc2 hal
          have q1 := e1.symm
          have q2 := e2.symm
          have q3 := e3.symm
          clear e1 e2 e3
          subst q1 q2 q3
          obtain rfl := hm.1
          have HC : Hid (∀ W, Below w.heap.size w W → CellsI W b (off + j * 4) ⟨o, nn, s, ma, ms.length, mc⟩) := fun W hW => hcf.kept (hW.block b hbn)
          have HO := Lib.hid hal.1
          have HH := Lib.hid hal.2
          have HNO : Hid (stepV k j ⟨o, nn, s, ms⟩ hs = none → heightsV ds = none) := fun hst => by
            unfold heightsV
            rw [← HN.out, ← hrun.out, HRD.out, hst]; rfl
          have HGO : Hid (∀ hs', stepV k j ⟨o, nn, s, ms⟩ hs = some hs' → runV k (j + 1) (ds.drop (j + 1)) hs' = runV k 0 ds (firstV k)) := fun hs' hst => by
            rw [← hrun.out, HRD.out, hst]; rfl
          have hvin := inV_getD hin.out j
          have HTB := Lib.hid (takes_bd o)
          have hT := Lib.hid (fun W => vmTakesI o W HO.out)
          have HS0 : Hid (stepV k j ⟨o, nn, s, ms⟩ hs = if hs.getD j 0 < 0 then some hs else if hs.getD j 0 < (takesV o).1 ∨ 12 < hs.getD j 0 - (takesV o).1 + (takesV o).2 then none else marksL (nextsV j ⟨o, nn, s, ms⟩) (hs.getD j 0 - (takesV o).1 + (takesV o).2) hs) := by
            refine Lib.hid ?_
            unfold stepV
            rw [if_neg (fun hh => by rcases hh with hh | hh; exact takes_nn.2 HO.out hh; exact hh HH.out), ← marksL_eq]
            rfl
          have HNX := Lib.hid (fun W => vmNextI o nn s ma mc ms j W (by omega) (fun h => by have hh := HH.out; unfold HoldsV at hh; rw [if_pos h] at hh; have := hh.1; omega))
          have HTL := Lib.hid (nexts_len j ⟨o, nn, s, ms⟩)
          have HTS := Lib.hid (nexts_le (d := ⟨o, nn, s, ms⟩) (q := k) (i := j) HH.out hlt)
          generalize nextsV j ⟨o, nn, s, ms⟩ = ts at *
          generalize takesV o = tk at *
          obtain ⟨t1, t2⟩ := tk
          have htb := HTB.out
          dsimp only at htb hT HS0
          have c0 := HR.out.at (i := j) (by omega)
          generalize hv : hs.getD j 0 = v at *
          clear hrow hcf hm hc2 hd hal hbl hsmk
          obtain ⟨y0, y1, y2, y3⟩ := HC.out wr HB.out
          dsimp only at y0 y1 y2 y3
          go_upto_region 11 with fail
          have hWA : Below wr.heap.size wr (wr.alloc (.cells #[.int .i64 o, .int .i64 nn, .string s, .slice ma ms.length mc] 48)) := (Below.refl _ _).alloc (Nat.le_refl _) _
          have HX : Hid ((wr.alloc (.cells #[.int .i64 o, .int .i64 nn, .string s, .slice ma ms.length mc] 48)).heap[wr.heap.size]? = some (.cells #[.int .i64 o, .int .i64 nn, .string s, .slice ma ms.length mc] 48 (0, 0))) := heap_alloc_new wr _
          have HB1 := Lib.hid (HB.out.trans (hWA.mono hszr))
          have HR1 : Hid (HighR (wr.alloc (.cells #[.int .i64 o, .int .i64 nn, .string s, .slice ma ms.length mc] 48)) w.heap.size g (k + 1) (k + 1) hs) := ⟨HR.out.1, HR.out.2.kept (row := none) (below_grownM hWA) (Or.inr (by simp [Value.ownBlock]))⟩
          have HBW : Hid (wr.heap.size < (wr.alloc (.cells #[.int .i64 o, .int .i64 nn, .string s, .slice ma ms.length mc] 48)).heap.size) := by refine Lib.hid ?_; simp only [World.size_alloc]; omega
          have HBG : Hid (wr.heap.size ≠ g) := by refine Lib.hid ?_; have := (HR.out.2.lt g rfl).2; omega
          clear c0 y0 y1 y2 y3 hWA HR HB
          generalize (wr.alloc (.cells #[.int .i64 o, .int .i64 nn, .string s, .slice ma ms.length mc] 48)) = W1 at *
          generalize wr.heap.size = bx at *
          have c0 := HR1.out.at (i := j) (by omega)
          rw [hv] at c0
          have HV := Lib.hid hv
          clear hv
          by_cases c2 : v = -1
          · have z3 : (v == -1) = true := by simpa using c2
            have HST : Hid (stepV k j ⟨o, nn, s, ms⟩ hs = some hs) := by show _ = _; rw [HS0.out, if_pos (by omega)]
            clear c2
            go_wp2_with fail
            go_roundw
            case rel => exact ⟨j + 1, hs, by omega, by go_num, by rw [HDE.out], HR1.out, HGO.out _ HST.out, hin, HB1.out⟩
            case measure => simp [intOf]; omega
          have z3 : (v == -1) = false := by simpa using c2
          have HS1 : Hid (stepV k j ⟨o, nn, s, ms⟩ hs = if v < t1 ∨ 12 < v - t1 + t2 then none else marksL ts (v - t1 + t2) hs) := by refine Lib.hid ?_; rw [HS0.out, if_neg (by omega)]
          have hv0 : 0 ≤ v := by omega
          have en1 : IntKind.i64.wrap (v - t1) = v - t1 := IntWalk.i64_in _ (by omega)
          have en2 : IntKind.i64.wrap (v - t1 + t2) = v - t1 + t2 := IntWalk.i64_in _ (by omega)
          have y0 : W1.cell? ⟨bx, 0, none⟩ = some (.int .i64 o) := by rw [Lib.cell_of_heap HX.out]; rfl
          clear c2
          go_wp2_with fail
          refine (hT.out W1).mono ?_
          rintro e W2 ⟨rfl, d2⟩
          have HB2 := Lib.hid (HB1.out.trans (d2.mono HB1.out.size))
          have HX2 := Lib.hid ((d2.block _ HBW.out).trans HX.out)
          have HR2 : Hid (HighR W2 w.heap.size g (k + 1) (k + 1) hs) := ⟨HR1.out.1, HR1.out.2.kept (row := none) (below_grownM d2) (Or.inr (by simp [Value.ownBlock]))⟩
          have HBW2 : Hid (bx < W2.heap.size) := Nat.lt_of_lt_of_le HBW.out d2.size
          clear d2 y0 c0
          have c0 := HR2.out.at (i := j) (by omega)
          rw [HV.out] at c0
          by_cases c3 : v < t1 ∨ 12 < v - t1 + t2
          · have HST : Hid (stepV k j ⟨o, nn, s, ms⟩ hs = none) := by show _ = _; rw [HS1.out, if_pos c3]
            by_cases c4 : v < t1
            · have z4 : decide (v < t1) = true := decide_eq_true c4
              go_wp2
              go_ret2
              exact WaysP.fail (HNO.out HST.out) HB2.out
            · have z4 : decide (v < t1) = false := decide_eq_false c4
              have z5 : decide (12 < v - t1 + t2) = true := decide_eq_true (by omega)
              go_wp2
              go_ret2
              exact WaysP.fail (HNO.out HST.out) HB2.out
          have z4 : decide (v < t1) = false := decide_eq_false (fun x => c3 (Or.inl x))
          have z5 : decide (12 < v - t1 + t2) = false := decide_eq_false (fun x => c3 (Or.inr x))
          have HS2 : Hid (stepV k j ⟨o, nn, s, ms⟩ hs = marksL ts (v - t1 + t2) hs) := by refine Lib.hid ?_; rw [HS1.out, if_neg c3]
          have hl0 : 0 ≤ v - t1 + t2 ∧ v - t1 + t2 ≤ 12 := by omega
          have x0 : W2.cell? ⟨bx, 0, none⟩ = some (.int .i64 o) := by rw [Lib.cell_of_heap HX2.out]; rfl
          have x1 : W2.cell? ⟨bx, 1, none⟩ = some (.int .i64 nn) := by rw [Lib.cell_of_heap HX2.out]; rfl
          have x2 : W2.cell? ⟨bx, 2, none⟩ = some (.string s) := by rw [Lib.cell_of_heap HX2.out]; rfl
          have x3 : W2.cell? ⟨bx, 3, none⟩ = some (.slice ma ms.length mc) := by rw [Lib.cell_of_heap HX2.out]; rfl
          clear c3
          go_wp2_with fail
          refine (HNX.out W2).mono ?_
          rintro e W3 ⟨gt, hgt, rfl, hct, hgt3, d3⟩
          have HB3 := Lib.hid (HB2.out.trans (d3.mono HB2.out.size))
          have HR3 : Hid (HighR W3 w.heap.size g (k + 1) (k + 1) hs) := ⟨HR2.out.1, HR2.out.2.kept (row := none) (below_grownM d3) (Or.inr (by simp [Value.ownBlock]))⟩
          have HNE : Hid (gt ≠ g) := by refine Lib.hid ?_; have := (HR2.out.2.lt g rfl).2; omega
          have HGT := Lib.hid hgt3
          clear c0 x0 x1 x2 x3 d3 hgt3 hgt z3 z4 z5 en1 en2
          generalize hL : v - t1 + t2 = L at *
          have hL0 := hl0
          clear hl0 hL
          go_wp2_with fail
          go_loopw [71] (fun vq wr => ∃ (q : Nat) (hs2 : List Int), q ≤ ts.length ∧ vq = .int .i64 q ∧ HighR wr w.heap.size g (k + 1) (k + 1) hs2 ∧ Hid (marksL (ts.drop q) L hs2 = marksL ts L hs) ∧ Hid (InV hs2) ∧ Hid (mxV hs2 = if q = 0 then dp else max dp L) ∧ W3.grownBy wr (some g)) (fun vq _ => ts.length - (intOf vq).toNat)
          case atStart => exact ⟨0, hs, Nat.zero_le _, rfl, HR3.out, by show _ = _; rw [List.drop_zero], hin, by show _ = _; rw [if_pos rfl]; exact HDE.out, grown_any (Below.refl _ _)⟩
          case round =>
            obtain ⟨q, hs2, hq, rfl, hR, hml, hin2, hmx, hgr⟩ := hrel
            have HRq := Lib.hid hR
            have HGq := Lib.hid hgr
            have hlen2 : hs2.length = k + 1 := hR.1.symm
            have hts2 : ts.length ≤ 2 := HTL.out.2
            clear hR hgr
            rcases Nat.lt_or_ge q ts.length with hqlt | hqge
            · have q1 : (q : Int) < ts.length := by omega
              have q0 : (0 : Int) ≤ q := by omega
              have ct := (World.cell?_of_block (a := ⟨gt, q, none⟩) (HGq.out.block gt HGT.out (by intro e; simp only [Option.some.injEq] at e; exact HNE.out e))).trans (hct.out q hqlt)
              have htk : ts[q] ≤ k := HTS.out _ (List.getElem_mem _)
              have HMD := Lib.hid (marksL_drop hqlt L hs2)
              generalize ts[q] = t at *
              have t0 : (0 : Int) ≤ (t : Int) := by omega
              have t1' : (t : Int) < (k : Int) + 1 := by omega
              have ch := HRq.out.at (i := t) (by omega)
              have fz := HRq.out.2.frozenAt t
              have HSET := Lib.hid (HRq.out.set t L)
              have HGS := Lib.hid (grown_trans HGq.out (grown_set wr ⟨g, t, none⟩ (.int .i64 L)))
              by_cases hbad : hs2.getD t 0 ≠ -1 ∧ hs2.getD t 0 ≠ L
              · have HST : Hid (stepV k j ⟨o, nn, s, ms⟩ hs = none) := by
                  refine Lib.hid ?_
                  rw [HS2.out, ← hml.out, HMD.out, if_neg (by rw [markV_no hin2.out hbad]; decide)]
                generalize hs2.getD t 0 = u at *
                have z6 : (u != -1) = true := by simpa using hbad.1
                have z7 : (u != L) = true := by simpa using hbad.2
                have HBX : Hid (Below w.heap.size w wr) := HB3.out.grown HGq.out HB3.out.size (fun i e => by cases e; exact hg0)
                clear hbad
                go_wp2
                go_ret2
                exact WaysP.fail (HNO.out HST.out) HBX.out
              have hmk := markV_ok hin2.out (i := t) (by omega) (n := L) hL0.1 hbad
              have hmk1 := Lib.hid hmk.1
              have hmk2 := Lib.hid hmk.2
              have HIN3 : Hid (InV (hs2.set t L)) := by
                have := inV_mark hin2.out t (n := L) (by omega) hL0.2
                rw [hmk1.out] at this
                exact this
              have HML3 : Hid (marksL (ts.drop (q + 1)) L (hs2.set t L) = marksL ts L hs) := by
                refine Lib.hid ?_
                rw [← hml.out, HMD.out, hmk1.out]
                rfl
              have HMX3 : Hid (mxV (hs2.set t L) = if q + 1 = 0 then dp else max dp L) := by
                refine Lib.hid ?_
                rw [hmk2.out, hmx.out, if_neg (show ¬ (q + 1 = 0) by omega)]
                split <;> omega
              clear hmk
              generalize hs2.getD t 0 = u at *
              by_cases hu : u = -1
              · have z6 : (u != -1) = false := by simpa using hu
                clear hu hbad
                go_wp2_with fail
                go_roundw
                case rel => exact ⟨q + 1, _, by omega, by go_num, HSET.out, HML3, HIN3, HMX3, HGS.out⟩
                case measure => simp [intOf]; omega
              · have z6 : (u != -1) = true := by simpa using hu
                have z7 : (u != L) = false := by
                  have : u = L := Classical.byContradiction fun x => hbad ⟨hu, x⟩
                  simpa using this
                clear hu hbad
                go_wp2_with fail
                go_roundw
                case rel => exact ⟨q + 1, _, by omega, by go_num, HSET.out, HML3, HIN3, HMX3, HGS.out⟩
                case measure => simp [intOf]; omega
            · obtain rfl : q = ts.length := by omega
              have HST : Hid (stepV k j ⟨o, nn, s, ms⟩ hs = some hs2) := by
                refine Lib.hid ?_
                rw [HS2.out, ← hml.out, List.drop_length, marksL]
              have HMF : Hid (max dp L = mxV hs2) := by
                refine Lib.hid ?_
                rw [hmx.out, if_neg (by have := HTL.out; omega)]
              have HBX : Hid (Below w.heap.size w wr) := HB3.out.grown HGq.out HB3.out.size (fun i e => by cases e; exact hg0)
              go_wp2_with fail
              go_roundw
              case rel => exact ⟨j + 1, hs2, by omega, by go_num, by rw [HMF.out], HRq.out, HGO.out _ HST.out, hin2, HBX.out⟩
              case measure => simp [intOf]; omega
        · obtain rfl : j = k := by omega
          have c0 := HR.out.at (i := j) (by omega)
          have hrn : runV j j (ds.drop j) hs = some hs := by rw [List.drop_of_length_le (by have := HN.out; omega), runV]
          have HH : Hid (heightsV ds = if hs.getD j 0 = 1 then some hs else none) := by
            show _ = _
            unfold heightsV
            rw [← HN.out, ← hrun.out, hrn]; rfl
          have k1 : (j : Int) < (j : Int) + 1 := by omega
          have k0 : (0 : Int) ≤ j := by omega
          clear hrn hrun
          generalize hs.getD j 0 = v at *
          cases hv : (v == 1) with
          | true =>
            have HST : Hid (heightsV ds = some hs) := by show _ = _; rw [HH.out, if_pos (by simpa using hv)]
            go_wp2_with fail
            go_region
            all_goals
              go_wp2
              go_ret2
              refine ⟨true, _, rfl, Lib.hid (by rw [HST.out]; rfl), Lib.hid (fun hs' h' => ?_), ⟨HB.out.os, HB.out.tape, HB.out.output, HB.out.size, HB.out.block⟩⟩
              rw [HST.out] at h'
              cases h'
              exact HDE.out.symm
          | false =>
            have HST : Hid (heightsV ds = none) := by show _ = _; rw [HH.out, if_neg (by simpa using hv)]
            go_wp2_with fail
            go_region
            all_goals
              go_wp2
              go_ret2
              exact WaysP.fail HST.out ⟨HB.out.os, HB.out.tape, HB.out.output, HB.out.size, HB.out.block⟩
end Go.Proofs.YtjhgmmcglonokaaGreatDoor

namespace Go.Proofs.YtjhgmmcglonokaaGreatDoor
open Go.RowKit
set_option linter.unusedVariables false
set_option linter.unusedSimpArgs false

def rowR (f : Fld) : List Value := [.int .i64 f.op, .int .i64 f.num, .string f.name, .slice f.ka f.kl f.kc, .slice f.ma f.ml f.mc]
def rowsR (fs : List Fld) : List Value := fs.flatMap rowR
theorem rowsR_get (fs : List Fld) (i m : Nat) (h : i < fs.length) (hm : m < 5) : (rowsR fs)[i * 5 + m]? = (rowR fs[i])[m]? := by
  induction fs generalizing i with
  | nil => simp at h
  | cons f r ih =>
    unfold rowsR at ih ⊢
    rw [List.flatMap_cons]
    cases i with
    | zero =>
      have : m < (rowR f).length := by simp [rowR]; omega
      rw [Nat.zero_mul, Nat.zero_add, List.getElem?_append_left this]; rfl
    | succ i =>
      have e : (i + 1) * 5 + m = (rowR f).length + (i * 5 + m) := by simp [rowR]; omega
      rw [e, List.getElem?_append_right (by omega), Nat.add_sub_cancel_left, ih i (by simpa using h)]
      rfl
theorem rowsR_snoc (fs : List Fld) (f : Fld) : rowsR fs ++ rowR f = rowsR (fs ++ [f]) := by simp [rowsR]
theorem infoRuleK : (Tryz.prog.info? 37).map (fun i => (i.zero, i.size, i.bytes)) = some (some (.agg #[.int .i64 0, .int .i64 0, .string ⟨#[]⟩, .slice none 0 0, .slice none 0 0]), 5, 80) := by kernel_rfl
/-- Kids in a row of one's own, what is in them in memory from B on that is not the row's. -/
def KidsO (B : Nat) (w : World) (v : Value) (ts : List Tr) : Prop :=
  ∃ fs : List Fld, fs.length = ts.length ∧ w.ownsRow B 37 5 v ts.length (rowsR fs) ∧ ∀ j, (h : j < ts.length) → ∃ f, fs[j]? = some f ∧ TrF (fun x => B ≤ x ∧ v.ownBlock ≠ some x) w ts[j] f
theorem kidsO_nil (B : Nat) (w : World) : KidsO B w (.slice none 0 0) [] := ⟨[], rfl, World.ownsRow_nil _ _ _ _, fun j h => by simp at h⟩
theorem own_rowKept {w w' : World} {B : Nat} {e : TypeId} {z : Nat} {v : Value} {n : Nat} {xs : List Value} {row : Option Nat} (h : w.ownsRow B e z v n xs) (hg : w.grownBy w' row) (hr : ∀ b, row = some b → v.ownBlock ≠ some b) : w'.ownsRow B e z v n xs := by
  refine h.kept hg ?_
  cases hb : v.ownBlock with
  | none => exact Or.inl rfl
  | some b => exact Or.inr fun e => hr b e.symm hb
theorem KidsO.kept {B : Nat} {w w' : World} {v : Value} {ts : List Tr} {row : Option Nat} (h : KidsO B w v ts) (hg : w.grownBy w' row) (hr : ∀ b, row = some b → b < B) : KidsO B w' v ts := by
  obtain ⟨fs, h1, h2, h3⟩ := h
  refine ⟨fs, h1, own_rowKept h2 hg (fun b hb e => by have := (h2.lt b e).1; have := hr b hb; omega), fun j hj => ?_⟩
  obtain ⟨f, e, ht⟩ := h3 j hj
  exact ⟨f, e, ht.kept ⟨hg.size, fun b hb hl => hg.block b hl (fun e => by have := hr b e.symm; have := hb.1; omega)⟩⟩
theorem KidsO.below {B : Nat} {w w' : World} {v : Value} {ts : List Tr} (h : KidsO B w v ts) (hb : Below w.heap.size w w') : KidsO B w' v ts := h.kept (row := none) (grown_any hb) (fun b e => by cases e)
theorem KidsO.mono {B B' : Nat} {w : World} {v : Value} {ts : List Tr} (h : KidsO B w v ts) (hB : B' ≤ B) : KidsO B' w v ts := by
  obtain ⟨fs, h1, h2, h3⟩ := h
  refine ⟨fs, h1, ⟨h2.1, h2.2.imp id fun ⟨g, cap, cur, q1, q2, q3⟩ => ⟨g, cap, cur, q1, Nat.le_trans hB q2, q3⟩⟩, fun j hj => ?_⟩
  obtain ⟨f, e, ht⟩ := h3 j hj
  exact ⟨f, e, TrF.mono (fun b hb => ⟨Nat.le_trans hB hb.1, hb.2⟩) _ _ ht⟩
theorem KidsO.form {B : Nat} {w : World} {v : Value} {ts : List Tr} (h : KidsO B w v ts) : ∃ a c, v = .slice a ts.length c := by
  obtain ⟨fs, h1, h2, h3⟩ := h
  rcases h2.2 with ⟨h, h0⟩ | ⟨g, cap, cur, h, -⟩
  · exact ⟨none, 0, by rw [h, h0]⟩
  · exact ⟨_, _, h⟩
theorem own_cap {w : World} {B : Nat} {e : TypeId} {z n m c : Nat} {a : Option Addr} {xs : List Value} (h : w.ownsRow B e z (.slice a m c) n xs) : m ≤ c := by
  rcases h.2 with ⟨h, h0⟩ | ⟨g, cap, cur, h, -, -, hl, -⟩
  · injection h with h1 h2 h3; omega
  · injection h with h1 h2 h3; omega
/-- .. read as a row of kids. -/
theorem KidsO.rows {B : Nat} {w : World} {a : Option Addr} {n c : Nat} {ts : List Tr} (h : KidsO B w (.slice a n c) ts) : n = ts.length ∧ n ≤ c ∧ RowsT (fun x => B ≤ x) w a ts.length ts := by
  obtain ⟨fs, h1, h2, h3⟩ := h
  have hc := own_cap h2
  rcases h2.2 with ⟨e, e0⟩ | ⟨g, cap, cur, e, hg, hh, -⟩
  · injection e with e1 e2 e3
    subst e1 e2
    exact ⟨e0.symm, hc, rfl, Or.inl e0⟩
  · injection e with e1 e2 e3
    subst e1 e2 e3
    have hgl := (h2.lt g rfl).2
    refine ⟨rfl, hc, rowsT_of hg hgl fun j hj => ?_⟩
    obtain ⟨f, hf, ht⟩ := h3 j hj
    have hjf := (List.getElem?_eq_some_iff.1 hf).1
    have ef : fs[j] = f := (List.getElem?_eq_some_iff.1 hf).2
    have key : ∀ m, m < 5 → w.cell? ⟨g, j * 5 + m, none⟩ = (rowR f)[m]? := fun m hm => by
      rw [h2.cellAt (j * 5 + m) (by omega), rowsR_get fs j m hjf hm, ef]
    refine ⟨f, ⟨?_, ?_, ?_, ?_, ?_⟩, TrF.mono (fun b hb => hb.1) _ _ ht⟩
    · rw [Nat.zero_add]; exact key 0 (by omega)
    · rw [Nat.zero_add]; exact key 1 (by omega)
    · rw [Nat.zero_add]; exact key 2 (by omega)
    · rw [Nat.zero_add]; exact key 3 (by omega)
    · rw [Nat.zero_add]; exact key 4 (by omega)
/-- One more kid behind the others. -/
theorem KidsO.snoc {B : Nat} {w w' : World} {v : Value} {ts : List Tr} {fs : List Fld} {t : Tr} {f : Fld} {g cap : Nat} (h1 : fs.length = ts.length) (h2 : w.ownsRow B 37 5 v ts.length (rowsR fs))
    (h3 : ∀ j, (h : j < ts.length) → ∃ f, fs[j]? = some f ∧ TrF (fun x => B ≤ x ∧ v.ownBlock ≠ some x) w ts[j] f) (ht : TrF (fun x => B ≤ x ∧ v.ownBlock ≠ some x) w t f)
    (hown : w'.ownsRow B 37 5 (.slice (some ⟨g, 0, none⟩) (ts.length + 1) cap) (ts.length + 1) (rowsR fs ++ rowR f)) (hg : w.grownBy w' v.ownBlock) (hat : v.ownBlock = some g ∨ g = w.heap.size) :
    KidsO B w' (.slice (some ⟨g, 0, none⟩) (ts ++ [t]).length cap) (ts ++ [t]) := by
  have hsame : Same (fun x => (B ≤ x ∧ v.ownBlock ≠ some x) ∧ x < w.heap.size) w w' := ⟨hg.size, fun b hb hl => hg.block b hl (fun e => hb.1.2 e.symm)⟩
  have up : ∀ t f, TrF (fun x => B ≤ x ∧ v.ownBlock ≠ some x) w t f → TrF (fun x => B ≤ x ∧ (Value.slice (some ⟨g, 0, none⟩) (ts ++ [t]).length cap).ownBlock ≠ some x) w' t f := fun t f k => by
    refine TrF.mono (fun b hb => ⟨hb.1.1, fun e => ?_⟩) _ _ ((TrF.lt t f k).kept hsame)
    simp [Value.ownBlock] at e
    subst e
    rcases hat with h | h
    · exact hb.1.2 h
    · have := hb.2; omega
  rw [show (ts ++ [t]).length = ts.length + 1 by simp] at *
  refine ⟨fs ++ [f], by simp [h1], by rw [← rowsR_snoc]; simpa using hown, fun j hj => ?_⟩
  by_cases e : j < ts.length
  · obtain ⟨f', e1, e2⟩ := h3 j e
    refine ⟨f', by rw [List.getElem?_append_left (by omega)]; exact e1, ?_⟩
    rw [List.getElem_append_left e]
    exact up _ _ e2
  · have : j = ts.length := by simp at hj; omega
    subst this
    refine ⟨f, by rw [← h1]; simp, ?_⟩
    simp only [List.getElem_append_right (Nat.le_refl _), Nat.sub_self, List.getElem_cons_zero]
    exact up _ _ ht
/-- A kid laid by itself, to be put behind others. -/
theorem one_kid {w : World} (f : Fld) {gx : Nat} (hx : w.heap[gx]? = some (.cells (rowR f).toArray 37 (0, 0))) : ∀ j u, (rowR f)[j]? = some u → w.cell? ((⟨gx, 0, none⟩ : Addr).add j) = some u := by
  intro j u hj
  have e : (⟨gx, 0, none⟩ : Addr).add j = ⟨gx, j, none⟩ := by by_cases h0 : j = 0 <;> simp [Addr.add, h0]
  rw [e]
  unfold World.cell?
  rw [hx]
  simpa using hj
theorem rowR_one (f : Fld) : ∀ u ∈ rowR f, u.oneCell' = true := by
  intro u hu
  simp only [rowR, List.mem_cons, List.not_mem_nil, or_false] at hu
  rcases hu with rfl | rfl | rfl | rfl | rfl <;> rfl
end Go.Proofs.YtjhgmmcglonokaaGreatDoor
