/-
  A program of one's own is marked, and held against its marks.
-/
import Derived.Test.YtjphjnopdlfplaaGreatDoorCodeApp
import Derived.Test.YtjphjnopdlfplaaGreatDoorMarkTx
import Derived.OwnWalk
import Derived.Deep.RegionWith
namespace Go.Proofs.YtjphjnopdlfplaaGreatDoor
open Go.RowKit
set_option linter.unusedVariables false
set_option linter.unusedSimpArgs false

theorem rowsI_set : ∀ (fs : List FI) (i c : Nat) (u : Value) (f' : FI) (h : i < fs.length), c < 4 → (cells4 fs[i]).set c u = cells4 f' → (rowsI fs).set (i * 4 + c) u = rowsI (fs.set i f')
  | f :: r, 0, c, u, f', _, hc, he => by
    have he' : (cells4 f).set c u = cells4 f' := by simpa using he
    unfold rowsI
    rw [List.flatMap_cons, List.set_cons_zero, List.flatMap_cons, Nat.zero_mul, Nat.zero_add, List.set_append_left _ _ (by simp [cells4]; omega), he']
  | f :: r, i + 1, c, u, f', h, hc, he => by
    have ih := rowsI_set r i c u f' (by simpa using h) hc (by simpa using he)
    unfold rowsI at ih ⊢
    have e4 : (cells4 f).length = 4 := rfl
    rw [List.flatMap_cons, List.set_cons_succ, List.flatMap_cons, List.set_append_right _ _ (by omega), e4, show (i + 1) * 4 + c - 4 = i * 4 + c by omega, ih]
theorem allO_of {B : Nat} {w : World} : ∀ {ds : List Pl} {fs : List FI}, fs.length = ds.length → (∀ j, (hj : j < ds.length) → (hf : j < fs.length) → PlO B w ds[j] fs[j]) → AllO B w ds fs
  | [], [], _, _ => trivial
  | [], _ :: _, h, _ => by simp at h
  | _ :: _, [], h, _ => by simp at h
  | d :: ds, f :: fs, h, k => ⟨k 0 (by simp) (by simp), allO_of (by simpa using h) fun j hj hf => k (j + 1) (by simpa using hj) (by simpa using hf)⟩
theorem allO_set {B : Nat} {w : World} {ds : List Pl} {fs : List FI} (h : AllO B w ds fs) {i : Nat} {d : Pl} {f : FI} (hp : PlO B w d f) : AllO B w (ds.set i d) (fs.set i f) := by
  have hl := allO_len h
  refine allO_of (by rw [List.length_set, List.length_set]; exact hl) fun j hj hf => ?_
  rw [List.getElem_set, List.getElem_set]
  split
  · exact hp
  · exact allO_get h j (by simpa using hj) (by simpa using hf)
theorem apart_map {fs fs' : List FI} (h : fs.map MkV = fs'.map MkV) (k : ApartF fs) : ApartF fs' := by
  unfold ApartF at k ⊢
  have e : ∀ l : List FI, (l.Pairwise fun f f' => ∀ g, (MkV f).ownBlock = some g → (MkV f').ownBlock ≠ some g) ↔ ((l.map MkV).Pairwise fun v v' : Value => ∀ g, v.ownBlock = some g → v'.ownBlock ≠ some g) := fun l => by rw [List.pairwise_map]
  rw [e] at k ⊢
  rw [← h]; exact k
theorem map_set_same {fs : List FI} {i : Nat} {f : FI} (hi : i < fs.length) (h : MkV f = MkV fs[i]) : fs.map MkV = (fs.set i f).map MkV := by
  rw [List.map_set, h]
  have e : (MkV fs[i]) = (fs.map MkV)[i]'(by simpa using hi) := by simp
  rw [e, List.set_getElem_self]
theorem CodeF.setF {B : Nat} {w : World} {g n c : Nat} {ds : List Pl} {fs : List FI} (h : CodeF B w (.slice (some ⟨g, 0, none⟩) n c) ds fs) (hn : n = ds.length) {i c0 : Nat} {u : Value} {d' : Pl} {f' : FI} (hi : i < fs.length) (hc : c0 < 4)
    (he : (cells4 fs[i]).set c0 u = cells4 f') (hp : PlO B w d' f') (hm : MkV f' = MkV fs[i]) :
    CodeF B (w.setCell ⟨g, i * 4 + c0, none⟩ u) (.slice (some ⟨g, 0, none⟩) n c) (ds.set i d') (fs.set i f') ∧ w.grownBy (w.setCell ⟨g, i * 4 + c0, none⟩ u) (some g) := by
  subst hn
  obtain ⟨h1, h2, h3⟩ := h
  have st := h1.stored (i * 4 + c0) u
  rw [rowsI_set fs i c0 u f' hi hc he] at st
  have hr : ∀ b, (some g : Option Nat) = some b → ∃ cur, w.heap[b]? = some (.cells cur tI (0, 0)) := fun b e => (owns_typed h1 (g := b) (by simpa [Value.ownBlock] using e)).2
  refine ⟨⟨by rw [List.length_set]; exact st.1, allO_set (allO_imp (fun _ _ k => k.kept st.2 hr) h2) (hp.kept st.2 hr), apart_map (map_set_same hi hm) h3⟩, st.2⟩
theorem apart_ne {fs : List FI} (h : ApartF fs) {i j : Nat} (hi : i < fs.length) (hj : j < fs.length) (hij : i ≠ j) {b : Nat} (hb : (MkV fs[i]).ownBlock = some b) : (MkV fs[j]).ownBlock ≠ some b := by
  rcases Nat.lt_or_gt_of_ne hij with hlt | hlt
  · exact List.pairwise_iff_getElem.1 h i j hi hj hlt b hb
  · intro hb'
    exact List.pairwise_iff_getElem.1 h j i hj hi hlt b hb' hb
theorem CodeF.setM {B : Nat} {w w' : World} {v : Value} {ds : List Pl} {fs : List FI} (h : CodeF B w v ds fs) {i : Nat} (hi : i < fs.length) (hid : i < ds.length) {ms' : List (Int × Int)} (hl : ms'.length = ds[i].ms.length)
    (hown : w'.ownsRow B tK 2 (MkV fs[i]) fs[i].ml (rowsM ms')) (hg : w.grownBy w' (MkV fs[i]).ownBlock) : CodeF B w' v (ds.set i ⟨ds[i].op, ds[i].num, ds[i].nm, ms'⟩) fs := by
  obtain ⟨h1, h2, h3⟩ := h
  have hp := allO_get h2 i hid hi
  refine ⟨?_, ?_, h3⟩
  · rw [List.length_set]
    refine h1.kept hg ?_
    cases hb : v.ownBlock with
    | none => exact Or.inl rfl
    | some b =>
      refine Or.inr fun e => ?_
      obtain ⟨-, cur, hc⟩ := owns_typed h1 hb
      obtain ⟨-, cur', hc'⟩ := owns_typed hp.2.2.2.2 e.symm
      rw [hc] at hc'
      have := Option.some.inj hc'
      injection this with _ h _
      exact tIK h
  · refine allO_of (by rw [List.length_set]; exact allO_len h2) fun j hj hf => ?_
    rw [List.getElem_set]
    split
    · rename_i e
      subst e
      exact ⟨hp.1, hp.2.1, hp.2.2.1, by rw [hp.2.2.2.1]; exact hl.symm, hown⟩
    · rename_i e
      have hq := allO_get h2 j (by simpa using hj) hf
      refine ⟨hq.1, hq.2.1, hq.2.2.1, hq.2.2.2.1, hq.2.2.2.2.kept hg ?_⟩
      cases hb : (MkV fs[j]).ownBlock with
      | none => exact Or.inl rfl
      | some b => exact Or.inr fun e2 => apart_ne h3 hi hf e e2.symm hb
end Go.Proofs.YtjphjnopdlfplaaGreatDoor
