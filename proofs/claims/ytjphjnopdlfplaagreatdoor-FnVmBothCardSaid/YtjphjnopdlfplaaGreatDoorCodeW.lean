/-
  A drawn program in memory: a row of its own, marks shared perhaps; a place is added, one is taken out, one is changed.
-/
import Derived.Test.YtjphjnopdlfplaaGreatDoorCodeApp
namespace Go.Proofs.YtjphjnopdlfplaaGreatDoor
open Go.RowKit
set_option linter.unusedVariables false
set_option linter.unusedSimpArgs false

def CodeRow (B : Nat) (w : World) (v : Value) (ds : List Pl) (fs : List FI) : Prop := w.ownsRow B tI 4 v ds.length (rowsI fs) ∧ AllO B w ds fs
def CodeW (B : Nat) (w : World) (v : Value) (ds : List Pl) : Prop := ∃ fs, CodeRow B w v ds fs
theorem CodeO.toW {B : Nat} {w : World} {v : Value} {ds : List Pl} (h : CodeO B w v ds) : CodeW B w v ds := let ⟨fs, h1, h2, _⟩ := h; ⟨fs, h1, h2⟩
theorem CodeRow.grown {B : Nat} {w w' : World} {v : Value} {ds : List Pl} {fs : List FI} {row : Option Nat} (h : CodeRow B w v ds fs) (hg : w.grownBy w' row) (hr : ∀ b, row = some b → b < B) : CodeRow B w' v ds fs := by
  have hk : ∀ {u : Value} {e : TypeId} {z n : Nat} {xs : List Value}, w.ownsRow B e z u n xs → w'.ownsRow B e z u n xs := fun k => k.kept hg (by
    cases hb : row with
    | none => exact (Classical.em _).imp id (fun hne => hne)
    | some b => exact .inr (fun e => by have h1 := (k.lt b e).1; have := hr b hb; omega))
  exact ⟨hk h.1, allO_imp (fun _ _ k => ⟨k.1, k.2.1, k.2.2.1, k.2.2.2.1, hk k.2.2.2.2⟩) h.2⟩
theorem CodeW.grown {B : Nat} {w w' : World} {v : Value} {ds : List Pl} {row : Option Nat} (h : CodeW B w v ds) (hg : w.grownBy w' row) (hr : ∀ b, row = some b → b < B) : CodeW B w' v ds := let ⟨fs, k⟩ := h; ⟨fs, k.grown hg hr⟩
theorem CodeW.below {B : Nat} {w w' : World} {v : Value} {ds : List Pl} (h : CodeW B w v ds) (hb : Below w.heap.size w w') : CodeW B w' v ds := h.grown (row := none) (below_grownM hb) (fun _ e => by cases e)
theorem CodeW.mono {B B' : Nat} {w : World} {v : Value} {ds : List Pl} (h : CodeW B w v ds) (hB : B' ≤ B) : CodeW B' w v ds := by
  obtain ⟨fs, h1, h2⟩ := h; exact ⟨fs, owns_mono h1 hB, allO_imp (fun _ _ k => k.mono hB) h2⟩
theorem CodeW.made {B : Nat} {w : World} (hB : B ≤ w.heap.size) : CodeW B (w.alloc (.cells #[] tI)) (.slice (some ⟨w.heap.size, 0, none⟩) 0 0) [] := (CodeO.made hB).toW
theorem CodeW.nil (B : Nat) (w : World) : CodeW B w (.slice none 0 0) [] := (CodeO.nil B w).toW
/-- Cells of a place. -/
theorem CodeRow.cells {B : Nat} {w : World} {g n c : Nat} {ds : List Pl} {fs : List FI} (h : CodeRow B w (.slice (some ⟨g, 0, none⟩) n c) ds fs) (hn : n = ds.length) (j : Nat) (hj : j < fs.length) :
    w.cell? ⟨g, j * 4, none⟩ = some (.int .i64 fs[j].op) ∧ w.cell? ⟨g, j * 4 + 1, none⟩ = some (.int .i64 fs[j].num) ∧ w.cell? ⟨g, j * 4 + 2, none⟩ = some (.string fs[j].name) ∧ w.cell? ⟨g, j * 4 + 3, none⟩ = some (.slice fs[j].ma fs[j].ml fs[j].mc) := by
  have hl := allO_len h.2
  have h1 := h.1
  rw [← hn] at h1
  have key := fun c (hc : c < 4) => (h1.cellAt (j * 4 + c) (by omega)).trans (rowsI_get fs j c hj hc)
  exact ⟨key 0 (by omega), key 1 (by omega), key 2 (by omega), key 3 (by omega)⟩
theorem codeW_pls {B : Nat} {w : World} {a : Option Addr} {n c : Nat} {ds : List Pl} (h : CodeW B w (.slice a n c) ds) (hn : n = ds.length) : PlsN All w a n ds := by
  obtain ⟨fs, h1, h2⟩ := h
  refine ⟨hn, ?_⟩
  rcases Nat.eq_zero_or_pos n with h0 | h0
  · exact Or.inl h0
  right
  rw [← hn] at h1
  obtain ⟨g, cap, e, hb, hlt⟩ := h1.form h0
  injection e with e1 e2 e3
  subst e1
  refine ⟨g, 0, rfl, trivial, hlt, fun j hj => ?_⟩
  have hjf : j < fs.length := by rw [allO_len h2]; exact hj
  have key := fun c (hc : c < 4) => (h1.cellAt (j * 4 + c) (by omega)).trans (rowsI_get fs j c hjf hc)
  have hp := allO_get h2 j hj hjf
  refine ⟨fs[j], ⟨by rw [Nat.zero_add]; exact key 0 (by omega), by rw [Nat.zero_add]; exact key 1 (by omega), by rw [Nat.zero_add]; exact key 2 (by omega), by rw [Nat.zero_add]; exact key 3 (by omega)⟩, hp.1, hp.2.1, hp.2.2.1, marksN_owns hp.2.2.2.2 hp.2.2.2.1 (fun _ _ => trivial), ?_⟩
  rcases hp.2.2.2.2.2 with ⟨e, e0⟩ | ⟨g', cap', cur, e, -, -, hle, -⟩
  · unfold MkV at e; injection e with _ e2 e3; omega
  · unfold MkV at e; injection e with _ e2 e3; omega
theorem rowsI_app (fs gs : List FI) : rowsI (fs ++ gs) = rowsI fs ++ rowsI gs := by unfold rowsI; rw [List.flatMap_append]
/-- A row behind a row. -/
theorem CodeRow.app {B : Nat} {w w' : World} {v : Value} {ds ds' : List Pl} {fs fs' : List FI} {a : Option Addr} {n cap : Nat} (h : CodeRow B w v ds fs) (h' : AllO B w ds' fs') (hn : n = ds.length + ds'.length)
    (hown : w'.ownsRow B tI 4 (.slice a n cap) n (rowsI fs ++ rowsI fs')) (hgr : w.grownBy w' v.ownBlock) : CodeRow B w' (.slice a n cap) (ds ++ ds') (fs ++ fs') := by
  have hrow : ∀ b, v.ownBlock = some b → ∃ cur, w.heap[b]? = some (.cells cur tI (0, 0)) := fun b e => (owns_typed h.1 e).2
  refine ⟨?_, allO_app (allO_imp (fun _ _ k => k.kept hgr hrow) h.2) (allO_imp (fun _ _ k => k.kept hgr hrow) h')⟩
  rw [List.length_append, rowsI_app, ← hn]; exact hown
theorem allO_one {B : Nat} {w : World} {d : Pl} {f : FI} (h : PlO B w d f) : AllO B w [d] [f] := ⟨h, trivial⟩
theorem CodeRow.form {B : Nat} {w : World} {v : Value} {ds : List Pl} {fs : List FI} (h : CodeRow B w v ds fs) : ∃ a c, v = .slice a ds.length c ∧ ds.length ≤ c := by
  rcases h.1.2 with ⟨e, e0⟩ | ⟨g, cap, cur, e, -, -, hle, -⟩
  · exact ⟨none, 0, by rw [e, e0], by omega⟩
  · exact ⟨_, _, e, hle⟩
theorem CodeRow.addr {B : Nat} {w : World} {a : Option Addr} {n c : Nat} {ds : List Pl} {fs : List FI} (h : CodeRow B w (.slice a n c) ds fs) (h0 : 0 < ds.length) : ∃ g, a = some ⟨g, 0, none⟩ ∧ n = ds.length ∧ n ≤ c ∧ B ≤ g ∧ g < w.heap.size := by
  rcases h.1.2 with ⟨e, e0⟩ | ⟨g, cap, cur, e, hb, hg, hle, -⟩
  · omega
  · obtain ⟨rfl, rfl, rfl⟩ : a = some ⟨g, 0, none⟩ ∧ n = ds.length ∧ c = cap := by simpa using e
    exact ⟨g, rfl, rfl, hle, hb, (Array.getElem?_eq_some_iff.1 hg).1⟩
/-- A place's field is changed. -/
theorem rowsW_set : ∀ (fs : List FI) (k : Nat) (h : k < fs.length) (f : FI) (j : Nat) (u : Value), j < 4 → cells4 f = (cells4 fs[k]).set j u → rowsI (fs.set k f) = (rowsI fs).set (k * 4 + j) u
  | [], k, h, f, j, u, hj, e => by simp at h
  | x :: r, 0, h, f, j, u, hj, e => by
    simp only [List.getElem_cons_zero] at e
    show cells4 f ++ rowsI r = (cells4 x ++ rowsI r).set (0 * 4 + j) u
    rw [e, Nat.zero_mul, Nat.zero_add, List.set_append_left _ _ (by show j < 4; exact hj)]
  | x :: r, k + 1, h, f, j, u, hj, e => by
    simp only [List.getElem_cons_succ] at e
    show cells4 x ++ rowsI (r.set k f) = (cells4 x ++ rowsI r).set ((k + 1) * 4 + j) u
    rw [rowsW_set r k (by simpa using h) f j u hj e, show (k + 1) * 4 + j = 4 + (k * 4 + j) from by omega]
    rw [List.set_append_right _ _ (by show 4 ≤ 4 + (k * 4 + j); omega)]
    congr 1
    show (rowsI r).set (k * 4 + j) u = (rowsI r).set (4 + (k * 4 + j) - 4) u
    congr 1
    omega
theorem allW_set {B : Nat} {w : World} : ∀ {ds : List Pl} {fs : List FI}, AllO B w ds fs → ∀ (k : Nat) {d : Pl} {f : FI}, PlO B w d f → AllO B w (ds.set k d) (fs.set k f)
  | [], [], _, k, d, f, h => trivial
  | _ :: _, _ :: _, hh, 0, d, f, h => ⟨h, hh.2⟩
  | _ :: _, _ :: _, hh, k + 1, d, f, h => ⟨hh.1, allW_set hh.2 k h⟩
theorem CodeRow.set {B : Nat} {w : World} {g n c : Nat} {ds : List Pl} {fs : List FI} (h : CodeRow B w (.slice (some ⟨g, 0, none⟩) n c) ds fs) (hn : n = ds.length) (k : Nat) (hk : k < fs.length) (d : Pl) (f : FI) (j : Nat) (u : Value) (hj : j < 4) (e : cells4 f = (cells4 fs[k]).set j u) (hd : PlO B w d f) :
    CodeRow B (w.setCell ⟨g, k * 4 + j, none⟩ u) (.slice (some ⟨g, 0, none⟩) n c) (ds.set k d) (fs.set k f) ∧ w.grownBy (w.setCell ⟨g, k * 4 + j, none⟩ u) (some g) := by
  have h1 := h.1
  rw [← hn] at h1
  obtain ⟨a, b⟩ := h1.stored (k * 4 + j) u
  have hrow : ∀ b, some g = some b → ∃ cur, w.heap[b]? = some (.cells cur tI (0, 0)) := fun b e => (owns_typed h1 (by rw [← e]; rfl)).2
  refine ⟨⟨?_, allO_imp (fun _ _ k => k.kept b hrow) (allW_set h.2 k hd)⟩, b⟩
  rw [List.length_set, ← hn, rowsW_set fs k hk f j u hj e]
  exact a
theorem allO_take {B : Nat} {w : World} : ∀ {ds : List Pl} {fs : List FI} (k : Nat), AllO B w ds fs → AllO B w (ds.take k) (fs.take k)
  | [], [], k, h => by simp; trivial
  | _ :: _, _ :: _, 0, h => trivial
  | _ :: _, _ :: _, k + 1, h => ⟨h.1, allO_take k h.2⟩
theorem allO_drop {B : Nat} {w : World} : ∀ {ds : List Pl} {fs : List FI} (k : Nat), AllO B w ds fs → AllO B w (ds.drop k) (fs.drop k)
  | [], [], k, h => by simp; trivial
  | _ :: _, _ :: _, 0, h => h
  | _ :: _, _ :: _, k + 1, h => allO_drop k h.2
theorem rowsI_take (fs : List FI) : ∀ (k : Nat), rowsI (fs.take k) = (rowsI fs).take (k * 4) := by
  induction fs with
  | nil => intro k; simp [rowsI]
  | cons x r ih =>
    intro k
    cases k with
    | zero => simp [rowsI]
    | succ k =>
      show cells4 x ++ rowsI (r.take k) = (cells4 x ++ rowsI r).take ((k + 1) * 4)
      rw [ih k, show (k + 1) * 4 = 4 + k * 4 from by omega]
      rw [List.take_append]
      show _ = (cells4 x).take (4 + k * 4) ++ (rowsI r).take (4 + k * 4 - 4)
      rw [List.take_of_length_le (l := cells4 x) (by show 4 ≤ 4 + k * 4; omega), show 4 + k * 4 - 4 = k * 4 from by omega]
theorem rowsI_drop (fs : List FI) : ∀ (k : Nat), rowsI (fs.drop k) = (rowsI fs).drop (k * 4) := by
  induction fs with
  | nil => intro k; simp [rowsI]
  | cons x r ih =>
    intro k
    cases k with
    | zero => simp
    | succ k =>
      show rowsI (r.drop k) = (cells4 x ++ rowsI r).drop ((k + 1) * 4)
      rw [ih k, show (k + 1) * 4 = 4 + k * 4 from by omega, List.drop_append]
      show _ = (cells4 x).drop (4 + k * 4) ++ (rowsI r).drop (4 + k * 4 - 4)
      rw [List.drop_of_length_le (l := cells4 x) (by show 4 ≤ 4 + k * 4; omega), List.nil_append, show 4 + k * 4 - 4 = k * 4 from by omega]
/-- A drawn program within bounds. -/
def SmW (ds : List Pl) (n : Nat) : Prop := ds.length ≤ n ∧ ∀ d ∈ ds, d.nm.size ≤ 8 ∧ d.ms.length ≤ 5
theorem SmW.small {ds : List Pl} {n : Nat} (h : SmW ds n) : ∀ d ∈ ds, SmallP d := fun d hd => by have := h.2 d hd; exact ⟨by omega, by omega⟩
theorem SmW.snoc {ds : List Pl} {n : Nat} (h : SmW ds n) {d : Pl} (hd : d.nm.size ≤ 8 ∧ d.ms.length ≤ 5) : SmW (ds ++ [d]) (n + 1) := by
  refine ⟨by rw [List.length_append, List.length_singleton]; have := h.1; omega, fun x hx => ?_⟩
  rcases List.mem_append.1 hx with h1 | h1
  · exact h.2 x h1
  · simp at h1; rw [h1]; exact hd
theorem SmW.set {ds : List Pl} {n : Nat} (h : SmW ds n) (k : Nat) {d : Pl} (hd : d.nm.size ≤ 8 ∧ d.ms.length ≤ 5) : SmW (ds.set k d) n := by
  refine ⟨by rw [List.length_set]; exact h.1, fun x hx => ?_⟩
  rcases List.mem_or_eq_of_mem_set hx with h1 | h1
  · exact h.2 x h1
  · rw [h1]; exact hd
theorem SmW.cut {ds : List Pl} {n : Nat} (h : SmW ds n) (k j : Nat) (hj : k ≤ j) : SmW (ds.take k ++ ds.drop j) n := by
  refine ⟨by rw [List.length_append, List.length_take, List.length_drop]; have := h.1; omega, fun x hx => ?_⟩
  rcases List.mem_append.1 hx with h1 | h1
  · exact h.2 x (List.mem_of_mem_take h1)
  · exact h.2 x (List.mem_of_mem_drop h1)
end Go.Proofs.YtjphjnopdlfplaaGreatDoor
