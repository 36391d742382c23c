/-
  The kids of a rule in a row of one's own; no law is proved here.
-/
import Derived.Test.YtemjooejfmkkbaaGreatDoorRuleFits
import Derived.OwnWalk
import Derived.Deep.AppendLies
namespace Go.Proofs.YtemjooejfmkkbaaGreatDoor
open Go.RowKit
set_option linter.unusedVariables false
set_option linter.unusedSimpArgs false

def rowR (f : Fld) : List Value := [.int .i64 f.op, .int .i64 f.num, .string f.name, .slice f.ka f.kl f.kc, .slice f.ma f.ml f.mc]
def rowsR (fs : List Fld) : List Value := fs.flatMap rowR
theorem rowsR_len (fs : List Fld) : (rowsR fs).length = fs.length * 5 := by
  unfold rowsR
  induction fs with
  | nil => rfl
  | cons f r ih => rw [List.flatMap_cons, List.length_append, ih]; simp [rowR]; omega
theorem rowsR_get (fs : List Fld) (i m : Nat) (h : i < fs.length) (hm : m < 5) : (rowsR fs)[i * 5 + m]? = (rowR fs[i])[m]? := by
  induction fs generalizing i with
  | nil => simp at h
  | cons f r ih =>
    unfold rowsR at ih ⊢
    rw [List.flatMap_cons]
    cases i with
    | zero =>
      have : m < (rowR f).length := by simp [rowR]; omega
      rw [Nat.zero_mul, Nat.zero_add, List.getElem?_append_left this]; rfl
    | succ i =>
      have e : (i + 1) * 5 + m = (rowR f).length + (i * 5 + m) := by simp [rowR]; omega
      rw [e, List.getElem?_append_right (by omega), Nat.add_sub_cancel_left, ih i (by simpa using h)]
      rfl
theorem rowsR_snoc (fs : List Fld) (f : Fld) : rowsR fs ++ rowR f = rowsR (fs ++ [f]) := by simp [rowsR]
theorem infoRuleK : (Tryz.prog.info? 38).map (fun i => (i.zero, i.size, i.bytes)) = some (some (.agg #[.int .i64 0, .int .i64 0, .string ⟨#[]⟩, .slice none 0 0, .slice none 0 0]), 5, 80) := by kernel_rfl
/-- Kids in a row of one's own, what is in them in memory from B on that is not the row's. -/
def KidsO (B : Nat) (w : World) (v : Value) (ts : List Tr) : Prop :=
  ∃ fs : List Fld, fs.length = ts.length ∧ w.ownsRow B 38 5 v ts.length (rowsR fs) ∧ ∀ j, (h : j < ts.length) → ∃ f, fs[j]? = some f ∧ TrF (fun x => B ≤ x ∧ v.ownBlock ≠ some x) w ts[j] f
theorem kidsO_nil (B : Nat) (w : World) : KidsO B w (.slice none 0 0) [] := ⟨[], rfl, World.ownsRow_nil _ _ _ _, fun j h => by simp at h⟩
theorem own_rowKept {w w' : World} {B : Nat} {e : TypeId} {z : Nat} {v : Value} {n : Nat} {xs : List Value} {row : Option Nat} (h : w.ownsRow B e z v n xs) (hg : w.grownBy w' row) (hr : ∀ b, row = some b → v.ownBlock ≠ some b) : w'.ownsRow B e z v n xs := by
  refine h.kept hg ?_
  cases hb : v.ownBlock with
  | none => exact Or.inl rfl
  | some b => exact Or.inr fun e => hr b e.symm hb
theorem KidsO.kept {B : Nat} {w w' : World} {v : Value} {ts : List Tr} {row : Option Nat} (h : KidsO B w v ts) (hg : w.grownBy w' row) (hr : ∀ b, row = some b → b < B) : KidsO B w' v ts := by
  obtain ⟨fs, h1, h2, h3⟩ := h
  refine ⟨fs, h1, own_rowKept h2 hg (fun b hb e => by have := (h2.lt b e).1; have := hr b hb; omega), fun j hj => ?_⟩
  obtain ⟨f, e, ht⟩ := h3 j hj
  exact ⟨f, e, ht.kept ⟨hg.size, fun b hb hl => hg.block b hl (fun e => by have := hr b e.symm; have := hb.1; omega)⟩⟩
theorem KidsO.below {B : Nat} {w w' : World} {v : Value} {ts : List Tr} (h : KidsO B w v ts) (hb : Below w.heap.size w w') : KidsO B w' v ts := h.kept (row := none) (grown_any hb) (fun b e => by cases e)
theorem KidsO.mono {B B' : Nat} {w : World} {v : Value} {ts : List Tr} (h : KidsO B w v ts) (hB : B' ≤ B) : KidsO B' w v ts := by
  obtain ⟨fs, h1, h2, h3⟩ := h
  refine ⟨fs, h1, ⟨h2.1, h2.2.imp id fun ⟨g, cap, cur, q1, q2, q3⟩ => ⟨g, cap, cur, q1, Nat.le_trans hB q2, q3⟩⟩, fun j hj => ?_⟩
  obtain ⟨f, e, ht⟩ := h3 j hj
  exact ⟨f, e, TrF.mono (fun b hb => ⟨Nat.le_trans hB hb.1, hb.2⟩) _ _ ht⟩
theorem KidsO.form {B : Nat} {w : World} {v : Value} {ts : List Tr} (h : KidsO B w v ts) : ∃ a c, v = .slice a ts.length c := by
  obtain ⟨fs, h1, h2, h3⟩ := h
  rcases h2.2 with ⟨h, h0⟩ | ⟨g, cap, cur, h, -⟩
  · exact ⟨none, 0, by rw [h, h0]⟩
  · exact ⟨_, _, h⟩
theorem own_cap {w : World} {B : Nat} {e : TypeId} {z n m c : Nat} {a : Option Addr} {xs : List Value} (h : w.ownsRow B e z (.slice a m c) n xs) : m ≤ c := by
  rcases h.2 with ⟨h, h0⟩ | ⟨g, cap, cur, h, -, -, hl, -⟩
  · injection h with h1 h2 h3; omega
  · injection h with h1 h2 h3; omega
/-- .. read as a row of kids. -/
theorem KidsO.rows {B : Nat} {w : World} {a : Option Addr} {n c : Nat} {ts : List Tr} (h : KidsO B w (.slice a n c) ts) : n = ts.length ∧ n ≤ c ∧ RowsT (fun x => B ≤ x) w a ts.length ts := by
  obtain ⟨fs, h1, h2, h3⟩ := h
  have hc := own_cap h2
  rcases h2.2 with ⟨e, e0⟩ | ⟨g, cap, cur, e, hg, hh, -⟩
  · injection e with e1 e2 e3
    subst e1 e2
    exact ⟨e0.symm, hc, rfl, Or.inl e0⟩
  · injection e with e1 e2 e3
    subst e1 e2 e3
    have hgl := (h2.lt g rfl).2
    refine ⟨rfl, hc, rowsT_of hg hgl fun j hj => ?_⟩
    obtain ⟨f, hf, ht⟩ := h3 j hj
    have hjf := (List.getElem?_eq_some_iff.1 hf).1
    have ef : fs[j] = f := (List.getElem?_eq_some_iff.1 hf).2
    have key : ∀ m, m < 5 → w.cell? ⟨g, j * 5 + m, none⟩ = (rowR f)[m]? := fun m hm => by
      rw [h2.cellAt (j * 5 + m) (by omega), rowsR_get fs j m hjf hm, ef]
    refine ⟨f, ⟨?_, ?_, ?_, ?_, ?_⟩, TrF.mono (fun b hb => hb.1) _ _ ht⟩
    · rw [Nat.zero_add]; exact key 0 (by omega)
    · rw [Nat.zero_add]; exact key 1 (by omega)
    · rw [Nat.zero_add]; exact key 2 (by omega)
    · rw [Nat.zero_add]; exact key 3 (by omega)
    · rw [Nat.zero_add]; exact key 4 (by omega)
/-- One more kid behind the others. -/
theorem KidsO.snoc {B : Nat} {w w' : World} {v : Value} {ts : List Tr} {fs : List Fld} {t : Tr} {f : Fld} {g cap : Nat} (h1 : fs.length = ts.length) (h2 : w.ownsRow B 38 5 v ts.length (rowsR fs))
    (h3 : ∀ j, (h : j < ts.length) → ∃ f, fs[j]? = some f ∧ TrF (fun x => B ≤ x ∧ v.ownBlock ≠ some x) w ts[j] f) (ht : TrF (fun x => B ≤ x ∧ v.ownBlock ≠ some x) w t f)
    (hown : w'.ownsRow B 38 5 (.slice (some ⟨g, 0, none⟩) (ts.length + 1) cap) (ts.length + 1) (rowsR fs ++ rowR f)) (hg : w.grownBy w' v.ownBlock) (hat : v.ownBlock = some g ∨ g = w.heap.size) :
    KidsO B w' (.slice (some ⟨g, 0, none⟩) (ts ++ [t]).length cap) (ts ++ [t]) := by
  have hsame : Same (fun x => (B ≤ x ∧ v.ownBlock ≠ some x) ∧ x < w.heap.size) w w' := ⟨hg.size, fun b hb hl => hg.block b hl (fun e => hb.1.2 e.symm)⟩
  have up : ∀ t f, TrF (fun x => B ≤ x ∧ v.ownBlock ≠ some x) w t f → TrF (fun x => B ≤ x ∧ (Value.slice (some ⟨g, 0, none⟩) (ts ++ [t]).length cap).ownBlock ≠ some x) w' t f := fun t f k => by
    refine TrF.mono (fun b hb => ⟨hb.1.1, fun e => ?_⟩) _ _ ((TrF.lt t f k).kept hsame)
    simp [Value.ownBlock] at e
    subst e
    rcases hat with h | h
    · exact hb.1.2 h
    · have := hb.2; omega
  rw [show (ts ++ [t]).length = ts.length + 1 by simp] at *
  refine ⟨fs ++ [f], by simp [h1], by rw [← rowsR_snoc]; simpa using hown, fun j hj => ?_⟩
  by_cases e : j < ts.length
  · obtain ⟨f', e1, e2⟩ := h3 j e
    refine ⟨f', by rw [List.getElem?_append_left (by omega)]; exact e1, ?_⟩
    rw [List.getElem_append_left e]
    exact up _ _ e2
  · have : j = ts.length := by simp at hj; omega
    subst this
    refine ⟨f, by rw [← h1]; simp, ?_⟩
    simp only [List.getElem_append_right (Nat.le_refl _), Nat.sub_self, List.getElem_cons_zero]
    exact up _ _ ht
/-- A kid laid by itself, to be put behind others. -/
theorem one_kid {w : World} (f : Fld) {gx : Nat} (hx : w.heap[gx]? = some (.cells (rowR f).toArray 38 (0, 0))) : ∀ j u, (rowR f)[j]? = some u → w.cell? ((⟨gx, 0, none⟩ : Addr).add j) = some u := by
  intro j u hj
  have e : (⟨gx, 0, none⟩ : Addr).add j = ⟨gx, j, none⟩ := by by_cases h0 : j = 0 <;> simp [Addr.add, h0]
  rw [e]
  unfold World.cell?
  rw [hx]
  simpa using hj
theorem rowR_one (f : Fld) : ∀ u ∈ rowR f, u.oneCell' = true := by
  intro u hu
  simp only [rowR, List.mem_cons, List.not_mem_nil, or_false] at hu
  rcases hu with rfl | rfl | rfl | rfl | rfl <;> rfl
end Go.Proofs.YtemjooejfmkkbaaGreatDoor
