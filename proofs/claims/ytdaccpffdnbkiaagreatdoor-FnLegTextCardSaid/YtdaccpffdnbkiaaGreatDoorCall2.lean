/-
  'x, ok := f(..)' as a region that draws its order, x a leg: what holds between its operations.
-/
import Derived.Test.YtdaccpffdnbkiaaGreatDoorLegRowT
import Derived.Test.YtdaccpffdnbkiaaGreatDoorJ31
import Derived.Test.YtdaccpffdnbkiaaGreatDoorFree
namespace Go.Proofs.YtdaccpffdnbkiaaGreatDoor
open Go.RowKit
set_option linter.unusedVariables false
set_option linter.unusedSimpArgs false

def ZLeg : Array Value := #[.string ⟨#[]⟩, .string ⟨#[]⟩, .string ⟨#[]⟩, .int .i64 0, .int .i64 0, .int .i64 0, .slice none 0 0, .slice none 0 0, .slice none 0 0, .slice none 0 0]
/-- m: the call; m + 1: what it hands back; m + 2, m + 3: its parts; m + 4: the place of the leg; m + 5: it is stored; m + 6: the Bool. All ahead of m is told by S. -/
structure T2 (m N : Nat) (row : Option Nat) (I : Nat → World → Prop) (S : Nat → World → Value → Prop) (G : Nat → Nat → World → LegD → LegP → Bool → Prop) (k : Nat) (L : Nat → Bool) (f : Nat → Value) (W : World) : Prop where
  inv : I k W
  size : N ≤ W.heap.size
  pre : ∀ i, i < m → L i = true → L (m + 5) = false → S i W (f i)
  call : L m = true → L (m + 5) = false → ∃ dd q b lo hi, f m = .tuple #[LegV dd q, .bool b] ∧ N ≤ lo ∧ hi ≤ W.heap.size ∧ G lo hi W dd q b ∧ (L (m + 1) = true → f (m + 1) = f m) ∧ (L (m + 2) = true → f (m + 2) = LegV dd q) ∧
    (L (m + 3) = true → f (m + 3) = .bool b) ∧ (L (m + 6) = true → f (m + 6) = .bool b) ∧ (L (m + 4) = true → ∀ bx, f (m + 4) = .pointer (some ⟨bx, 0, none⟩) → bx < lo ∨ hi ≤ bx)
  al : L (m + 4) = true → L (m + 5) = false → ∃ bx, f (m + 4) = .pointer (some ⟨bx, 0, none⟩) ∧ N ≤ bx ∧ W.heap[bx]? = some (.cells ZLeg 25 (0, 0))
  done : L (m + 5) = true → ∃ bx dd q b lo hi, f (m + 4) = .pointer (some ⟨bx, 0, none⟩) ∧ N ≤ bx ∧ N ≤ lo ∧ hi ≤ W.heap.size ∧ (bx < lo ∨ hi ≤ bx) ∧ LegBx W bx 25 dd q ∧ G lo hi W dd q b ∧ f m = .tuple #[LegV dd q, .bool b] ∧
    (L (m + 1) = true → f (m + 1) = f m) ∧ (L (m + 3) = true → f (m + 3) = .bool b) ∧ (L (m + 6) = true → f (m + 6) = .bool b)
section
variable {m N : Nat} {row : Option Nat} {I : Nat → World → Prop} {S : Nat → World → Value → Prop} {G : Nat → Nat → World → LegD → LegP → Bool → Prop} {k : Nat} {L : Nat → Bool} {f : Nat → Value} {W W' : World}
theorem T2.pre_op (h : T2 m N row I S G k L f W) {i : Nat} {v : Value} (hi : i < m) (hg : W.grownBy W' row) (hrow : ∀ r, row = some r → r < N)
    (hS : ∀ j v, S j W v → S j W' v) (hG : ∀ lo hi dd q b, N ≤ lo → G lo hi W dd q b → G lo hi W' dd q b) (hI : I (k + 1) W') (hv : S i W' v) : T2 m N row I S G (k + 1) (upd L i true) (upd f i v) W' := by
  have u : ∀ {α : Type} (g : Nat → α) (x : α) (j : Nat), m ≤ j → upd g i x j = g j := fun g x j hj => upd_ne g x (by omega)
  have hkeep : ∀ bx, N ≤ bx → bx < W.heap.size → W'.heap[bx]? = W.heap[bx]? := fun bx h1 h2 => hg.block bx h2 (fun e => by have := hrow bx e.symm; omega)
  refine ⟨hI, Nat.le_trans h.size hg.size, ?_, ?_, ?_, ?_⟩
  · intro j hj hL h5
    rw [u _ _ _ (by omega)] at h5
    by_cases e : j = i
    · subst e; rw [upd_self]; exact hv
    · rw [upd_ne _ _ e] at hL ⊢; exact hS _ _ (h.pre j hj hL h5)
  · rw [u _ _ _ (by omega), u _ _ _ (by omega)]
    intro a b
    obtain ⟨dd, q, bb, lo, hi2, q1, q2, q3, q4, q5, q6, q7, q8, q9⟩ := h.call a b
    refine ⟨dd, q, bb, lo, hi2, by rw [u _ _ _ (by omega)]; exact q1, q2, Nat.le_trans q3 hg.size, hG _ _ _ _ _ q2 q4, ?_, ?_, ?_, ?_, ?_⟩
    · rw [u _ _ _ (by omega), u _ _ _ (by omega), u _ _ _ (by omega)]; exact q5
    · rw [u _ _ _ (by omega), u _ _ _ (by omega)]; exact q6
    · rw [u _ _ _ (by omega), u _ _ _ (by omega)]; exact q7
    · rw [u _ _ _ (by omega), u _ _ _ (by omega)]; exact q8
    · rw [u _ _ _ (by omega), u _ _ _ (by omega)]; exact q9
  · rw [u _ _ _ (by omega), u _ _ _ (by omega), u _ _ _ (by omega)]
    intro a b
    obtain ⟨bx, q1, q2, q3⟩ := h.al a b
    exact ⟨bx, q1, q2, (hkeep bx q2 (lt_heap q3)).trans q3⟩
  · rw [u _ _ _ (by omega), u _ _ _ (by omega), u _ _ _ (by omega), u _ _ _ (by omega), u _ _ _ (by omega), u _ _ _ (by omega), u _ _ _ (by omega), u _ _ _ (by omega), u _ _ _ (by omega)]
    intro a
    obtain ⟨bx, dd, q, bb, lo, hi2, q1, q2, q3, q4, q5, q6, q7, q8⟩ := h.done a
    exact ⟨bx, dd, q, bb, lo, hi2, q1, q2, q3, Nat.le_trans q4 hg.size, q5, (hkeep bx q2 (lt_heap q6)).trans q6, hG _ _ _ _ _ q3 q7, q8⟩
theorem T2.call_op (h : T2 m N row I S G k L f W) {dd : LegD} {q : LegP} {b : Bool} (h1 : L (m + 1) = false) (h2 : L (m + 2) = false) (h3 : L (m + 3) = false) (h5 : L (m + 5) = false) (h6 : L (m + 6) = false)
    (hg : W.grownBy W' row) (hrow : ∀ r, row = some r → r < N) (hS : ∀ j v, S j W v → S j W' v) (hI : I (k + 1) W') (hG : G W.heap.size W'.heap.size W' dd q b) :
    T2 m N row I S G (k + 1) (upd L m true) (upd f m (.tuple #[LegV dd q, .bool b])) W' := by
  have u : ∀ {α : Type} (g : Nat → α) (x : α) (j : Nat), j ≠ m → upd g m x j = g j := fun g x j hj => upd_ne g x hj
  have hkeep : ∀ bx, N ≤ bx → bx < W.heap.size → W'.heap[bx]? = W.heap[bx]? := fun bx h1 h2 => hg.block bx h2 (fun e => by have := hrow bx e.symm; omega)
  refine ⟨hI, Nat.le_trans h.size hg.size, ?_, ?_, ?_, ?_⟩
  · intro j hj hL hx
    rw [u _ _ _ (by omega)] at hL hx ⊢
    exact hS _ _ (h.pre j hj hL hx)
  · intro _ _
    refine ⟨dd, q, b, _, _, upd_self _ _ _, h.size, Nat.le_refl _, hG, ?_, ?_, ?_, ?_, ?_⟩
    · rw [u _ _ _ (by omega), h1]; exact fun a => by cases a
    · rw [u _ _ _ (by omega), h2]; exact fun a => by cases a
    · rw [u _ _ _ (by omega), h3]; exact fun a => by cases a
    · rw [u _ _ _ (by omega), h6]; exact fun a => by cases a
    · rw [u _ _ _ (by omega), u _ _ _ (by omega)]
      intro a bx hb
      obtain ⟨by_, q1, q2, q3⟩ := h.al a h5
      rw [q1] at hb
      have e : by_ = bx := by simpa using hb
      subst e
      exact .inl (lt_heap q3)
  · rw [u _ _ _ (by omega), u _ _ _ (by omega), u _ _ _ (by omega)]
    intro a b
    obtain ⟨bx, q1, q2, q3⟩ := h.al a b
    exact ⟨bx, q1, q2, (hkeep bx q2 (lt_heap q3)).trans q3⟩
  · rw [u _ _ _ (by omega), h5]; exact fun a => by cases a
theorem T2.mv (h : T2 m N row I S G k L f W) (hm : L m = true) (hI : I (k + 1) W) : T2 m N row I S G (k + 1) (upd L (m + 1) true) (upd f (m + 1) (f m)) W := by
  have u : ∀ {α : Type} (g : Nat → α) (x : α) (j : Nat), j ≠ m + 1 → upd g (m + 1) x j = g j := fun g x j hj => upd_ne g x hj
  refine ⟨hI, h.size, ?_, ?_, ?_, ?_⟩
  · intro j hj hL hx
    rw [u _ _ _ (by omega)] at hL hx ⊢
    exact h.pre j hj hL hx
  · rw [u _ _ _ (by omega), u _ _ _ (by omega)]
    intro a b
    obtain ⟨dd, q, bb, lo, hi2, q1, q2, q3, q4, q5, q6, q7, q8, q9⟩ := h.call a b
    refine ⟨dd, q, bb, lo, hi2, by rw [u _ _ _ (by omega)]; exact q1, q2, q3, q4, ?_, ?_, ?_, ?_, ?_⟩
    · exact fun _ => by rw [upd_self, u _ _ m (by omega)]
    · rw [u _ _ _ (by omega), u _ _ _ (by omega)]; exact q6
    · rw [u _ _ _ (by omega), u _ _ _ (by omega)]; exact q7
    · rw [u _ _ _ (by omega), u _ _ _ (by omega)]; exact q8
    · rw [u _ _ _ (by omega), u _ _ _ (by omega)]; exact q9
  · rw [u _ _ _ (by omega), u _ _ _ (by omega), u _ _ _ (by omega)]; exact h.al
  · rw [u _ _ _ (by omega)]
    intro a
    obtain ⟨bx, dd, q, bb, lo, hi2, q1, q2, q3, q4, q5, q6, q7, q8, q9, q10, q11⟩ := h.done a
    refine ⟨bx, dd, q, bb, lo, hi2, by rw [u _ _ _ (by omega)]; exact q1, q2, q3, q4, q5, q6, q7, by rw [u _ _ _ (by omega)]; exact q8, ?_, ?_, ?_⟩
    · exact fun _ => by rw [upd_self, u _ _ m (by omega)]
    · rw [u _ _ _ (by omega), u _ _ _ (by omega)]; exact q10
    · rw [u _ _ _ (by omega), u _ _ _ (by omega)]; exact q11
theorem T2.ex0 (h : T2 m N row I S G k L f W) (hm : L m = true) (h1 : L (m + 1) = true) (h5 : L (m + 5) = false) (hI : I (k + 1) W) : ∃ dd q b, f (m + 1) = .tuple #[LegV dd q, .bool b] ∧
    T2 m N row I S G (k + 1) (upd L (m + 2) true) (upd f (m + 2) (LegV dd q)) W := by
  have u : ∀ {α : Type} (g : Nat → α) (x : α) (j : Nat), j ≠ m + 2 → upd g (m + 2) x j = g j := fun g x j hj => upd_ne g x hj
  obtain ⟨dd, q, bb, lo, hi2, q1, q2, q3, q4, q5, q6, q7, q8, q9⟩ := h.call hm h5
  refine ⟨dd, q, bb, by rw [q5 h1, q1], hI, h.size, ?_, ?_, ?_, ?_⟩
  · intro j hj hL hx
    rw [u _ _ _ (by omega)] at hL hx ⊢
    exact h.pre j hj hL hx
  · intro _ _
    refine ⟨dd, q, bb, lo, hi2, by rw [u _ _ _ (by omega)]; exact q1, q2, q3, q4, ?_, fun _ => upd_self _ _ _, ?_, ?_, ?_⟩
    · rw [u _ _ _ (by omega), u _ _ _ (by omega), u _ _ _ (by omega)]; exact q5
    · rw [u _ _ _ (by omega), u _ _ _ (by omega)]; exact q7
    · rw [u _ _ _ (by omega), u _ _ _ (by omega)]; exact q8
    · rw [u _ _ _ (by omega), u _ _ _ (by omega)]; exact q9
  · rw [u _ _ _ (by omega), u _ _ _ (by omega), u _ _ _ (by omega)]; exact h.al
  · rw [u _ _ _ (by omega), h5]; exact fun a => by cases a
theorem T2.bool (h : T2 m N row I S G k L f W) (hm : L m = true) : ∃ dd q b, f m = .tuple #[LegV dd q, .bool b] ∧ (L (m + 1) = true → f (m + 1) = .tuple #[LegV dd q, .bool b]) ∧ (L (m + 3) = true → f (m + 3) = .bool b) := by
  cases h5 : L (m + 5) with
  | false =>
    obtain ⟨dd, q, bb, lo, hi2, q1, q2, q3, q4, q5, q6, q7, q8, q9⟩ := h.call hm h5
    exact ⟨dd, q, bb, q1, fun x => by rw [q5 x, q1], q7⟩
  | true =>
    obtain ⟨bx, dd, q, bb, lo, hi2, q1, q2, q3, q4, q5, q6, q7, q8, q9, q10, q11⟩ := h.done h5
    exact ⟨dd, q, bb, q8, fun x => by rw [q9 x, q8], q10⟩
theorem T2.ex1 (h : T2 m N row I S G k L f W) (hm : L m = true) {dd : LegD} {q : LegP} {b : Bool} (hf : f m = .tuple #[LegV dd q, .bool b]) {j : Nat} (hj : j = m + 3 ∨ j = m + 6) (hI : I (k + 1) W) :
    T2 m N row I S G (k + 1) (upd L j true) (upd f j (.bool b)) W := by
  have u : ∀ {α : Type} (g : Nat → α) (x : α) (i : Nat), i ≠ m + 3 → i ≠ m + 6 → upd g j x i = g i := fun g x i h1 h2 => upd_ne g x (by rcases hj with e | e <;> omega)
  have hb : ∀ {dd' : LegD} {q' : LegP} {b' : Bool}, f m = .tuple #[LegV dd' q', .bool b'] → b' = b := fun e => by
    rw [hf] at e
    simp at e
    exact e.2.symm
  have hbool : ∀ i b', (i = m + 3 ∨ i = m + 6) → b' = b → (L i = true → f i = .bool b') → upd L j true i = true → upd f j (.bool b) i = .bool b' := by
    intro i b' hi e q hL
    subst e
    by_cases hij : i = j
    · subst hij; exact upd_self _ _ _
    · rw [upd_ne _ _ hij] at hL ⊢; exact q hL
  refine ⟨hI, h.size, ?_, ?_, ?_, ?_⟩
  · intro i hi hL hx
    rw [u _ _ _ (by omega) (by omega)] at hL hx ⊢
    exact h.pre i hi hL hx
  · rw [u _ _ _ (by omega) (by omega), u _ _ _ (by omega) (by omega)]
    intro a b
    obtain ⟨dd, q, bb, lo, hi2, q1, q2, q3, q4, q5, q6, q7, q8, q9⟩ := h.call a b
    refine ⟨dd, q, bb, lo, hi2, by rw [u _ _ _ (by omega) (by omega)]; exact q1, q2, q3, q4, ?_, ?_, hbool _ _ (.inl rfl) (hb q1) q7, hbool _ _ (.inr rfl) (hb q1) q8, ?_⟩
    · rw [u _ _ _ (by omega) (by omega), u _ _ _ (by omega) (by omega), u _ _ _ (by omega) (by omega)]; exact q5
    · rw [u _ _ _ (by omega) (by omega), u _ _ _ (by omega) (by omega)]; exact q6
    · rw [u _ _ _ (by omega) (by omega), u _ _ _ (by omega) (by omega)]; exact q9
  · rw [u _ _ _ (by omega) (by omega), u _ _ _ (by omega) (by omega), u _ _ _ (by omega) (by omega)]; exact h.al
  · rw [u _ _ _ (by omega) (by omega)]
    intro a
    obtain ⟨bx, dd, q, bb, lo, hi2, q1, q2, q3, q4, q5, q6, q7, q8, q9, q10, q11⟩ := h.done a
    refine ⟨bx, dd, q, bb, lo, hi2, by rw [u _ _ _ (by omega) (by omega)]; exact q1, q2, q3, q4, q5, q6, q7, by rw [u _ _ _ (by omega) (by omega)]; exact q8, ?_, hbool _ _ (.inl rfl) (hb q8) q10, hbool _ _ (.inr rfl) (hb q8) q11⟩
    rw [u _ _ _ (by omega) (by omega), u _ _ _ (by omega) (by omega), u _ _ _ (by omega) (by omega)]; exact q9
theorem T2.alloc (h : T2 m N row I S G k L f W) (h4 : L (m + 4) = false) (h5 : L (m + 5) = false) (hS : ∀ j v, S j W v → S j (W.alloc (.cells ZLeg 25)) v)
    (hG : ∀ lo hi dd q b, N ≤ lo → G lo hi W dd q b → G lo hi (W.alloc (.cells ZLeg 25)) dd q b) (hI : I (k + 1) (W.alloc (.cells ZLeg 25))) :
    T2 m N row I S G (k + 1) (upd L (m + 4) true) (upd f (m + 4) (.pointer (some ⟨W.heap.size, 0, none⟩))) (W.alloc (.cells ZLeg 25)) := by
  have u : ∀ {α : Type} (g : Nat → α) (x : α) (j : Nat), j ≠ m + 4 → upd g (m + 4) x j = g j := fun g x j hj => upd_ne g x hj
  have hsz : W.heap.size ≤ (W.alloc (.cells ZLeg 25)).heap.size := by simp
  refine ⟨hI, Nat.le_trans h.size hsz, ?_, ?_, ?_, ?_⟩
  · intro j hj hL hx
    rw [u _ _ _ (by omega)] at hL hx ⊢
    exact hS _ _ (h.pre j hj hL hx)
  · rw [u _ _ _ (by omega), u _ _ _ (by omega)]
    intro a b
    obtain ⟨dd, q, bb, lo, hi2, q1, q2, q3, q4, q5, q6, q7, q8, q9⟩ := h.call a b
    refine ⟨dd, q, bb, lo, hi2, by rw [u _ _ _ (by omega)]; exact q1, q2, Nat.le_trans q3 hsz, hG _ _ _ _ _ q2 q4, ?_, ?_, ?_, ?_, ?_⟩
    · rw [u _ _ _ (by omega), u _ _ _ (by omega), u _ _ _ (by omega)]; exact q5
    · rw [u _ _ _ (by omega), u _ _ _ (by omega)]; exact q6
    · rw [u _ _ _ (by omega), u _ _ _ (by omega)]; exact q7
    · rw [u _ _ _ (by omega), u _ _ _ (by omega)]; exact q8
    · rw [upd_self, upd_self]
      intro _ bx e
      have e' : W.heap.size = bx := by simpa using e
      subst e'
      exact .inr q3
  · rw [upd_self, upd_self]
    exact fun _ _ => ⟨_, rfl, h.size, heap_alloc_new W _⟩
  · rw [u _ _ _ (by omega), h5]; exact fun a => by cases a
theorem T2.store (h : T2 m N row I S G k L f W) (hm : L m = true) (h2 : L (m + 2) = true) (h4 : L (m + 4) = true) (h5 : L (m + 5) = false) :
    ∃ bx dd q, f (m + 4) = .pointer (some ⟨bx, 0, none⟩) ∧ f (m + 2) = LegV dd q ∧ N ≤ bx ∧ W.heap[bx]? = some (.cells ZLeg 25 (0, 0)) ∧
      ∀ v, (∀ lo hi b, N ≤ lo → bx < lo ∨ hi ≤ bx → G lo hi W dd q b → G lo hi (W.setRow bx (LegC dd q)) dd q b) → I (k + 1) (W.setRow bx (LegC dd q)) → T2 m N row I S G (k + 1) (upd L (m + 5) true) (upd f (m + 5) v) (W.setRow bx (LegC dd q)) := by
  have u : ∀ {α : Type} (g : Nat → α) (x : α) (j : Nat), j ≠ m + 5 → upd g (m + 5) x j = g j := fun g x j hj => upd_ne g x hj
  obtain ⟨dd, q, bb, lo, hi2, q1, q2, q3, q4, q5, q6, q7, q8, q9⟩ := h.call hm h5
  obtain ⟨bx, r1, r2, r3⟩ := h.al h4 h5
  refine ⟨bx, dd, q, r1, q6 h2, r2, r3, fun v hG hI => ⟨hI, by simpa using h.size, ?_, ?_, ?_, ?_⟩⟩
  · rw [upd_self]; exact fun _ _ _ a => by cases a
  · rw [upd_self]; exact fun _ a => by cases a
  · rw [upd_self]; exact fun _ a => by cases a
  · intro _
    refine ⟨bx, dd, q, bb, lo, hi2, by rw [u _ _ _ (by omega)]; exact r1, r2, q2, by simpa using q3, q9 h4 bx r1, setRow_heap W bx _ _ _ _ r3, hG _ _ _ q2 (q9 h4 bx r1) q4, by rw [u _ _ _ (by omega)]; exact q1, ?_, ?_, ?_⟩
    · rw [u _ _ _ (by omega), u _ _ _ (by omega), u _ _ _ (by omega)]; exact q5
    · rw [u _ _ _ (by omega), u _ _ _ (by omega)]; exact q7
    · rw [u _ _ _ (by omega), u _ _ _ (by omega)]; exact q8
theorem T2.pre_id (h : T2 m N row I S G k L f W) {i : Nat} {v : Value} (hi : i < m) (hrow : ∀ r, row = some r → r < N) (hI : I (k + 1) W) (hv : S i W v) : T2 m N row I S G (k + 1) (upd L i true) (upd f i v) W :=
  h.pre_op hi ⟨rfl, rfl, rfl, Nat.le_refl _, fun _ _ _ => rfl⟩ hrow (fun _ _ h => h) (fun _ _ _ _ _ _ h => h) hI hv
end
end Go.Proofs.YtdaccpffdnbkiaaGreatDoor
