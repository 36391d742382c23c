/-
  Rules as trees: what a rule in memory reads as.
-/
import Derived.Test.YtgoaajnppadmjaaGreatDoorBase
namespace Go.Proofs.YtgoaajnppadmjaaGreatDoor
open Go.RowKit
set_option linter.unusedVariables false

inductive Tr where
  | node (op num : Int) (name : ByteArray) (kids : List Tr) (marks : List (Int × Int)) : Tr
def Tr.op : Tr → Int | .node o _ _ _ _ => o
def Tr.num : Tr → Int | .node _ n _ _ _ => n
def Tr.name : Tr → ByteArray | .node _ _ s _ _ => s
def Tr.kids : Tr → List Tr | .node _ _ _ k _ => k
def Tr.marks : Tr → List (Int × Int) | .node _ _ _ _ m => m

/-- Marks in memory, of blocks that are told of. -/
def MarksN (N : Nat → Prop) (w : World) (a : Option Addr) (len : Nat) (ms : List (Int × Int)) : Prop :=
  len = ms.length ∧ (len = 0 ∨ ∃ b off, a = some ⟨b, off, none⟩ ∧ N b ∧ b < w.heap.size ∧ ∀ i, i < len → w.cell? ⟨b, off + i * 2, none⟩ = some (.int .i64 (ms.getD i (0, 0)).1) ∧ w.cell? ⟨b, off + i * 2 + 1, none⟩ = some (.int .i64 (ms.getD i (0, 0)).2))

/-- The five fields of a rule. -/
structure Fld where
  op : Int
  num : Int
  name : ByteArray
  ka : Option Addr
  kl : Nat
  kc : Nat
  ma : Option Addr
  ml : Nat
  mc : Nat
def Fld.val (f : Fld) : Value := .agg #[.int .i64 f.op, .int .i64 f.num, .string f.name, .slice f.ka f.kl f.kc, .slice f.ma f.ml f.mc]
def CellsF (w : World) (b o : Nat) (f : Fld) : Prop :=
  w.cell? ⟨b, o, none⟩ = some (.int .i64 f.op) ∧ w.cell? ⟨b, o + 1, none⟩ = some (.int .i64 f.num) ∧ w.cell? ⟨b, o + 2, none⟩ = some (.string f.name) ∧ w.cell? ⟨b, o + 3, none⟩ = some (.slice f.ka f.kl f.kc) ∧ w.cell? ⟨b, o + 4, none⟩ = some (.slice f.ma f.ml f.mc)

mutual
def TrF (N : Nat → Prop) (w : World) : Tr → Fld → Prop
  | .node o n s ks ms, f => f.op = o ∧ f.num = n ∧ f.name = s ∧ f.kl = ks.length ∧ (f.kl ≤ f.kc ∧ f.ml ≤ f.mc) ∧ MarksN N w f.ma f.ml ms ∧ (ks.length = 0 ∨ ∃ b off, f.ka = some ⟨b, off, none⟩ ∧ N b ∧ b < w.heap.size ∧ RowF N w b off ks 0)
def RowF (N : Nat → Prop) (w : World) (b off : Nat) : List Tr → Nat → Prop
  | [], _ => True
  | t :: r, i => (∃ f, CellsF w b (off + i * 5) f ∧ TrF N w t f) ∧ RowF N w b off r (i + 1)
end

theorem rowF_get {N : Nat → Prop} {w : World} {b off : Nat} : ∀ (ks : List Tr) (i j : Nat), RowF N w b off ks i → (h : j < ks.length) → ∃ f, CellsF w b (off + (i + j) * 5) f ∧ TrF N w (ks[j]) f
  | [], i, j, _, h => by simp at h
  | t :: r, i, 0, hr, h => by
    rw [RowF] at hr
    simpa using hr.1
  | t :: r, i, j + 1, hr, h => by
    rw [RowF] at hr
    have := rowF_get r (i + 1) j hr.2 (by simpa using h)
    simpa [Nat.add_assoc, Nat.add_comm 1 j] using this
theorem rowF_of {N : Nat → Prop} {w : World} {b off : Nat} : ∀ (ks : List Tr) (i : Nat), (∀ j, (h : j < ks.length) → ∃ f, CellsF w b (off + (i + j) * 5) f ∧ TrF N w (ks[j]) f) → RowF N w b off ks i
  | [], i, _ => by rw [RowF]; trivial
  | t :: r, i, h => by
    rw [RowF]
    refine ⟨by have h0 := h 0 (by simp); rw [Nat.add_zero] at h0; exact h0, rowF_of r (i + 1) fun j hj => ?_⟩
    have := h (j + 1) (by simpa using hj)
    simpa [Nat.add_assoc, Nat.add_comm 1 j] using this

/-- The blocks that N tells of are as they were. -/
def Same (N : Nat → Prop) (w w' : World) : Prop := w.heap.size ≤ w'.heap.size ∧ ∀ b, N b → b < w.heap.size → w'.heap[b]? = w.heap[b]?
theorem MarksN.kept {N : Nat → Prop} {w w' : World} {a : Option Addr} {len : Nat} {ms : List (Int × Int)} (h : MarksN N w a len ms) (s : Same N w w') : MarksN N w' a len ms := by
  obtain ⟨h1, h2⟩ := h
  refine ⟨h1, ?_⟩
  rcases h2 with h | ⟨b, off, k1, k2, k3, k4⟩
  · exact Or.inl h
  · have e := s.2 b k2 k3
    exact Or.inr ⟨b, off, k1, k2, Nat.lt_of_lt_of_le k3 s.1, fun i hi => ⟨(World.cell?_of_block (a := ⟨b, off + i * 2, none⟩) e).trans (k4 i hi).1, (World.cell?_of_block (a := ⟨b, off + i * 2 + 1, none⟩) e).trans (k4 i hi).2⟩⟩
theorem CellsF.kept {w w' : World} {b o : Nat} {f : Fld} (h : CellsF w b o f) (e : w'.heap[b]? = w.heap[b]?) : CellsF w' b o f := by
  obtain ⟨h0, h1, h2, h3, h4⟩ := h
  exact ⟨(World.cell?_of_block (a := ⟨b, o, none⟩) e).trans h0, (World.cell?_of_block (a := ⟨b, o + 1, none⟩) e).trans h1, (World.cell?_of_block (a := ⟨b, o + 2, none⟩) e).trans h2, (World.cell?_of_block (a := ⟨b, o + 3, none⟩) e).trans h3, (World.cell?_of_block (a := ⟨b, o + 4, none⟩) e).trans h4⟩
mutual
theorem TrF.kept {N : Nat → Prop} {w w' : World} (s : Same N w w') : ∀ (t : Tr) (f : Fld), TrF N w t f → TrF N w' t f
  | .node o n nm ks ms, f, h => by
    rw [TrF] at h ⊢
    obtain ⟨h1, h2, h3, h4, h7, h5, h6⟩ := h
    refine ⟨h1, h2, h3, h4, h7, h5.kept s, ?_⟩
    rcases h6 with h | ⟨b, off, k1, k2, k3, k4⟩
    · exact Or.inl h
    · exact Or.inr ⟨b, off, k1, k2, Nat.lt_of_lt_of_le k3 s.1, RowF.kept s b off (s.2 b k2 k3) ks 0 k4⟩
theorem RowF.kept {N : Nat → Prop} {w w' : World} (s : Same N w w') (b off : Nat) (e : w'.heap[b]? = w.heap[b]?) : ∀ (ks : List Tr) (i : Nat), RowF N w b off ks i → RowF N w' b off ks i
  | [], i, h => by rw [RowF]; trivial
  | t :: r, i, h => by
    rw [RowF] at h ⊢
    obtain ⟨⟨f, h1, h2⟩, h3⟩ := h
    exact ⟨⟨f, h1.kept e, TrF.kept s t f h2⟩, RowF.kept s b off e r (i + 1) h3⟩
end

mutual
def szT : Tr → Nat
  | .node _ _ s ks ms => s.size + (ks.length + szL ks) + ms.length
def szL : List Tr → Nat
  | [] => 0
  | t :: r => szT t + szL r
end
mutual
def wT : Tr → Nat
  | .node _ _ _ ks _ => 1 + wL ks
def wL : List Tr → Nat
  | [] => 0
  | t :: r => wT t + wL r
end
theorem wL_mem {t : Tr} : ∀ {ks : List Tr}, t ∈ ks → wT t ≤ wL ks
  | [], h => by simp at h
  | x :: r, h => by
    rw [wL]
    rcases List.mem_cons.1 h with rfl | h
    · omega
    · have := wL_mem h; omega
theorem szL_take (ks : List Tr) (k : Nat) (h : k < ks.length) : szL (ks.take (k + 1)) = szL (ks.take k) + szT ks[k] := by
  induction ks generalizing k with
  | nil => simp at h
  | cons x r ih =>
    cases k with
    | zero => simp [szL]
    | succ k => simp only [List.take_succ_cons, szL, List.getElem_cons_succ]; rw [ih k (by simpa using h)]; omega
theorem szL_take_le (ks : List Tr) (k : Nat) : szL (ks.take k) ≤ szL ks := by
  induction ks generalizing k with
  | nil => simp
  | cons x r ih =>
    cases k with
    | zero => simp [szL]
    | succ k => simp only [List.take_succ_cons, szL]; have := ih k; omega
end Go.Proofs.YtgoaajnppadmjaaGreatDoor
