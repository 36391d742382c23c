/-
  Rules in memory: rows of kids, what stays where blocks stay; no law is proved here.
  How many kids an op has: the model's answer.
-/
import Derived.Test.YtemjooejfmkkbaaGreatDoorRuleMath
import Derived.Test.YtemjooejfmkkbaaGreatDoorMarksLaw
namespace Go.Proofs.YtemjooejfmkkbaaGreatDoor
open Go.RowKit
set_option linter.unusedVariables false
set_option linter.unusedSimpArgs false

def All : Nat → Prop := fun _ => True
def RowsT (N : Nat → Prop) (w : World) (a : Option Addr) (n : Nat) (ks : List Tr) : Prop := n = ks.length ∧ (ks.length = 0 ∨ ∃ b off, a = some ⟨b, off, none⟩ ∧ N b ∧ b < w.heap.size ∧ RowF N w b off ks 0)
theorem trF_iff {N : Nat → Prop} {w : World} {o n : Int} {s : ByteArray} {ks : List Tr} {ms : List (Int × Int)} {f : Fld} : TrF N w (.node o n s ks ms) f ↔ f.op = o ∧ f.num = n ∧ f.name = s ∧ MarksN N w f.ma f.ml ms ∧ RowsT N w f.ka f.kl ks ∧ f.kl ≤ f.kc ∧ f.ml ≤ f.mc := by
  rw [TrF]
  constructor
  · rintro ⟨h1, h2, h3, h4, h7, h5, h6⟩; exact ⟨h1, h2, h3, h5, ⟨h4, h6⟩, h7⟩
  · rintro ⟨h1, h2, h3, h5, ⟨h4, h6⟩, h7⟩; exact ⟨h1, h2, h3, h4, h7, h5, h6⟩
theorem same_of_below {N : Nat → Prop} {w w' : World} (h : Below w.heap.size w w') : Same N w w' := ⟨h.size, fun b _ hb => h.block b hb⟩
theorem Same.refl (N : Nat → Prop) (w : World) : Same N w w := ⟨Nat.le_refl _, fun _ _ _ => rfl⟩
theorem Same.trans {N : Nat → Prop} {a b c : World} (h : Same N a b) (k : Same N b c) : Same N a c := ⟨Nat.le_trans h.1 k.1, fun x hx hl => (k.2 x hx (Nat.lt_of_lt_of_le hl h.1)).trans (h.2 x hx hl)⟩
theorem same_grown {N : Nat → Prop} {w w' : World} {g : Nat} (h : w.grownBy w' (some g)) (hN : ∀ b, N b → b ≠ g) : Same N w w' := ⟨h.size, fun b hb hl => h.block b hl (by intro e; simp only [Option.some.injEq] at e; exact hN b hb e)⟩
theorem RowsT.kept {N : Nat → Prop} {w w' : World} (s : Same N w w') {a : Option Addr} {n : Nat} {ks : List Tr} (h : RowsT N w a n ks) : RowsT N w' a n ks := by
  obtain ⟨h1, h2⟩ := h
  refine ⟨h1, ?_⟩
  rcases h2 with h | ⟨b, off, k1, k2, k3, k4⟩
  · exact Or.inl h
  · exact Or.inr ⟨b, off, k1, k2, Nat.lt_of_lt_of_le k3 s.1, RowF.kept s b off (s.2 b k2 k3) ks 0 k4⟩
theorem RowsT.cells {N : Nat → Prop} {w : World} {a : Option Addr} {n : Nat} {ks : List Tr} (h : RowsT N w a n ks) (h0 : 0 < n) : ∃ b off, a = some ⟨b, off, none⟩ ∧ N b ∧ b < w.heap.size ∧ ∀ j, (hj : j < ks.length) → ∃ f, CellsF w b (off + j * 5) f ∧ TrF N w ks[j] f := by
  obtain ⟨h1, h2⟩ := h
  rcases h2 with h | ⟨b, off, k1, k2, k3, k4⟩
  · omega
  · refine ⟨b, off, k1, k2, k3, fun j hj => ?_⟩
    have := rowF_get ks 0 j k4 hj
    rw [Nat.zero_add] at this
    exact this
theorem rowsT_of {N : Nat → Prop} {w : World} {b off : Nat} {ks : List Tr} (hN : N b) (hb : b < w.heap.size) (h : ∀ j, (hj : j < ks.length) → ∃ f, CellsF w b (off + j * 5) f ∧ TrF N w ks[j] f) : RowsT N w (some ⟨b, off, none⟩) ks.length ks :=
  ⟨rfl, Or.inr ⟨b, off, rfl, hN, hb, rowF_of ks 0 (fun j hj => by rw [Nat.zero_add]; exact h j hj)⟩⟩
theorem MarksN.mono {N N' : Nat → Prop} (hN : ∀ b, N b → N' b) {w : World} {a : Option Addr} {len : Nat} {ms : List (Int × Int)} (h : MarksN N w a len ms) : MarksN N' w a len ms := by
  obtain ⟨h1, h2⟩ := h
  refine ⟨h1, ?_⟩
  rcases h2 with h | ⟨b, off, k1, k2, k3, k4⟩
  · exact Or.inl h
  · exact Or.inr ⟨b, off, k1, hN b k2, k3, k4⟩
mutual
theorem TrF.mono {N N' : Nat → Prop} (hN : ∀ b, N b → N' b) {w : World} : ∀ (t : Tr) (f : Fld), TrF N w t f → TrF N' w t f
  | .node o n nm ks ms, f, h => by
    rw [TrF] at h ⊢
    obtain ⟨h1, h2, h3, h4, h7, h5, h6⟩ := h
    refine ⟨h1, h2, h3, h4, h7, h5.mono hN, ?_⟩
    rcases h6 with h | ⟨b, off, k1, k2, k3, k4⟩
    · exact Or.inl h
    · exact Or.inr ⟨b, off, k1, hN b k2, k3, RowF.mono hN b off ks 0 k4⟩
theorem RowF.mono {N N' : Nat → Prop} (hN : ∀ b, N b → N' b) {w : World} (b off : Nat) : ∀ (ks : List Tr) (i : Nat), RowF N w b off ks i → RowF N' w b off ks i
  | [], i, h => by rw [RowF]; trivial
  | t :: r, i, h => by
    rw [RowF] at h ⊢
    obtain ⟨⟨f, h1, h2⟩, h3⟩ := h
    exact ⟨⟨f, h1, TrF.mono hN t f h2⟩, RowF.mono hN b off r (i + 1) h3⟩
end
theorem marks_of_N {N : Nat → Prop} {w : World} {a : Option Addr} {len : Nat} {ms : List (Int × Int)} (h : MarksN N w a len ms) : Marks w a len (mF ms) (mP ms) := by
  obtain ⟨h1, h2⟩ := h
  rcases h2 with h | ⟨b, off, k1, k2, k3, k4⟩
  · exact Or.inl h
  · exact Or.inr ⟨b, off, k1, k3, k4⟩
theorem marksN_of {N : Nat → Prop} {w : World} {g len : Nat} {ms : List (Int × Int)} (h : Marks w (some ⟨g, 0, none⟩) len (mF ms) (mP ms)) (hl : len = ms.length) (hN : N g) : MarksN N w (some ⟨g, 0, none⟩) len ms := by
  refine ⟨hl, ?_⟩
  rcases h with h | ⟨b, off, k1, k3, k4⟩
  · exact Or.inl h
  · simp only [Option.some.injEq, Addr.mk.injEq] at k1
    obtain ⟨rfl, rfl, -⟩ := k1
    exact Or.inr ⟨g, 0, rfl, hN, k3, k4⟩

mutual
/-- No length in the tree is beyond what a machine has. -/
def WideT : Tr → Prop
  | .node _ _ s ks ms => s.size ≤ maxLen ∧ ks.length ≤ maxLen ∧ ms.length ≤ maxLen ∧ WideL ks
def WideL : List Tr → Prop
  | [] => True
  | t :: r => WideT t ∧ WideL r
end
theorem wideL_mem : ∀ {ks : List Tr}, WideL ks → ∀ t ∈ ks, WideT t
  | [], h, t, ht => by simp at ht
  | x :: r, h, t, ht => by
    rw [WideL] at h
    rcases List.mem_cons.1 ht with rfl | ht
    · exact h.1
    · exact wideL_mem h.2 t ht
theorem wideL_of : ∀ {ks : List Tr}, (∀ t ∈ ks, WideT t) → WideL ks
  | [], h => by rw [WideL]; trivial
  | x :: r, h => by
    rw [WideL]
    exact ⟨h x (by simp), wideL_of fun t ht => h t (by simp [ht])⟩
theorem szL_mem : ∀ {ks : List Tr} {t : Tr}, t ∈ ks → szT t ≤ szL ks
  | [], t, h => by simp at h
  | x :: r, t, h => by
    rw [szL]
    rcases List.mem_cons.1 h with rfl | h
    · omega
    · have := szL_mem h; omega
end Go.Proofs.YtemjooejfmkkbaaGreatDoor

namespace Go.Proofs.YtemjooejfmkkbaaGreatDoor
open Go.RowKit
set_option linter.unusedVariables false
set_option linter.unusedSimpArgs false

set_option maxHeartbeats 1000000 in
theorem specKids (o : Int) (w : World) :
    Calls Tryz.prog 130 #[.int .i64 o] w fun e w' => e = .returned (.int .i64 (kidsN o)) ∧ w = w' := by
  by_cases h1 : o = 1
  · subst h1; go_enter Tryz.func130, Tryz.ntmps130
    go_wp2
    go_ret
    exact ⟨rfl, rfl⟩
  by_cases h2 : o = 2
  · subst h2; go_enter Tryz.func130, Tryz.ntmps130
    go_wp2
    go_ret
    exact ⟨rfl, rfl⟩
  by_cases h3 : o = 10
  · subst h3; go_enter Tryz.func130, Tryz.ntmps130
    go_wp2
    go_ret
    exact ⟨rfl, rfl⟩
  by_cases h4 : o = 6
  · subst h4; go_enter Tryz.func130, Tryz.ntmps130
    go_wp2
    go_ret
    exact ⟨rfl, rfl⟩
  by_cases h5 : o = 9
  · subst h5; go_enter Tryz.func130, Tryz.ntmps130
    go_wp2
    go_ret
    exact ⟨rfl, rfl⟩
  have e1 : (o == 1) = false := by simpa using h1
  have e2 : (o == 2) = false := by simpa using h2
  have e3 : (o == 10) = false := by simpa using h3
  have e4 : (o == 6) = false := by simpa using h4
  have e5 : (o == 9) = false := by simpa using h5
  by_cases h6 : 3 ≤ o ∧ o ≤ 8
  · have hr : kidsN o = 2 := by unfold kidsN; rw [if_neg (by omega), if_neg h3, if_neg h4, if_neg h5, if_pos h6]
    rw [hr]
    have : o = 3 ∨ o = 4 ∨ o = 5 ∨ o = 7 ∨ o = 8 := by omega
    clear hr h1 h2 h3 h4 h5 h6
    rcases this with rfl | rfl | rfl | rfl | rfl
    all_goals
      go_enter Tryz.func130, Tryz.ntmps130
      go_wp2
      go_ret
      exact ⟨rfl, rfl⟩
  · have hr : kidsN o = -1 := by unfold kidsN; rw [if_neg (by omega), if_neg h3, if_neg h4, if_neg h5, if_neg h6]
    rw [hr]
    have f3 : (o == 3) = false := by simp; omega
    have f4 : (o == 4) = false := by simp; omega
    have f5 : (o == 5) = false := by simp; omega
    have f7 : (o == 7) = false := by simp; omega
    have f8 : (o == 8) = false := by simp; omega
    clear hr h1 h2 h3 h4 h5 h6
    go_enter Tryz.func130, Tryz.ntmps130
    go_wp2
    go_ret
    exact ⟨rfl, rfl⟩
theorem specKidsQ (o : Int) (w : World) (v : Int) (h : kidsN o = v) :
    Calls Tryz.prog 130 #[.int .i64 o] w fun e w' => e = .returned (.int .i64 v) ∧ w' = w := by
  subst h; exact (specKids o w).mono fun e w' h => ⟨h.1, h.2.symm⟩
end Go.Proofs.YtemjooejfmkkbaaGreatDoor
