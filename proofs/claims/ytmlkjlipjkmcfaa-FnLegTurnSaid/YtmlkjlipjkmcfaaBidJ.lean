/-
  'l.Bids = append(l.Bids, l.Bids[len(l.Bids)-1]*r.pick(10)/10)': what holds between its operations.
-/
import Derived.Test.YtmlkjlipjkmcfaaYoung
namespace Go.Proofs.Ytmlkjlipjkmcfaa
open Go.RowKit
set_option linter.unusedVariables false
set_option linter.unusedSimpArgs false

def cstB (b bx gB cB j : Nat) (l : Int) (i : Nat) : Value := match i with
  | 0 => .pointer (some ⟨bx, 8, none⟩)
  | 1 => .slice (some ⟨gB, 0, none⟩) j cB
  | 2 => .pointer (some ⟨bx, 8, none⟩)
  | 3 => .slice (some ⟨gB, 0, none⟩) j cB
  | 4 => .pointer (some ⟨bx, 8, none⟩)
  | 5 => .slice (some ⟨gB, 0, none⟩) j cB
  | 6 => .int .i64 (j : Int)
  | 7 => .int .i64 ((j - 1 : Nat) : Int)
  | 8 => .pointer (some ⟨gB, j - 1, none⟩)
  | 9 => .int .i64 l
  | 10 => .pointer (some ⟨b, 0, none⟩)
  | 16 => .pointer (some ⟨bx, 8, none⟩)
  | _ => undef
def isC (i : Nat) : Bool := decide (i ≤ 10) || decide (i = 16)
structure JB (Y : Nat → Nat → (Nat → Int) → Nat → Nat → World → Prop) (N Q b bx gB cB j : Nat) (Bz : Nat → Int) (l : Int) (L : Nat → Bool) (f : Nat → Value) (W : World) : Prop where
  y0 : L 11 = false → L 15 = false → L 17 = false → Y Q j Bz gB cB W
  y1 : L 11 = true → L 15 = false → L 17 = false → Y (Q + 1) j Bz gB cB W
  c : ∀ i, isC i = true → L i = true → f i = cstB b bx gB cB j l i
  e11 : L 11 = true → ∃ x : Int, 0 ≤ x ∧ x ≤ 9 ∧ f 11 = .int .i64 x
  e12 : L 12 = true → ∃ x : Int, 0 ≤ x ∧ x ≤ 9 ∧ f 12 = .int .i64 (l * x)
  e13 : L 13 = true → ∃ z : Int, 0 ≤ z ∧ z ≤ l ∧ f 13 = .int .i64 z
  e14 : L 14 = true → L 15 = false → ∃ (g : Nat) (z : Int), 0 ≤ z ∧ z ≤ l ∧ f 14 = .slice (some ⟨g, 0, none⟩) 1 1 ∧ W.heap[g]? = some (.cells #[.int .i64 z] 3 (0, 0))
  e15 : L 15 = true → L 17 = false → ∃ (Wp : World) (g cc : Nat) (z : Int), 0 ≤ z ∧ z ≤ l ∧ f 15 = .slice (some ⟨g, 0, none⟩) (j + 1) cc ∧ Y (Q + 1) j Bz gB cB Wp ∧
    W.ownsRow N 3 1 (.slice (some ⟨g, 0, none⟩) (j + 1) cc) (j + 1) (nl Bz j ++ [.int .i64 z]) ∧ Wp.grownBy W (some gB) ∧ (g = gB ∨ g = Wp.heap.size)
  e17 : L 17 = true → ∃ (g cc : Nat) (z : Int), 0 ≤ z ∧ z ≤ l ∧ Y (Q + 1) (j + 1) (snocF Bz j z) g cc W
section
variable {Y : Nat → Nat → (Nat → Int) → Nat → Nat → World → Prop} {N Q b bx gB cB j : Nat} {Bz : Nat → Int} {l : Int} {L : Nat → Bool} {f : Nat → Value} {W W' : World}
theorem JB.start {f : Nat → Value} (h : Y Q j Bz gB cB W) : JB Y N Q b bx gB cB j Bz l (fun _ => false) f W :=
  ⟨fun _ _ _ => h, fun a => (by cases a), fun _ _ a => (by cases a), fun a => (by cases a), fun a => (by cases a), fun a => (by cases a), fun a => (by cases a), fun a => (by cases a), fun a => (by cases a)⟩
theorem JB.young (h : JB Y N Q b bx gB cB j Bz l L f W) (h15 : L 15 = false) (h17 : L 17 = false) : ∃ Q', Y Q' j Bz gB cB W := by
  cases h11 : L 11 with
  | false => exact ⟨_, h.y0 h11 h15 h17⟩
  | true => exact ⟨_, h.y1 h11 h15 h17⟩
theorem JB.const (h : JB Y N Q b bx gB cB j Bz l L f W) {i : Nat} {v : Value} (hi : isC i = true) (hv : v = cstB b bx gB cB j l i) : JB Y N Q b bx gB cB j Bz l (upd L i true) (upd f i v) W := by
  have hi' : i ≤ 10 ∨ i = 16 := by simpa [isC] using hi
  have u : ∀ {α : Type} (g : Nat → α) (x : α) (q : Nat), 10 < q → q ≠ 16 → upd g i x q = g q := fun g x q h1 h2 => upd_ne g x (by omega)
  refine ⟨?_, ?_, ?_, ?_, ?_, ?_, ?_, ?_, ?_⟩
  · rw [u _ _ 11 (by decide) (by decide), u _ _ 15 (by decide) (by decide), u _ _ 17 (by decide) (by decide)]; exact h.y0
  · rw [u _ _ 11 (by decide) (by decide), u _ _ 15 (by decide) (by decide), u _ _ 17 (by decide) (by decide)]; exact h.y1
  · intro q hq hL
    by_cases e : q = i
    · subst e; rw [upd_self, hv]
    · rw [upd_ne _ _ e] at hL ⊢; exact h.c q hq hL
  · rw [u _ _ 11 (by decide) (by decide), u _ _ 11 (by decide) (by decide)]; exact h.e11
  · rw [u _ _ 12 (by decide) (by decide), u _ _ 12 (by decide) (by decide)]; exact h.e12
  · rw [u _ _ 13 (by decide) (by decide), u _ _ 13 (by decide) (by decide)]; exact h.e13
  · rw [u _ _ 14 (by decide) (by decide), u _ _ 15 (by decide) (by decide), u _ _ 14 (by decide) (by decide)]; exact h.e14
  · rw [u _ _ 15 (by decide) (by decide), u _ _ 17 (by decide) (by decide), u _ _ 15 (by decide) (by decide)]; exact h.e15
  · rw [u _ _ 17 (by decide) (by decide)]; exact h.e17
theorem ne_c {i q : Nat} (hq : isC q = true) (hi : isC i = false) : q ≠ i := fun e => by subst e; rw [hq] at hi; cases hi
theorem JB.op11 (h : JB Y N Q b bx gB cB j Bz l L f W) {x : Int} (h14 : L 14 = false) (h15 : L 15 = false) (h17 : L 17 = false) (x0 : 0 ≤ x) (x1 : x ≤ 9) (hY : Y (Q + 1) j Bz gB cB W') :
    JB Y N Q b bx gB cB j Bz l (upd L 11 true) (upd f 11 (.int .i64 x)) W' := by
  have u : ∀ {α : Type} (g : Nat → α) (x : α) (q : Nat), q ≠ 11 → upd g 11 x q = g q := fun g x q h1 => upd_ne g x h1
  refine ⟨fun a => (by rw [upd_self] at a; cases a), fun _ _ _ => hY, ?_, fun _ => ⟨x, x0, x1, upd_self _ _ _⟩, ?_, ?_, ?_, ?_, ?_⟩
  · intro q hq hL
    rw [u _ _ _ (ne_c hq rfl)] at hL ⊢; exact h.c q hq hL
  · rw [u _ _ 12 (by decide), u _ _ 12 (by decide)]; exact h.e12
  · rw [u _ _ 13 (by decide), u _ _ 13 (by decide)]; exact h.e13
  · rw [u _ _ 14 (by decide), h14]; exact fun a => by cases a
  · rw [u _ _ 15 (by decide), h15]; exact fun a => by cases a
  · rw [u _ _ 17 (by decide), h17]; exact fun a => by cases a
theorem JB.op12 (h : JB Y N Q b bx gB cB j Bz l L f W) {x : Int} (x0 : 0 ≤ x) (x1 : x ≤ 9) : JB Y N Q b bx gB cB j Bz l (upd L 12 true) (upd f 12 (.int .i64 (l * x))) W := by
  have u : ∀ {α : Type} (g : Nat → α) (x : α) (q : Nat), q ≠ 12 → upd g 12 x q = g q := fun g x q h1 => upd_ne g x h1
  refine ⟨?_, ?_, ?_, ?_, fun _ => ⟨x, x0, x1, upd_self _ _ _⟩, ?_, ?_, ?_, ?_⟩
  · rw [u _ _ 11 (by decide), u _ _ 15 (by decide), u _ _ 17 (by decide)]; exact h.y0
  · rw [u _ _ 11 (by decide), u _ _ 15 (by decide), u _ _ 17 (by decide)]; exact h.y1
  · intro q hq hL
    rw [u _ _ _ (ne_c hq rfl)] at hL ⊢; exact h.c q hq hL
  · rw [u _ _ 11 (by decide), u _ _ 11 (by decide)]; exact h.e11
  · rw [u _ _ 13 (by decide), u _ _ 13 (by decide)]; exact h.e13
  · rw [u _ _ 14 (by decide), u _ _ 15 (by decide), u _ _ 14 (by decide)]; exact h.e14
  · rw [u _ _ 15 (by decide), u _ _ 17 (by decide), u _ _ 15 (by decide)]; exact h.e15
  · rw [u _ _ 17 (by decide)]; exact h.e17
theorem JB.op13 (h : JB Y N Q b bx gB cB j Bz l L f W) {x : Int} (x0 : 0 ≤ x) (x1 : x ≤ l) : JB Y N Q b bx gB cB j Bz l (upd L 13 true) (upd f 13 (.int .i64 x)) W := by
  have u : ∀ {α : Type} (g : Nat → α) (x : α) (q : Nat), q ≠ 13 → upd g 13 x q = g q := fun g x q h1 => upd_ne g x h1
  refine ⟨?_, ?_, ?_, ?_, ?_, fun _ => ⟨x, x0, x1, upd_self _ _ _⟩, ?_, ?_, ?_⟩
  · rw [u _ _ 11 (by decide), u _ _ 15 (by decide), u _ _ 17 (by decide)]; exact h.y0
  · rw [u _ _ 11 (by decide), u _ _ 15 (by decide), u _ _ 17 (by decide)]; exact h.y1
  · intro q hq hL
    rw [u _ _ _ (ne_c hq rfl)] at hL ⊢; exact h.c q hq hL
  · rw [u _ _ 11 (by decide), u _ _ 11 (by decide)]; exact h.e11
  · rw [u _ _ 12 (by decide), u _ _ 12 (by decide)]; exact h.e12
  · rw [u _ _ 14 (by decide), u _ _ 15 (by decide), u _ _ 14 (by decide)]; exact h.e14
  · rw [u _ _ 15 (by decide), u _ _ 17 (by decide), u _ _ 15 (by decide)]; exact h.e15
  · rw [u _ _ 17 (by decide)]; exact h.e17
theorem JB.op14 (h : JB Y N Q b bx gB cB j Bz l L f W) {z : Int} (h15 : L 15 = false) (h17 : L 17 = false) (z0 : 0 ≤ z) (z1 : z ≤ l)
    (hYa : ∀ Q' W o, Y Q' j Bz gB cB W → Y Q' j Bz gB cB (W.alloc o)) :
    JB Y N Q b bx gB cB j Bz l (upd L 14 true) (upd f 14 (.slice (some ⟨W.heap.size, 0, none⟩) 1 1)) (W.alloc (.cells #[.int .i64 z] 3)) := by
  have u : ∀ {α : Type} (g : Nat → α) (x : α) (q : Nat), q ≠ 14 → upd g 14 x q = g q := fun g x q h1 => upd_ne g x h1
  refine ⟨?_, ?_, ?_, ?_, ?_, ?_, fun _ _ => ⟨W.heap.size, z, z0, z1, upd_self _ _ _, heap_alloc_new W _⟩, ?_, ?_⟩
  · rw [u _ _ 11 (by decide), u _ _ 15 (by decide), u _ _ 17 (by decide)]; exact fun a b c => hYa _ _ _ (h.y0 a b c)
  · rw [u _ _ 11 (by decide), u _ _ 15 (by decide), u _ _ 17 (by decide)]; exact fun a b c => hYa _ _ _ (h.y1 a b c)
  · intro q hq hL
    rw [u _ _ _ (ne_c hq rfl)] at hL ⊢; exact h.c q hq hL
  · rw [u _ _ 11 (by decide), u _ _ 11 (by decide)]; exact h.e11
  · rw [u _ _ 12 (by decide), u _ _ 12 (by decide)]; exact h.e12
  · rw [u _ _ 13 (by decide), u _ _ 13 (by decide)]; exact h.e13
  · rw [u _ _ 15 (by decide), h15]; exact fun a => by cases a
  · rw [u _ _ 17 (by decide), h17]; exact fun a => by cases a
theorem JB.op15 (h : JB Y N Q b bx gB cB j Bz l L f W) {z : Int} {g cc : Nat} (h11 : L 11 = true) (h15 : L 15 = false) (h17 : L 17 = false) (z0 : 0 ≤ z) (z1 : z ≤ l)
    (ho : W'.ownsRow N 3 1 (.slice (some ⟨g, 0, none⟩) (j + 1) cc) (j + 1) (nl Bz j ++ [.int .i64 z])) (hg : W.grownBy W' (some gB)) (ha : g = gB ∨ g = W.heap.size) :
    JB Y N Q b bx gB cB j Bz l (upd L 15 true) (upd f 15 (.slice (some ⟨g, 0, none⟩) (j + 1) cc)) W' := by
  have u : ∀ {α : Type} (g : Nat → α) (x : α) (q : Nat), q ≠ 15 → upd g 15 x q = g q := fun g x q h1 => upd_ne g x h1
  refine ⟨fun _ a => (by rw [upd_self] at a; cases a), fun _ a => (by rw [upd_self] at a; cases a), ?_, ?_, ?_, ?_, fun _ a => (by rw [upd_self] at a; cases a), fun _ _ => ⟨W, g, cc, z, z0, z1, upd_self _ _ _, h.y1 h11 h15 h17, ho, hg, ha⟩, ?_⟩
  · intro q hq hL
    rw [u _ _ _ (ne_c hq rfl)] at hL ⊢; exact h.c q hq hL
  · rw [u _ _ 11 (by decide), u _ _ 11 (by decide)]; exact h.e11
  · rw [u _ _ 12 (by decide), u _ _ 12 (by decide)]; exact h.e12
  · rw [u _ _ 13 (by decide), u _ _ 13 (by decide)]; exact h.e13
  · rw [u _ _ 17 (by decide), h17]; exact fun a => by cases a
theorem JB.op17 (h : JB Y N Q b bx gB cB j Bz l L f W) {z : Int} {g cc : Nat} {v : Value} (h11 : L 11 = true) (h15 : L 15 = true) (z0 : 0 ≤ z) (z1 : z ≤ l) (hY : Y (Q + 1) (j + 1) (snocF Bz j z) g cc W') :
    JB Y N Q b bx gB cB j Bz l (upd L 17 true) (upd f 17 v) W' := by
  have u : ∀ {α : Type} (g : Nat → α) (x : α) (q : Nat), q ≠ 17 → upd g 17 x q = g q := fun g x q h1 => upd_ne g x h1
  refine ⟨fun _ _ a => (by rw [upd_self] at a; cases a), fun _ _ a => (by rw [upd_self] at a; cases a), ?_, ?_, ?_, ?_, ?_, fun _ a => (by rw [upd_self] at a; cases a), fun _ => ⟨g, cc, z, z0, z1, hY⟩⟩
  · intro q hq hL
    rw [u _ _ _ (ne_c hq rfl)] at hL ⊢; exact h.c q hq hL
  · rw [u _ _ 11 (by decide), u _ _ 11 (by decide)]; exact h.e11
  · rw [u _ _ 12 (by decide), u _ _ 12 (by decide)]; exact h.e12
  · rw [u _ _ 13 (by decide), u _ _ 13 (by decide)]; exact h.e13
  · rw [u _ _ 15 (by decide), h15]; exact fun _ a => by cases a
end
end Go.Proofs.Ytmlkjlipjkmcfaa
