/-
  A leg's text.
-/
import Derived.Test.YtlfmhhdlandcjaaGreatDoorNumTextI
import Derived.Test.YtlfmhhdlandcjaaGreatDoorLegOkI
import Derived.Test.YtlfmhhdlandcjaaGreatDoorFree
import Derived.Deep.Cut
namespace Go.Proofs.YtlfmhhdlandcjaaGreatDoor
open Go.RowKit
set_option linter.unusedVariables false
set_option linter.unusedSimpArgs false

theorem nameB_size {s : ByteArray} (h : nameB s.data.toList = true) : s.size ≤ 8 := by
  simp only [nameB, Bool.and_eq_true, decide_eq_true_eq] at h
  have : s.data.toList.length = s.size := by simp
  omega
/-- A leg's words. -/
def legWords (d : LegD) : List ByteArray := [d.name, d.fr, d.to, decB d.dep, decB d.arr, numB d.L d.nL, numB d.S d.nS, numB d.B d.nB]
def legB (d : LegD) : ByteArray := ⟨(joinS 32 (legWords d)).toArray⟩
def LegText (d : LegD) (o : ByteArray) : Prop := (OkLeg d → o = legB d) ∧ (¬ OkLeg d → o = ⟨#[]⟩)
theorem legText_one {d : LegD} {o p : ByteArray} (h : LegText d o) (k : LegText d p) : o = p := by
  by_cases q : OkLeg d
  · rw [h.1 q, k.1 q]
  · rw [h.2 q, k.2 q]
structure Sizes (d : LegD) : Prop where
  n1 : d.name.size ≤ 8
  n2 : d.fr.size ≤ 8
  n3 : d.to.size ≤ 8
  dep : 0 ≤ d.dep ∧ d.dep ≤ 9999
  arr : 0 ≤ d.arr ∧ d.arr ≤ 9999
  sL : Small d.L d.nL
  sS : Small d.S d.nS
  sB : Small d.B d.nB
  nL : d.nL = 3
  nS : d.nS = 3
  nB : 1 ≤ d.nB
theorem OkLeg.sizes {d : LegD} (h : OkLeg d) : Sizes d := by
  obtain ⟨⟨a1, a2, a3, -, a5, a6⟩, ⟨b1, b2, b3, b4, b5, b6, b7, b8⟩, -, -⟩ := h
  have hL := falls_top b8
  have hB := falls_top b6
  exact ⟨nameB_size a1, nameB_size a2, nameB_size a3, a5, by omega, ⟨by omega, fun i hi => by have := hL i (by omega); omega⟩, ⟨by omega, fun i hi => by have := b4 i (by omega); omega⟩, ⟨by omega, fun i hi => hB i hi⟩, b2, b3, by omega⟩
theorem words_small {d : LegD} (h : Sizes d) : ∀ x ∈ legWords d, x.size ≤ 168 := by
  intro x hx
  simp only [legWords, List.mem_cons, List.not_mem_nil, or_false] at hx
  rcases hx with rfl | rfl | rfl | rfl | rfl | rfl | rfl | rfl
  · have := h.n1; omega
  · have := h.n2; omega
  · have := h.n3; omega
  · have := decB_size h.dep.1 (by have := h.dep.2; omega); omega
  · have := decB_size h.arr.1 (by have := h.arr.2; omega); omega
  · exact numB_size h.sL
  · exact numB_size h.sS
  · exact numB_size h.sB
theorem legWords_len {d : LegD} (h : Sizes d) : (joinS 32 (legWords d)).length ≤ 1352 := by
  have := joinS_len 32 168 (legWords d) (words_small h)
  have e : (legWords d).length = 8 := rfl
  rw [e] at this
  omega
def sp : ByteArray := ⟨#[32]⟩
theorem leg_cat (d : LegD) : d.name ++ ⟨#[32]⟩ ++ d.fr ++ ⟨#[32]⟩ ++ d.to ++ ⟨#[32]⟩ ++ decB d.dep ++ ⟨#[32]⟩ ++ decB d.arr ++ ⟨#[32]⟩ ++ numB d.L d.nL ++ ⟨#[32]⟩ ++ numB d.S d.nS ++ ⟨#[32]⟩ ++ numB d.B d.nB = legB d := by
  apply ByteArray.ext
  apply Array.ext'
  simp [legB, joinS, legWords, Lib.join_cons, Lib.joinTail]
def TextPost (d : LegD) (w : World) (e : Ending) (w' : World) : Prop := ∃ o, e = .returned (.string o) ∧ Hid (LegText d o) ∧ Below w.heap.size w w'
theorem Deps.get {S : Nat → World → Value → Prop} {f : Nat → Value} {w : World} : ∀ {l : List Nat}, Deps S f w l → ∀ {n : Nat}, n ∈ l → S n w (f n)
  | [], _, _, h => by cases h
  | m :: l, hd, n, h => by
    rcases List.mem_cons.1 h with e | e
    · subst e; exact hd.1
    · exact Deps.get hd.2 e
theorem boxLeg (w : World) (d : LegD) (p : LegP) : LegBox (w.alloc (.cells (LegC d p) 25)) w.heap.size d p := LegBox.new w d p
end Go.Proofs.YtlfmhhdlandcjaaGreatDoor
