/-
  The library's sort and compaction of a list of texts in memory of its own.
-/
import Derived.Test.YtgoaajnppadmjaaGreatDoorNamesMath
import Derived.Ground.NamesProg
import Derived.Shelf.Lay
import Derived.Shelf.Slices.CompactS
import Derived.Shelf.Slices.In.SortNone
import Derived.Shelf.Sort.Plain
import Derived.Sort.OwnSorted
import Derived.Sort.Grow
import Derived.Lib.OwnBridge
namespace Go.Proofs
open Go.Shelf
shelf_lay Lays.n190 Nm 190 at Tryz as Tryz.laysSortS
shelf_lay Lays.n194 Nm 194 at Tryz as Tryz.laysCompactS
end Go.Proofs
namespace Go.Proofs.YtgoaajnppadmjaaGreatDoor
open Go.RowKit Go.Shelf Go.Sort
set_option linter.unusedVariables false
set_option linter.unusedSimpArgs false

def sortedU (l : List (List UInt8)) : List (List UInt8) := l.mergeSort fun x y => decide (x ≤ y)
theorem sortedU_len (l : List (List UInt8)) : (sortedU l).length = l.length := List.length_mergeSort l
theorem compactU (l : List (List UInt8)) : Lib.compact (sortedU l) = putsU [] l := compact_sort l
theorem sortCallS {B : Nat} {a : Option Addr} {n c : Nat} {l : List (List UInt8)} {w : World} (h : w.ownsRow B 9 1 (.slice a n c) n (l.map encStr)) (hn : n ≤ 1048576) :
    Calls Tryz.prog 49 #[.slice a n c] w fun e w' => e = .returned (.tuple #[]) ∧ w'.ownsRow B 9 1 (.slice a n c) n ((sortedU l).map encStr) ∧ w.grownBy w' (Value.slice a n c).ownBlock := by
  have hl : l.length = n := by simpa using h.1
  rcases Nat.eq_zero_or_pos n with h0 | h0
  · subst h0
    have : l = [] := List.eq_nil_of_length_eq_zero hl
    subst this
    refine (Any.slices_Sort_string_none Tryz.laysSortS a c w).mono ?_
    rintro e w' ⟨rfl, rfl⟩
    exact ⟨rfl, by simpa [sortedU] using h, World.grownBy.refl _ _⟩
  · obtain ⟨g, cap, hv, hbase, hg, hcap, hm, -, hH⟩ := Lib.holds_of_ownsRow h (by
      intro e
      injection e with _ e _
      omega)
    injection hv with ha _ hc
    subst ha hc
    subst hl
    refine (Any.slices_Sort_string Tryz.laysSortS g 0 c l w hH hg (by omega)).mono ?_
    rintro e w' ⟨rfl, nn, os, rfl⟩
    rcases h.2 with ⟨k0, _⟩ | ⟨g', cap', cur, hv', hb', hb, h1, h2, h3, h4⟩
    · cases k0
    injection hv' with e1 _ e3
    injection e1 with e1
    injection e1 with e1 _ _
    subst e1 e3
    exact ⟨rfl, ownsRow_sorted (sortedU_len l) hbase hb h1 h2 h3, grownBy_sorted _⟩
theorem compactCallS {B : Nat} {a : Option Addr} {n c : Nat} {l : List (List UInt8)} {w : World} (h : w.ownsRow B 9 1 (.slice a n c) n ((sortedU l).map encStr)) (hn : n ≤ 1048576) :
    Calls Tryz.prog 50 #[.slice a n c] w fun e w' => e = .returned (.slice a (putsU [] l).length c) ∧ w'.ownsRow B 9 1 (.slice a (putsU [] l).length c) (putsU [] l).length ((putsU [] l).map encStr) ∧ w.grownBy w' (Value.slice a n c).ownBlock := by
  have hl : (sortedU l).length = n := by simpa using h.1
  have hll := sortedU_len l
  rcases Nat.eq_zero_or_pos n with h0 | h0
  · subst h0
    have : l = [] := List.eq_nil_of_length_eq_zero (by omega)
    subst this
    refine (Any.slices_Compact_string_empty Tryz.laysCompactS a c w).mono ?_
    rintro e w' ⟨rfl, rfl⟩
    exact ⟨rfl, by simpa [sortedU, putsU] using h, World.grownBy.refl _ _⟩
  · obtain ⟨g, cap, hv, hbase, hg, hcap, hm, -, hH⟩ := Lib.holds_of_ownsRow h (by
      intro e
      injection e with _ e _
      omega)
    injection hv with ha _ hc
    subst ha hc
    subst hl
    have hle := Lib.compact_length_le (sortedU l)
    refine (Any.slices_Compact_string Tryz.laysCompactS g 0 c (sortedU l) w hH (by omega) hcap).mono ?_
    rintro e w' ⟨rfl, q, rfl⟩
    have ho := Lib.ownsRow_putRow (q := q) (k := (Lib.compact (sortedU l)).length) (ys := Lib.compact (sortedU l) ++ List.replicate ((sortedU l).length - (Lib.compact (sortedU l)).length) []) h (by simp; omega) hle
    rw [List.take_left] at ho
    rw [compactU] at ho ⊢
    refine ⟨rfl, ho, rfl, rfl, rfl, by simp [putRow, mapBlock, Sort.ahead], fun k hk hne => ?_⟩
    have : g ≠ k := fun e => hne (by rw [e]; rfl)
    simp [putRow, mapBlock, Sort.ahead, Array.getElem?_modify, this]
end Go.Proofs.YtgoaajnppadmjaaGreatDoor
