/-
  Lists of ints in memory: a copy, sameness, and the marks that the exact laws write into a result.
-/
import Derived.Test.YtjlfbcplocjemaaBase
import Derived.OwnWalk
import Derived.IntWalk
namespace Go.Proofs.Ytjlfbcplocjemaa
open Go.RowKit
set_option linter.unusedVariables false

/-- The slice (a, len) reads as the ints z. -/
def Nums (w : World) (a : Option Addr) (len : Nat) (z : Nat → Int) : Prop :=
  len = 0 ∨ ∃ b off, a = some ⟨b, off, none⟩ ∧ b < w.heap.size ∧ ∀ i, i < len → w.cell? ⟨b, off + i, none⟩ = some (.int .i64 (z i))
theorem Nums.kept {w w' : World} {a : Option Addr} {len : Nat} {z : Nat → Int} (h : Nums w a len z) (hb : Below w.heap.size w w') : Nums w' a len z := by
  rcases h with h | ⟨b, off, h2, h3, h4⟩
  · exact Or.inl h
  · exact Or.inr ⟨b, off, h2, Nat.lt_of_lt_of_le h3 hb.size, fun i hi => (hb.cell (p := ⟨b, off + i, none⟩) h3).trans (h4 i hi)⟩
/-- .. of a block of its own, which may be written. -/
def NumsW (B : Nat) (w : World) (a : Option Addr) (len : Nat) (z : Nat → Int) : Prop :=
  len = 0 ∨ ∃ g, a = some ⟨g, 0, none⟩ ∧ B ≤ g ∧ g < w.heap.size ∧ ∀ i, i < len → w.cell? ⟨g, i, none⟩ = some (.int .i64 (z i)) ∧ w.frozen? ⟨g, i, none⟩ = false
theorem NumsW.kept {B : Nat} {w w' : World} {a : Option Addr} {len : Nat} {z : Nat → Int} (h : NumsW B w a len z) (hb : Below w.heap.size w w') : NumsW B w' a len z := by
  rcases h with h | ⟨g, h1, h2, h3, h4⟩
  · exact Or.inl h
  · exact Or.inr ⟨g, h1, h2, Nat.lt_of_lt_of_le h3 hb.size, fun i hi => ⟨(hb.cell (p := ⟨g, i, none⟩) h3).trans (h4 i hi).1, (hb.frozen (p := ⟨g, i, none⟩) h3).trans (h4 i hi).2⟩⟩
theorem NumsW.nums {B : Nat} {w : World} {a : Option Addr} {len : Nat} {z : Nat → Int} (h : NumsW B w a len z) : Nums w a len z := by
  rcases h with h | ⟨g, h1, h2, h3, h4⟩
  · exact Or.inl h
  · exact Or.inr ⟨g, 0, h1, h3, fun i hi => by rw [Nat.zero_add]; exact (h4 i hi).1⟩
theorem NumsW.mono {B B' : Nat} {w : World} {a : Option Addr} {len : Nat} {z : Nat → Int} (h : NumsW B w a len z) (hB : B' ≤ B) : NumsW B' w a len z := by
  rcases h with h | ⟨g, h1, h2, h3, h4⟩
  · exact Or.inl h
  · exact Or.inr ⟨g, h1, Nat.le_trans hB h2, h3, h4⟩

theorem infoInt : (Try.prog.info? 3).map (fun i => (i.zero, i.size, i.bytes)) = some (some (.int .i64 0), 1, 8) := by kernel_rfl

def CopyN (len : Nat) (z : Nat → Int) (w : World) (e : Ending) (w' : World) : Prop :=
  ∃ a : Option Addr, e = .returned (.slice a len len) ∧ NumsW w.heap.size w' a len z ∧ Below w.heap.size w w'

set_option maxHeartbeats 1000000 in
theorem copyInts (a : Option Addr) (len cap : Nat) (z : Nat → Int) (w : World) (h : Nums w a len z) (hl : len ≤ 1048576) :
    Calls Try.prog 54 #[.slice a len cap] w (CopyN len z w) := by
  obtain ⟨i0, hi, hz0, hz1, hz2⟩ := info_parts infoInt
  have Hc := Lib.hid h
  clear h
  go_enter Try.func54, Try.ntmps54
  go_wp2_with (at_make; refine wpList_make_full _ rfl _ _ 31 rfl w.heap.size 3 i0 (.int .i64 0) 1 Try.underlying31 hi hz0 hz1 .i64 .i64 len len len rfl rfl rfl rfl ?_ ?_ ?_ ?_; rw [hz2]; omega; unfold maxLen; omega; exact Nat.le_refl _; intro w1 hown1 hgrow1)
  have hz := hgrow1.size
  have hb1 : Below w.heap.size w w1 := (Below.refl _ _).grown hgrow1 (Nat.le_refl _) (fun k e => by cases e)
  clear hgrow1
  generalize hg : w.heap.size = g at *
  have Hg := Lib.hid hg
  clear hg
  go_loopw [4] (fun i wr => ∃ k : Nat, k ≤ len ∧ i = .int .i64 k ∧ ∃ xs : List Value, wr.ownsRow g 3 1 (.slice (some ⟨g, 0, none⟩) len len) len xs ∧ Hid (∀ j, j < k → xs[j]? = some (.int .i64 (z j))) ∧ Below g w wr) (fun i _ => len - (intOf i).toNat)
  case atStart => exact ⟨0, Nat.zero_le _, rfl, _, hown1, fun j hj => by omega, hb1⟩
  case round =>
    obtain ⟨k, hk, rfl, xs, hown, hxs, hb⟩ := hrel
    rcases Nat.lt_or_ge k len with hlt | hge
    · rcases Hc.out with hc | ⟨b, off, rfl, hbl, hcell⟩
      · omega
      · have c1 : wr.cell? ⟨b, off + k, none⟩ = some (.int .i64 (z k)) := (hb.cell (p := ⟨b, off + k, none⟩) (by show b < g; rw [← Hg.out]; exact hbl)).trans (hcell k hlt)
        have hne : b ≠ g := by have := Hg.out; omega
        have hx := hown.1
        have hkl : k < xs.length := by omega
        have c2 : wr.cell? ⟨g, k, none⟩ = some (xs[k]'hkl) := by rw [hown.cellAt k (by omega)]; simp [hkl]
        have f2 := hown.frozenAt k
        clear hcell
        generalize hs : z k = s at *
        have Hs := Lib.hid hs
        clear hs
        go_wp2
        go_roundw
        case rel =>
          refine ⟨k + 1, by omega, by go_num, xs.set k (.int .i64 s), (hown.stored k _).1, fun j hj => ?_, hb.setCell (Nat.le_refl _) _⟩
          by_cases e : j = k
          · subst e; rw [Hs.out]; simp [hkl]
          · rw [List.getElem?_set_ne (by omega)]; exact hxs.out j (by omega)
        case measure => simp [intOf]; omega
    · obtain rfl : k = len := by omega
      go_wp2
      go_ret
      have hlt : g < wr.heap.size := (hown.lt g rfl).2
      refine ⟨some ⟨g, 0, none⟩, rfl, Or.inr ⟨g, rfl, by rw [Hg.out]; exact Nat.le_refl _, hlt, fun i hi => ⟨?_, hown.frozenAt i⟩⟩, by rw [Hg.out]; exact hb⟩
      rw [hown.cellAt i (by omega)]
      exact hxs.out i hi

set_option maxHeartbeats 1000000 in
theorem eqInts (a a' : Option Addr) (len cap cap' : Nat) (z : Nat → Int) (w : World) (h : Nums w a len z) (h' : Nums w a' len z) (hl : len ≤ 1048576) :
    Calls Try.prog 56 #[.slice a len cap, .slice a' len cap'] w fun e w' => e = .returned (.bool true) ∧ Drew w w' := by
  go_enter Try.func56, Try.ntmps56
  go_wp2_with fail
  go_loopw [5] (fun i wr => ∃ k : Nat, k ≤ len ∧ i = .int .i64 k ∧ ∃ q, wr = w.drewN q) (fun i _ => len - (intOf i).toNat)
  case atStart => exact ⟨0, Nat.zero_le _, rfl, 0, rfl⟩
  case round =>
    obtain ⟨k, hk, rfl, q, rfl⟩ := hrel
    rcases Nat.lt_or_ge k len with hlt | hge
    · rcases h with hc | ⟨b, off, rfl, hbl, hcell⟩
      · omega
      rcases h' with hc' | ⟨b', off', rfl, hbl', hcell'⟩
      · omega
      have c1 := hcell k hlt
      have c2 := hcell' k hlt
      clear hcell hcell'
      generalize z k = s at *
      have k1 : (k : Int) < len := by omega
      have k0 : (0 : Int) ≤ k := by omega
      go_wp2_with fail
      go_quiet (fail)
      go_wp2
      go_roundw
      case rel => exact ⟨k + 1, by omega, by go_num, _, rfl⟩
      case measure => simp [intOf]; omega
    · obtain rfl : k = len := by omega
      go_wp2
      go_ret
      exact ⟨rfl, q, rfl⟩

def MarkN (a : Option Addr) (len : Nat) (k0 : Int) (w : World) (e : Ending) (w' : World) : Prop :=
  e = .returned (.int .i64 (k0 + len)) ∧ (len = 0 ∧ w' = w ∨ ∃ g, a = some ⟨g, 0, none⟩ ∧ w.grownBy w' (some g) ∧ w'.heap.size = w.heap.size ∧ ∀ i, i < len → w'.cell? ⟨g, i, none⟩ = some (.int .i64 (k0 + i)))


end Go.Proofs.Ytjlfbcplocjemaa
