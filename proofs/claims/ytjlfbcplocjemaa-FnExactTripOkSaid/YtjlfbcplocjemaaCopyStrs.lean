/-
  A copy of a list of texts, in new memory.
-/
import Derived.Test.YtjlfbcplocjemaaStrs
import Derived.OwnWalk
namespace Go.Proofs.Ytjlfbcplocjemaa
open Go.RowKit
set_option linter.unusedVariables false

theorem infoStr : (Try.prog.info? 9).map (fun i => (i.zero, i.size, i.bytes)) = some (some (.string ⟨#[]⟩), 1, 16) := by kernel_rfl

def CopyPost (ss : List ByteArray) (w : World) (e : Ending) (w' : World) : Prop :=
  ∃ g : Nat, w.heap.size ≤ g ∧ e = .returned (.slice (some ⟨g, 0, none⟩) ss.length ss.length) ∧ Strs w' (some ⟨g, 0, none⟩) ss.length ss ∧ Below w.heap.size w w'

set_option maxHeartbeats 1000000 in
theorem copyStrs (a : Option Addr) (len cap : Nat) (ss : List ByteArray) (w : World) (h : Strs w a len ss) (hl : len ≤ 1048576) :
    Calls Try.prog 29 #[.slice a len cap] w (CopyPost ss w) := by
  obtain ⟨i0, hi, hz0, hz1, hz2⟩ := info_parts infoStr
  obtain ⟨rfl, hc⟩ := h
  have Hc := Lib.hid hc
  clear hc
  go_enter Try.func29, Try.ntmps29
  go_wp2_with (at_make; refine wpList_make_full _ rfl _ _ 24 rfl w.heap.size 9 i0 (.string ⟨#[]⟩) 1 Try.underlying24 hi hz0 hz1 .i64 .i64 ss.length ss.length ss.length rfl rfl rfl rfl ?_ ?_ ?_ ?_; rw [hz2]; omega; unfold maxLen; omega; exact Nat.le_refl _; intro w1 hown1 hgrow1)
  have hz := hgrow1.size
  generalize hg : w.heap.size = g at *
  have Hg := Lib.hid hg
  clear hg
  have hb1 : Below g w w1 := (Below.refl _ _).grown hgrow1 (by rw [Hg.out]; exact Nat.le_refl _) (fun k e => by cases e)
  clear hgrow1
  go_loopw [4] (fun i wr => ∃ k : Nat, k ≤ ss.length ∧ i = .int .i64 k ∧ ∃ xs : List Value, wr.ownsRow g 9 1 (.slice (some ⟨g, 0, none⟩) ss.length ss.length) ss.length xs ∧ Hid (∀ j, j < k → xs[j]? = some (.string (ss.getD j ByteArray.empty))) ∧ Below g w wr) (fun i _ => ss.length - (intOf i).toNat)
  case atStart => exact ⟨0, Nat.zero_le _, rfl, _, hown1, fun j hj => by omega, hb1⟩
  case round =>
    obtain ⟨k, hk, rfl, xs, hown, hxs, hb⟩ := hrel
    rcases Nat.lt_or_ge k ss.length with hlt | hge
    · rcases Hc.out with hc | ⟨b, off, rfl, hbl, hcell⟩
      · omega
      · have c1 : wr.cell? ⟨b, off + k, none⟩ = some (.string (ss.getD k ByteArray.empty)) := (hb.cell (p := ⟨b, off + k, none⟩) hbl).trans (hcell k hlt)
        have hne : b ≠ g := Nat.ne_of_lt hbl
        have hx := hown.1
        have hkl : k < xs.length := by omega
        have c2 : wr.cell? ⟨g, k, none⟩ = some (xs[k]'hkl) := by rw [hown.cellAt k (by omega)]; simp [hkl]
        have f2 := hown.frozenAt k
        clear hcell
        generalize hs : ss.getD k ByteArray.empty = s at *
        have Hs := Lib.hid hs
        clear hs
        go_wp2
        go_roundw
        case rel =>
          refine ⟨k + 1, by omega, by go_num, xs.set k (.string s), (hown.stored k _).1, fun j hj => ?_, hb.setCell (Nat.le_refl _) _⟩
          by_cases e : j = k
          · subst e; rw [Hs.out]; simp [hkl]
          · rw [List.getElem?_set_ne (by omega)]; exact hxs.out j (by omega)
        case measure => simp [intOf]; omega
    · obtain rfl : k = ss.length := by omega
      go_wp2
      go_ret
      have hlt : g < wr.heap.size := (hown.lt g rfl).2
      refine ⟨g, by rw [Hg.out]; exact Nat.le_refl _, rfl, ⟨rfl, ?_⟩, by rw [Hg.out]; exact hb⟩
      refine Or.inr ⟨g, 0, rfl, hlt, fun i hi => ?_⟩
      rw [Nat.zero_add, hown.cellAt i (by omega)]
      exact hxs.out i hi
end Go.Proofs.Ytjlfbcplocjemaa
