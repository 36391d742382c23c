/-
  Numbers as text, one behind the other: the program's answer.
-/
import Derived.Test.YtlfmhhdlandcjaaGreatDoorNumText
namespace Go.Proofs.YtlfmhhdlandcjaaGreatDoor
open Go.RowKit
set_option linter.unusedVariables false
set_option linter.unusedSimpArgs false

theorem infoStrN : (Tryz.prog.info? 9).map (fun i => (i.zero, i.size, i.bytes)) = some (some (.string ⟨#[]⟩), 1, 16) := by kernel_rfl
set_option maxHeartbeats 4000000 in
theorem listI (a : Option Addr) (len cap : Nat) (z : Nat → Int) (w : World) (h : Nums w a len z) (hs : Small z len) (hlc : len ≤ cap) (h0 : 0 < len) (hL : Laid w) :
    Calls Tryz.prog 34 #[.slice a len cap] w (NumPost z len w) := by
  obtain ⟨i0, hi, hz0, hz1, hz2⟩ := info_parts infoStrN
  have H := Lib.hid h
  have HS := Lib.hid hs
  have HLw := Lib.hid hL
  have hl8 := hs.1
  clear h hs hL
  go_enter Tryz.func34, Tryz.ntmps34
  go_wp2_with (at_make; refine wpList_make_full _ rfl _ _ 37 rfl w.heap.size 9 i0 (.string ⟨#[]⟩) 1 Tryz.underlying37 hi hz0 hz1 .i64 .i64 len len len rfl rfl rfl rfl ?_ ?_ ?_ ?_; rw [hz2]; omega; unfold maxLen; omega; exact Nat.le_refl _; intro w1 hown1 hgrow1)
  have hz := hgrow1.size
  generalize hg : w.heap.size = g at *
  have Hg := Lib.hid hg
  clear hg
  have hb1 : Below g w w1 := (Below.refl _ _).grown hgrow1 (by rw [Hg.out]; exact Nat.le_refl _) (fun k e => by cases e)
  clear hgrow1
  go_loopw [11] (fun i wr => ∃ k : Nat, k ≤ len ∧ i = .int .i64 k ∧ ∃ xs : List Value, wr.ownsRow g 9 1 (.slice (some ⟨g, 0, none⟩) len len) len xs ∧ Hid (∀ j, j < k → xs[j]? = some (.string (decB (z j)))) ∧ Below g w wr) (fun i _ => len - (intOf i).toNat)
  case atStart => exact ⟨0, Nat.zero_le _, rfl, _, hown1, fun j hj => by omega, hb1⟩
  case round =>
    obtain ⟨k, hk, rfl, xs, hown, hxs, hb⟩ := hrel
    rcases Nat.lt_or_ge k len with hlt | hge
    · obtain ⟨bL, oL, rfl, hbL, hcL⟩ := H.out.cells (by omega)
      have c1 : wr.cell? ⟨bL, oL + k, none⟩ = some (.int .i64 (z k)) := (hb.cell (p := ⟨bL, oL + k, none⟩) (by rw [← Hg.out]; exact hbL)).trans (hcL k hlt)
      have k1 : (k : Int) < len := by omega
      have k0 : (0 : Int) ≤ k := by omega
      have hzk := HS.out.2 k hlt
      have HLr : Hid (Laid wr) := laid_stays HLw.out (by rw [Hg.out]; exact hb)
      have HOWN := Lib.hid hown
      clear hcL hown
      generalize hzz : z k = x at *
      have Hzz := Lib.hid hzz
      clear hzz
      go_wp2_with fail
      refine (itoaS x wr HLr.out hzk.1 (by omega)).mono ?_
      rintro e wi ⟨s, rfl, hs20, hse, hbi, -⟩
      have e1 : s = decB x := hse.out
      subst e1
      have hown2 := HOWN.out.kept (row := none) ⟨hbi.os, hbi.tape, hbi.output, hbi.size, fun i hi _ => hbi.block i hi⟩ (Or.inr (by simp [Value.ownBlock]))
      have hx := hown2.1
      have hkl : k < xs.length := by omega
      have c2 : wi.cell? ⟨g, k, none⟩ = some (xs[k]'hkl) := by rw [hown2.cellAt k (by omega)]; simp [hkl]
      have f2 := hown2.frozenAt k
      have hb2 : Below g w wi := hb.trans (hbi.mono (by have := hb.size; rw [Hg.out] at this; omega))
      clear hbi c1
      go_wp2
      go_roundw
      case rel =>
        refine ⟨k + 1, by omega, by go_num, xs.set k (.string (decB x)), (hown2.stored k _).1, fun j hj => ?_, hb2.setCell (Nat.le_refl _) _⟩
        by_cases e : j = k
        · subst e; rw [Hzz.out]; simp [hkl]
        · rw [List.getElem?_set_ne (by omega)]; exact hxs.out j (by omega)
      case measure => simp [intOf]; omega
    · obtain rfl : k = len := by omega
      have hcells : ∀ (j : Nat) x, (wordsN z k)[j]? = some x → wr.cell? ⟨g, 0 + j, none⟩ = some (.string x) := by
        intro j x hj
        have hjk : j < k := by
          have := (List.getElem?_eq_some_iff.1 hj).1
          rwa [wordsN_len] at this
        rw [wordsN_get z k j hjk] at hj
        cases hj
        rw [Nat.zero_add, hown.cellAt j (by omega)]
        exact hxs.out j hjk
      have hlt : g < wr.heap.size := (hown.lt g rfl).2
      have hjl := numT_len HS.out
      have J := Tryz.strings_Join g 0 k (wordsN z k) ⟨#[44]⟩ wr hcells hlt (by rw [wordsN_len]; omega) (by rw [wordsN_len]; omega) (by show (numT z k).length ≤ _; omega)
      rw [wordsN_len] at J
      have HJ := Lib.hid J
      have HB := Lib.hid hb
      clear J hcells hown hxs hb
      go_wp2_with fail
      refine HJ.out.mono ?_
      rintro e wj ⟨rfl, hbj⟩
      go_wp2
      go_ret
      exact ⟨rfl, by rw [Hg.out]; exact HB.out.trans (hbj.mono (by have := HB.out.size; rw [Hg.out] at this; omega))⟩
end Go.Proofs.YtlfmhhdlandcjaaGreatDoor
