/-
  Numbers as text, one behind the other: the model's answer and the program's.
  Numbers as text, one behind the other: the program's answer.
-/
import Derived.Test.YtdaccpffdnbkiaaGreatDoorItoaN
import Derived.Test.YtdaccpffdnbkiaaGreatDoorJ11
import Derived.Lib.QuietBelow
import Derived.OwnWalk
import Derived.Lib.Join
import Derived.Test.YtdaccpffdnbkiaaGreatDoorJoinS
namespace Go.Proofs.YtdaccpffdnbkiaaGreatDoor
open Go.RowKit
set_option linter.unusedVariables false
set_option linter.unusedSimpArgs false

def decB (x : Int) : ByteArray := ⟨(Lib.decDigits x.toNat).toArray⟩
theorem decB_size {x : Int} (h0 : 0 ≤ x) (h1 : x ≤ 9223372036854775807) : (decB x).size ≤ 20 := by
  have := dec_len x.toNat (by omega)
  simpa [decB, ByteArray.size] using this
/-- The first n numbers, each as text. -/
def wordsN (z : Nat → Int) : Nat → List ByteArray
  | 0 => []
  | n + 1 => wordsN z n ++ [decB (z n)]
theorem wordsN_len (z : Nat → Int) : ∀ n, (wordsN z n).length = n
  | 0 => rfl
  | n + 1 => by simp [wordsN, wordsN_len z n]
theorem wordsN_get (z : Nat → Int) : ∀ n i, i < n → (wordsN z n)[i]? = some (decB (z i))
  | 0, i, h => absurd h (Nat.not_lt_zero _)
  | n + 1, i, h => by
    have hl := wordsN_len z n
    rcases Nat.lt_or_ge i n with q | q
    · rw [wordsN, List.getElem?_append_left (by omega), wordsN_get z n i q]
    · obtain rfl : i = n := by omega
      rw [wordsN, List.getElem?_append_right (by omega), hl]
      simp
theorem wordsN_small {z : Nat → Int} : ∀ {n : Nat}, (∀ i, i < n → 0 ≤ z i ∧ z i ≤ 9223372036854775807) → ∀ x ∈ wordsN z n, x.size ≤ 20
  | 0, _, x, hx => by simp [wordsN] at hx
  | n + 1, h, x, hx => by
    rw [wordsN, List.mem_append, List.mem_singleton] at hx
    rcases hx with hx | rfl
    · exact wordsN_small (fun i hi => h i (by omega)) x hx
    · exact decB_size (h n (by omega)).1 (h n (by omega)).2
/-- Numbers as text. -/
def numT (z : Nat → Int) (n : Nat) : List UInt8 := joinS 44 (wordsN z n)
def numB (z : Nat → Int) (n : Nat) : ByteArray := ⟨(numT z n).toArray⟩
def Small (z : Nat → Int) (n : Nat) : Prop := n ≤ 8 ∧ ∀ i, i < n → 0 ≤ z i ∧ z i ≤ 1000000000
theorem numT_len {z : Nat → Int} {n : Nat} (h : Small z n) : (numT z n).length ≤ 168 := by
  have := joinS_len 44 20 (wordsN z n) (wordsN_small (fun i hi => ⟨(h.2 i hi).1, by have := (h.2 i hi).2; omega⟩))
  rw [wordsN_len] at this
  have := h.1
  unfold numT
  omega
theorem numB_size {z : Nat → Int} {n : Nat} (h : Small z n) : (numB z n).size ≤ 168 := by
  have := numT_len h
  simpa [numB, ByteArray.size] using this
theorem numT_next (z : Nat → Int) (n : Nat) : numT z (n + 1) = if n = 0 then (decB (z n)).data.toList else numT z n ++ 44 :: (decB (z n)).data.toList := by
  unfold numT
  rw [wordsN]
  split
  · rename_i h; subst h; exact joinS_one _ _
  · exact joinS_snoc _ _ _ (fun e => by have := congrArg List.length e; rw [wordsN_len] at this; simp at this; omega)

def NumPost (z : Nat → Int) (n : Nat) (w : World) (e : Ending) (w' : World) : Prop := e = .returned (.string (numB z n)) ∧ Below w.heap.size w w'
set_option maxHeartbeats 4000000 in
theorem listS (a : Option Addr) (len cap : Nat) (z : Nat → Int) (w : World) (h : Nums w a len z) (hs : Small z len) :
    Calls Tryz.prog 64 #[.slice a len cap] w (NumPost z len w) := by
  have H := Lib.hid h
  have HS := Lib.hid hs
  have hl8 := hs.1
  clear h hs
  go_enter Tryz.func64, Tryz.ntmps64
  go_wp2_with fail
  go_loopw [3, 4] (fun vo vi wr => ∃ (k : Nat) (o : ByteArray), k ≤ len ∧ vo = .string o ∧ vi = .int .i64 k ∧ o.size ≤ 168 ∧ Hid (o.data.toList = numT z k) ∧ Below w.heap.size w wr) (fun _ vi _ => len - (intOf vi).toNat)
  case atStart => exact ⟨0, ⟨#[]⟩, Nat.zero_le _, rfl, rfl, by decide, by simp [Hid, numT, wordsN, joinS, Lib.join_nil], Below.refl _ _⟩
  case round =>
    obtain ⟨k, o, hk, rfl, rfl, hoz, ho, hb⟩ := hrel
    rcases Nat.lt_or_ge k len with hlt | hge
    · obtain ⟨bL, oL, rfl, hbL, hcL⟩ := (H.out.kept hb).cells (by omega)
      have c1 := hcL k hlt
      have k1 : (k : Int) < len := by omega
      have k0 : (0 : Int) ≤ k := by omega
      have hz := HS.out.2 k hlt
      have hnx := numT_next z k
      have hl1 := numT_len (z := z) (n := k + 1) ⟨by omega, fun i hi => HS.out.2 i (by omega)⟩
      clear hcL
      generalize z k = x at *
      have hdx := decB_size hz.1 (by omega)
      rcases Nat.eq_zero_or_pos k with hk0 | hkp
      · have g0 : decide ((0 : Int) < (k : Int)) = false := decide_eq_false (by omega)
        have g0n : decide (0 < k) = false := decide_eq_false (by omega)
        rw [if_pos hk0] at hnx
        have hj : Hid ((o ++ decB x).data.toList = numT z (k + 1)) := by
          show _ = _
          have : o.data.toList = [] := by rw [ho.out, hk0]; simp [numT, wordsN, joinS, Lib.join_nil]
          rw [hnx]
          simp [this]
        have hz2 : Hid ((o ++ decB x).size ≤ 168) := by
          have := congrArg List.length hj.out
          have e : (o ++ decB x).data.toList.length = (o ++ decB x).size := Array.length_toList
          refine Lib.hid ?_
          omega
        have hfit : o.size + (decB x).size ≤ 9223372036854775807 := by omega
        clear hk0 hnx hl1
        go_wp2_with fail
        refine (decS x wr hz.1 (by omega)).mono ?_
        rintro e wd ⟨s, rfl, hs20, hse, hbd⟩
        have e1 : s = decB x := hse.out
        subst e1
        have hb2 := bt hb hbd
        have m1 : ¬ 9223372036854775807 < o.size + (decB x).size := by omega
        clear hbd hse c1
        go_wp2
        go_roundw
        case rel => exact ⟨k + 1, o ++ decB x, by omega, rfl, by go_num, hz2.out, hj, hb2⟩
        case measure => simp [intOf]; omega
      · have g0 : decide ((0 : Int) < (k : Int)) = true := decide_eq_true (by omega)
        have g0n : decide (0 < k) = true := decide_eq_true hkp
        rw [if_neg (by omega)] at hnx
        have hj : Hid ((o ++ ⟨#[44]⟩ ++ decB x).data.toList = numT z (k + 1)) := by
          show _ = _
          rw [hnx, ← ho.out]
          simp
        have hz2 : Hid ((o ++ ⟨#[44]⟩ ++ decB x).size ≤ 168) := by
          have := congrArg List.length hj.out
          have e : (o ++ ⟨#[44]⟩ ++ decB x).data.toList.length = (o ++ ⟨#[44]⟩ ++ decB x).size := Array.length_toList
          refine Lib.hid ?_
          omega
        clear hnx hl1
        go_wp2_with fail
        refine (decS x wr hz.1 (by omega)).mono ?_
        rintro e wd ⟨s, rfl, hs20, hse, hbd⟩
        have e1 : s = decB x := hse.out
        subst e1
        have hb2 := bt hb hbd
        have m0 : ¬ 9223372036854775807 < o.size + 1 := by omega
        have m1 : ¬ 9223372036854775807 < o.size + 1 + (decB x).size := by omega
        clear hbd hse c1
        go_wp2
        go_roundw
        case rel => exact ⟨k + 1, o ++ ⟨#[44]⟩ ++ decB x, by omega, rfl, by go_num, hz2.out, hj, hb2⟩
        case measure => simp [intOf]; omega
    · obtain rfl : k = len := by omega
      have e1 : o = numB z k := by
        apply ByteArray.ext
        apply Array.ext'
        rw [ho.out]
        simp [numB]
      subst e1
      go_wp2
      go_ret
      exact ⟨rfl, hb⟩
end Go.Proofs.YtdaccpffdnbkiaaGreatDoor

namespace Go.Proofs.YtdaccpffdnbkiaaGreatDoor
open Go.RowKit
set_option linter.unusedVariables false
set_option linter.unusedSimpArgs false

theorem infoStrN : (Tryz.prog.info? 9).map (fun i => (i.zero, i.size, i.bytes)) = some (some (.string ⟨#[]⟩), 1, 16) := by kernel_rfl
set_option maxHeartbeats 4000000 in
theorem listI (a : Option Addr) (len cap : Nat) (z : Nat → Int) (w : World) (h : Nums w a len z) (hs : Small z len) (h0 : 0 < len) (hL : Laid w) :
    Calls Tryz.prog 34 #[.slice a len cap] w (NumPost z len w) := by
  obtain ⟨i0, hi, hz0, hz1, hz2⟩ := info_parts infoStrN
  have H := Lib.hid h
  have HS := Lib.hid hs
  have HLw := Lib.hid hL
  have hl8 := hs.1
  clear h hs hL
  go_enter Tryz.func34, Tryz.ntmps34
  go_wp2_with (at_make; refine wpList_make_full _ rfl _ _ 37 rfl w.heap.size 9 i0 (.string ⟨#[]⟩) 1 Tryz.underlying37 hi hz0 hz1 .i64 .i64 len len len rfl rfl rfl rfl ?_ ?_ ?_ ?_; rw [hz2]; omega; unfold maxLen; omega; exact Nat.le_refl _; intro w1 hown1 hgrow1)
  have hz := hgrow1.size
  generalize hg : w.heap.size = g at *
  have Hg := Lib.hid hg
  clear hg
  have hb1 : Below g w w1 := (Below.refl _ _).grown hgrow1 (by rw [Hg.out]; exact Nat.le_refl _) (fun k e => by cases e)
  clear hgrow1
  go_loopw [11] (fun i wr => ∃ k : Nat, k ≤ len ∧ i = .int .i64 k ∧ ∃ xs : List Value, wr.ownsRow g 9 1 (.slice (some ⟨g, 0, none⟩) len len) len xs ∧ Hid (∀ j, j < k → xs[j]? = some (.string (decB (z j)))) ∧ Below g w wr) (fun i _ => len - (intOf i).toNat)
  case atStart => exact ⟨0, Nat.zero_le _, rfl, _, hown1, fun j hj => by omega, hb1⟩
  case round =>
    obtain ⟨k, hk, rfl, xs, hown, hxs, hb⟩ := hrel
    rcases Nat.lt_or_ge k len with hlt | hge
    · obtain ⟨bL, oL, rfl, hbL, hcL⟩ := H.out.cells (by omega)
      have c1 : wr.cell? ⟨bL, oL + k, none⟩ = some (.int .i64 (z k)) := (hb.cell (p := ⟨bL, oL + k, none⟩) (by rw [← Hg.out]; exact hbL)).trans (hcL k hlt)
      have k1 : (k : Int) < len := by omega
      have k0 : (0 : Int) ≤ k := by omega
      have hzk := HS.out.2 k hlt
      have HLr : Hid (Laid wr) := laid_stays HLw.out (by rw [Hg.out]; exact hb)
      have HOWN := Lib.hid hown
      clear hcL hown
      generalize hzz : z k = x at *
      have Hzz := Lib.hid hzz
      clear hzz
      go_wp2_with fail
      refine (itoaS x wr HLr.out hzk.1 (by omega)).mono ?_
      rintro e wi ⟨s, rfl, hs20, hse, hbi, -⟩
      have e1 : s = decB x := hse.out
      subst e1
      have hown2 := HOWN.out.kept (row := none) ⟨hbi.os, hbi.tape, hbi.output, hbi.size, fun i hi _ => hbi.block i hi⟩ (Or.inr (by simp [Value.ownBlock]))
      have hx := hown2.1
      have hkl : k < xs.length := by omega
      have c2 : wi.cell? ⟨g, k, none⟩ = some (xs[k]'hkl) := by rw [hown2.cellAt k (by omega)]; simp [hkl]
      have f2 := hown2.frozenAt k
      have hb2 : Below g w wi := hb.trans (hbi.mono (by have := hb.size; rw [Hg.out] at this; omega))
      clear hbi c1
      go_wp2
      go_roundw
      case rel =>
        refine ⟨k + 1, by omega, by go_num, xs.set k (.string (decB x)), (hown2.stored k _).1, fun j hj => ?_, hb2.setCell (Nat.le_refl _) _⟩
        by_cases e : j = k
        · subst e; rw [Hzz.out]; simp [hkl]
        · rw [List.getElem?_set_ne (by omega)]; exact hxs.out j (by omega)
      case measure => simp [intOf]; omega
    · obtain rfl : k = len := by omega
      have hcells : ∀ (j : Nat) x, (wordsN z k)[j]? = some x → wr.cell? ⟨g, 0 + j, none⟩ = some (.string x) := by
        intro j x hj
        have hjk : j < k := by
          have := (List.getElem?_eq_some_iff.1 hj).1
          rwa [wordsN_len] at this
        rw [wordsN_get z k j hjk] at hj
        cases hj
        rw [Nat.zero_add, hown.cellAt j (by omega)]
        exact hxs.out j hjk
      have hlt : g < wr.heap.size := (hown.lt g rfl).2
      have hjl := numT_len HS.out
      have J := Tryz.strings_Join g 0 k (wordsN z k) ⟨#[44]⟩ wr hcells hlt (by rw [wordsN_len]; omega) (by rw [wordsN_len]; omega) (by show (numT z k).length ≤ _; omega)
      rw [wordsN_len] at J
      have HJ := Lib.hid J
      have HB := Lib.hid hb
      clear J hcells hown hxs hb
      go_wp2_with fail
      refine HJ.out.mono ?_
      rintro e wj ⟨rfl, hbj⟩
      go_wp2
      go_ret
      exact ⟨rfl, by rw [Hg.out]; exact HB.out.trans (hbj.mono (by have := HB.out.size; rw [Hg.out] at this; omega))⟩
end Go.Proofs.YtdaccpffdnbkiaaGreatDoor
