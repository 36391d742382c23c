/-
  What WirePut returns, of the program and of its model, of lists that are not too great; and the law that holds both against each other.
-/
import Derived.Test.YteejmihfjlakiaaDoorWire
import Derived.Test.YteejmihfjlakiaaDoorBuilder
namespace Go.Proofs.YteejmihfjlakiaaDoor
open Go.RowKit
set_option linter.unusedVariables false

def putV (ss : List ByteArray) : ByteArray := if 40 < ss.length ∨ 6000 < (wireL ss).length then ⟨#[]⟩ else ⟨(wireL ss).toArray⟩
def WPost (ss : List ByteArray) (w : World) (e : Ending) (w' : World) : Prop := ∃ t : ByteArray, e = .returned (.string t) ∧ Hid (t = putV ss) ∧ Below w.heap.size w w'

theorem putV_big {ss : List ByteArray} (h : 40 < ss.length ∨ 6000 < (wireL ss).length) : (⟨#[]⟩ : ByteArray) = putV ss := by rw [putV, if_pos h]
theorem putV_ok {ss : List ByteArray} (h : ss.length ≤ 40) (h2 : (wireL ss).length ≤ 6000) : (⟨(wireL ss).toArray⟩ : ByteArray) = putV ss := by rw [putV, if_neg (by omega)]

set_option maxHeartbeats 1000000 in
theorem specWirePut (a : Option Addr) (len cap : Nat) (ss : List ByteArray) (w : World) (h : Strs w a len ss) (hl : len ≤ 1048576) (ht : total ss ≤ 1048576) (hz : (wireL ss).length ≤ 100000000) (hss : ∀ k, k < len → (ss.getD k ByteArray.empty).size ≤ 1048576) :
    Calls Tryd.prog 8 #[.slice a len cap] w (WPost ss w) := by
  have Hs := Lib.hid h
  have Hss := Lib.hid hss
  have Hz := Lib.hid hz
  have Hlen := Lib.hid h.1
  clear h hss hz
  go_enter Tryd.func8, Tryd.ntmps8
  go_wp2_with fail
  refine (specPutAll a len cap ss _ Hs.out hl ht Hz.out Hss.out).mono ?_
  rintro e w2 ⟨t, rfl, hte, hb⟩
  have hsz : Hid (t.size = (wireL ss).length) := by
    show _ = _
    rw [hte.out]; simp [ByteArray.size]
  rcases Nat.lt_or_ge 40 len with c1 | c1
  · go_wp2
    go_ret
    exact ⟨_, rfl, putV_big (Or.inl (by rw [Hlen.out]; exact c1)), hb⟩
  rcases Nat.lt_or_ge 6000 t.size with c2 | c2
  · go_wp2
    go_ret
    exact ⟨_, rfl, putV_big (Or.inr (by rw [← hsz.out]; exact c2)), hb⟩
  · go_wp2
    go_ret
    exact ⟨_, rfl, hte.out.trans (putV_ok (by rw [Hlen.out]; exact c1) (by rw [← hsz.out]; exact c2)), hb⟩

theorem bat_kept {T e : TypeId} {B b : Nat} {p : Value} {bs : List Value} {w w' : World} (h : Lib.BuilderAt T e B b p bs w) (hb : Below w.heap.size w w') : Lib.BuilderAt T e B b p bs w' := by
  obtain ⟨h1, v, h2, h3, h4⟩ := h
  have hlt : b < w.heap.size := by
    rcases Nat.lt_or_ge b w.heap.size with h | h
    · exact h
    · rw [Array.getElem?_eq_none h] at h2; cases h2
  exact ⟨h1, v, (hb.block b hlt).trans h2, h3.kept (row := none) ⟨hb.os, hb.tape, hb.output, hb.size, fun k hk _ => hb.block k hk⟩ (by cases v.ownBlock <;> simp), h4⟩
theorem bld_kept {T e : TypeId} {B b : Nat} {bs : List Value} {w w' : World} (h : Lib.IsBuilder T e B b bs w) (hb : Below w.heap.size w w') : Lib.IsBuilder T e B b bs w' :=
  h.elim (fun h => Or.inl (bat_kept h hb)) fun h => Or.inr (bat_kept h hb)
theorem bld_next {T e : TypeId} {B b : Nat} {A A' : List UInt8} {s t : ByteArray} {w : World} (h : Lib.BuilderAt T e B b (.pointer (some ⟨b, 0, none⟩)) (Lib.byteCells A ++ Lib.strCells t) w) (ht : Hid (t = ⟨(wire1 s).toArray⟩)) (hA : Hid (A' = A ++ wire1 s)) : Lib.IsBuilder T e B b (Lib.byteCells A') w := by
  have e : Lib.strCells ⟨(wire1 s).toArray⟩ = Lib.byteCells (wire1 s) := rfl
  rw [ht.out, e, ← Lib.byteCells_append, ← hA.out] at h
  exact Or.inr h

set_option maxHeartbeats 2000000 in
theorem implWirePut (a : Option Addr) (len cap : Nat) (ss : List ByteArray) (w : World) (h : Strs w a len ss) (hL : Laid w) (hl : len ≤ 1048576) (hss : ∀ k, k < len → (ss.getD k ByteArray.empty).size ≤ 1048576) :
    Calls Tryd.prog 10 #[.slice a len cap] w (WPost ss w) := by
  have Hs := Lib.hid h
  have Hss := Lib.hid hss
  have Hlen := Lib.hid h.1
  clear h hss
  rcases Nat.lt_or_ge 40 len with c1 | c1
  · go_enter Tryd.func10, Tryd.ntmps10
    go_wp2
    go_ret
    refine ⟨_, rfl, putV_big (Or.inl (by rw [Hlen.out]; exact c1)), ?_⟩
    first | exact Below.refl _ _ | exact (Below.refl _ _).alloc (Nat.le_refl _) _
  · go_enter Tryd.func10, Tryd.ntmps10
    go_wp2_with fail
    have hfresh := Lib.fresh_isBuilder 37 5 w
    have hb0 : Below w.heap.size w (w.alloc (.cells #[.pointer none, .slice none 0 0] 37)) := (Below.refl _ _).alloc (Nat.le_refl _) _
    go_loopw [11] (fun i wr => ∃ k : Nat, k ≤ len ∧ i = .int .i64 k ∧ Lib.IsBuilder 37 5 w.heap.size w.heap.size (Lib.byteCells (wireL (ss.take k))) wr ∧ (wireL (ss.take k)).length ≤ 6000 ∧ Below w.heap.size w wr) (fun i _ => len - (intOf i).toNat)
    case atStart => exact ⟨0, Nat.zero_le _, rfl, hfresh, by simp [wireL], hb0⟩
    case round =>
      clear hfresh hb0
      obtain ⟨k, hk, rfl, hB, hle, hb⟩ := hrel
      rcases Nat.lt_or_ge k len with hlt | hge
      · obtain ⟨-, hc⟩ := Hs.out.kept hb
        rcases hc with hc | ⟨b, off, rfl, hbl, hcell⟩
        · omega
        have c2 := hcell k hlt
        clear hcell
        have hsz := Hss.out k hlt
        have Hsn : Hid (wireL (ss.take (k + 1)) = wireL (ss.take k) ++ wire1 (ss.getD k ByteArray.empty)) := by
          show _ = _
          rw [takeStr ss k (by rw [Hlen.out]; exact hlt), wireL_snoc]
        have Hpre := Lib.hid (wireL_take_le ss (k + 1))
        have HB := Lib.hid hB
        clear hB
        generalize ss.getD k ByteArray.empty = s at *
        have hLr := laid_stays hL hb
        go_wp2_with fail
        refine (wordS s _ hsz hLr).mono ?_
        rintro e w2 ⟨t, rfl, htz, hte, hb2, hL2⟩
        have HB2 := Lib.hid (bld_kept HB.out hb2)
        have hbw2 : Below w.heap.size w w2 := hb.trans (hb2.mono hb.size)
        clear c2
        go_wp2_with fail
        refine (Tryd.Builder_WriteStringH _ _ _ t _ HB2.out (by rw [Lib.byteCells_length]; omega) hbw2.size).mono ?_
        rintro e w3 ⟨rfl, hA, hb3⟩
        have HB3 := Lib.hid (bld_next hA hte Hsn)
        have hbw3 : Below w.heap.size w w3 := hbw2.trans hb3
        clear hA
        go_wp2_with fail
        refine ((Tryd.Builder_Len _ _ _ _ HB3.out).mono fun e w' h => (⟨h.1, h.2.symm⟩ : e = _ ∧ w3 = w')).mono ?_
        rintro e w' ⟨rfl, rfl⟩
        rw [Lib.byteCells_length]
        generalize hn : (wireL (ss.take (k + 1))).length = n at *
        have Hn := Lib.hid hn
        clear hn
        rcases Nat.lt_or_ge 6000 n with c3 | c3
        · go_wp2
          go_ret
          exact ⟨_, rfl, putV_big (Or.inr (by have := Hpre.out; omega)), hbw3⟩
        · go_wp2
          go_roundw
          case rel => exact ⟨k + 1, by omega, by go_num, HB3.out, by rw [Hn.out]; exact c3, hbw3⟩
          case measure => simp [intOf]; omega
      · obtain rfl : k = len := by omega
        have hfull : ss.take k = ss := List.take_of_length_le (by rw [Hlen.out]; exact Nat.le_refl _)
        have HB := Lib.hid hB
        have Hf := Lib.hid hfull
        clear hB hfull
        go_wp2_with fail
        refine (Tryd.Builder_String_any _ _ (wireL ss) _ (by have := HB.out; rw [Hf.out] at this; exact this) hb.size).mono ?_
        rintro e w3 ⟨rfl, hb3⟩
        go_wp2
        go_ret
        exact ⟨_, rfl, putV_ok (by rw [Hlen.out]; exact c1) (by rw [← Hf.out]; exact hle), hb.trans hb3⟩

theorem size_le_total (ss : List ByteArray) (k : Nat) (h : k < ss.length) : (ss.getD k ByteArray.empty).size ≤ total ss := by
  induction ss generalizing k with
  | nil => simp at h
  | cons x r ih =>
    cases k with
    | zero => simp [total]
    | succ k =>
      have := ih k (by simpa using h)
      simp only [List.getD_cons_succ, total]; omega

set_option maxHeartbeats 2000000 in
theorem exactWirePut (a : Option Addr) (len cap : Nat) (z : List ByteArray) (w : World) (w0 : IsRowS w a len cap z) (hL : Laid w) :
    Calls Tryd.prog 3 #[.slice a len cap] w fun e w' => e = .returned (.bool true) ∧ Below w.heap.size w w' := by
  obtain ⟨hs, hlc, hcm⟩ := strs_of_row w0
  have hzs : ∀ s ∈ z.take len, s.size ≤ 9223372036854775807 := by
    intro s hm
    rcases w0 with ⟨-, -, -, rfl⟩ | ⟨x, -, -, -, -, -, h⟩
    · simp at hm
    · have := h s (List.mem_of_mem_take hm); unfold maxLen at this; omega
  clear w0
  generalize z.take len = ss at *
  have hl : (len : Int) ≤ 9223372036854775807 := by unfold maxLen at hcm; omega
  have Hs := Lib.hid hs
  have Hzs := Lib.hid hzs
  clear hs hzs hcm hlc
  go_enter Tryd.func3, Tryd.ntmps3
  go_wp2_with fail
  refine (szStrs a len cap ss 1048576 _ Hs.out hl (by omega) (by omega) Hzs.out).mono ?_
  rintro e w' ⟨r, r0, r1, rfl, hr, rfl⟩
  rcases Int.lt_or_le r 0 with c0 | c0
  · go_wp2
    go_ret
    exact ⟨rfl, Below.refl _ _⟩
  · have ht := hr.out c0
    have hlen := Hs.out.1
    have h1 : len ≤ 1048576 := by omega
    have h2 : total ss ≤ 1048576 := by omega
    have h3 : (wireL ss).length ≤ 100000000 := by have := wireL_len ss h2; omega
    have h4 : Hid (∀ k, k < len → (ss.getD k ByteArray.empty).size ≤ 1048576) := fun k hk => Nat.le_trans (size_le_total ss k (by rw [hlen]; exact hk)) h2
    have Hlen := Lib.hid hlen
    have H3 := Lib.hid h3
    clear hr ht hlen h3
    go_wp2_with fail
    refine (copyStrs a len cap ss _ Hs.out h1).mono ?_
    rintro e w1 ⟨g1, hg1, rfl, hc1, hb1⟩
    go_wp2_with fail
    refine (specWirePut _ _ _ ss _ hc1 (by rw [Hlen.out]; exact h1) h2 H3.out (by rw [Hlen.out]; exact h4.out)).mono ?_
    rintro e w2 ⟨t2, rfl, ht2, hb2⟩
    have hbw2 : Below w.heap.size w w2 := bt hb1 hb2
    go_wp2_with fail
    refine (copyStrs a len cap ss _ (Hs.out.kept hbw2) h1).mono ?_
    rintro e w3 ⟨g3, hg3, rfl, hc3, hb3⟩
    have hbw3 : Below w.heap.size w w3 := bt hbw2 hb3
    go_wp2_with fail
    refine (implWirePut _ _ _ ss _ hc3 (laid_stays hL hbw3) (by rw [Hlen.out]; exact h1) (by rw [Hlen.out]; exact h4.out)).mono ?_
    rintro e w4 ⟨t4, rfl, ht4, hb4⟩
    obtain rfl : t4 = t2 := ht4.out.trans ht2.out.symm
    clear ht2 ht4
    have hbw4 : Below w.heap.size w w4 := bt hbw3 hb4
    go_wp2_with fail
    refine (copyStrs a len cap ss _ (Hs.out.kept hbw4) h1).mono ?_
    rintro e w5 ⟨g5, hg5, rfl, hc5, hb5⟩
    have hbw5 : Below w.heap.size w w5 := bt hbw4 hb5
    go_wp2_with fail
    refine (eqStrs _ _ _ _ _ ss _ (hc3.kept (bt hb4 hb5)) hc5 (by rw [Hlen.out]; exact h1)).mono ?_
    rintro e w' ⟨rfl, q, rfl⟩
    go_wp2
    go_ret
    exact ⟨rfl, belowN hbw5 q⟩
end Go.Proofs.YteejmihfjlakiaaDoor
