/-
  What WirePut returns, of the program and of its model, of lists that are not too great; and the law that holds both against each other.
-/
import Derived.Test.YtifpdamghmlcfaaDoorWire
import Derived.Test.YtifpdamghmlcfaaDoorBuilder
import Derived.Test.YtifpdamghmlcfaaDoorEqStrs
namespace Go.Proofs.YtifpdamghmlcfaaDoor
open Go.RowKit
set_option linter.unusedVariables false

def putV (ss : List ByteArray) : ByteArray := if 40 < ss.length ∨ 6000 < (wireL ss).length then ⟨#[]⟩ else ⟨(wireL ss).toArray⟩
def WPost (ss : List ByteArray) (w : World) (e : Ending) (w' : World) : Prop := ∃ t : ByteArray, e = .returned (.string t) ∧ Hid (t = putV ss) ∧ Below w.heap.size w w'

theorem putV_big {ss : List ByteArray} (h : 40 < ss.length ∨ 6000 < (wireL ss).length) : (⟨#[]⟩ : ByteArray) = putV ss := by rw [putV, if_pos h]
theorem putV_ok {ss : List ByteArray} (h : ss.length ≤ 40) (h2 : (wireL ss).length ≤ 6000) : (⟨(wireL ss).toArray⟩ : ByteArray) = putV ss := by rw [putV, if_neg (by omega)]

theorem putV_size (ss : List ByteArray) : (putV ss).size ≤ 6000 := by
  unfold putV
  split
  · show (#[] : Array UInt8).size ≤ 6000; simp
  · rename_i h
    show ((wireL ss).toArray).size ≤ 6000
    simp; omega

set_option maxHeartbeats 1000000 in
theorem specWirePut (a : Option Addr) (len cap : Nat) (ss : List ByteArray) (w : World) (h : Strs w a len ss) (hl : len ≤ 1048576) (ht : total ss ≤ 1048576) (hz : (wireL ss).length ≤ 100000000) (hss : ∀ k, k < len → (ss.getD k ByteArray.empty).size ≤ 1048576) :
    Calls Tryd.prog 11 #[.slice a len cap] w (WPost ss w) := by
  have Hs := Lib.hid h
  have Hss := Lib.hid hss
  have Hz := Lib.hid hz
  have Hlen := Lib.hid h.1
  clear h hss hz
  go_enter Tryd.func11, Tryd.ntmps11
  go_wp2_with fail
  refine (specPutAll a len cap ss _ Hs.out hl ht Hz.out Hss.out).mono ?_
  rintro e w2 ⟨t, rfl, hte, hb⟩
  have hsz : Hid (t.size = (wireL ss).length) := by
    show _ = _
    rw [hte.out]; simp [ByteArray.size]
  rcases Nat.lt_or_ge 40 len with c1 | c1
  · go_wp2
    go_ret
    exact ⟨_, rfl, putV_big (Or.inl (by rw [Hlen.out]; exact c1)), hb⟩
  rcases Nat.lt_or_ge 6000 t.size with c2 | c2
  · go_wp2
    go_ret
    exact ⟨_, rfl, putV_big (Or.inr (by rw [← hsz.out]; exact c2)), hb⟩
  · go_wp2
    go_ret
    exact ⟨_, rfl, hte.out.trans (putV_ok (by rw [Hlen.out]; exact c1) (by rw [← hsz.out]; exact c2)), hb⟩

theorem bat_kept {T e : TypeId} {B b : Nat} {p : Value} {bs : List Value} {w w' : World} (h : Lib.BuilderAt T e B b p bs w) (hb : Below w.heap.size w w') : Lib.BuilderAt T e B b p bs w' := by
  obtain ⟨h1, v, h2, h3, h4⟩ := h
  have hlt : b < w.heap.size := by
    rcases Nat.lt_or_ge b w.heap.size with h | h
    · exact h
    · rw [Array.getElem?_eq_none h] at h2; cases h2
  exact ⟨h1, v, (hb.block b hlt).trans h2, h3.kept (row := none) ⟨hb.os, hb.tape, hb.output, hb.size, fun k hk _ => hb.block k hk⟩ (by cases v.ownBlock <;> simp), h4⟩
theorem bld_kept {T e : TypeId} {B b : Nat} {bs : List Value} {w w' : World} (h : Lib.IsBuilder T e B b bs w) (hb : Below w.heap.size w w') : Lib.IsBuilder T e B b bs w' :=
  h.elim (fun h => Or.inl (bat_kept h hb)) fun h => Or.inr (bat_kept h hb)
theorem bld_next {T e : TypeId} {B b : Nat} {A A' : List UInt8} {s t : ByteArray} {w : World} (h : Lib.BuilderAt T e B b (.pointer (some ⟨b, 0, none⟩)) (Lib.byteCells A ++ Lib.strCells t) w) (ht : Hid (t = ⟨(wire1 s).toArray⟩)) (hA : Hid (A' = A ++ wire1 s)) : Lib.IsBuilder T e B b (Lib.byteCells A') w := by
  have e : Lib.strCells ⟨(wire1 s).toArray⟩ = Lib.byteCells (wire1 s) := rfl
  rw [ht.out, e, ← Lib.byteCells_append, ← hA.out] at h
  exact Or.inr h

set_option maxHeartbeats 2000000 in
theorem implWirePut (a : Option Addr) (len cap : Nat) (ss : List ByteArray) (w : World) (h : Strs w a len ss) (hL : Laid w) (hl : len ≤ 1048576) (hss : ∀ k, k < len → (ss.getD k ByteArray.empty).size ≤ 1048576) :
    Calls Tryd.prog 9 #[.slice a len cap] w (WPost ss w) := by
  have Hs := Lib.hid h
  have Hss := Lib.hid hss
  have Hlen := Lib.hid h.1
  clear h hss
  rcases Nat.lt_or_ge 40 len with c1 | c1
  · go_enter Tryd.func9, Tryd.ntmps9
    go_wp2
    go_ret
    refine ⟨_, rfl, putV_big (Or.inl (by rw [Hlen.out]; exact c1)), ?_⟩
    first | exact Below.refl _ _ | exact (Below.refl _ _).alloc (Nat.le_refl _) _
  · go_enter Tryd.func9, Tryd.ntmps9
    go_wp2_with fail
    have hfresh := Lib.fresh_isBuilder 46 5 w
    have hb0 : Below w.heap.size w (w.alloc (.cells #[.pointer none, .slice none 0 0] 46)) := (Below.refl _ _).alloc (Nat.le_refl _) _
    go_loopw [11] (fun i wr => ∃ k : Nat, k ≤ len ∧ i = .int .i64 k ∧ Lib.IsBuilder 46 5 w.heap.size w.heap.size (Lib.byteCells (wireL (ss.take k))) wr ∧ (wireL (ss.take k)).length ≤ 6000 ∧ Below w.heap.size w wr) (fun i _ => len - (intOf i).toNat)
    case atStart => exact ⟨0, Nat.zero_le _, rfl, hfresh, by simp [wireL], hb0⟩
    case round =>
      clear hfresh hb0
      obtain ⟨k, hk, rfl, hB, hle, hb⟩ := hrel
      rcases Nat.lt_or_ge k len with hlt | hge
      · obtain ⟨-, hc⟩ := Hs.out.kept hb
        rcases hc with hc | ⟨b, off, rfl, hbl, hcell⟩
        · omega
        have c2 := hcell k hlt
        clear hcell
        have hsz := Hss.out k hlt
        have Hsn : Hid (wireL (ss.take (k + 1)) = wireL (ss.take k) ++ wire1 (ss.getD k ByteArray.empty)) := by
          show _ = _
          rw [takeStr ss k (by rw [Hlen.out]; exact hlt), wireL_snoc]
        have Hpre := Lib.hid (wireL_take_le ss (k + 1))
        have HB := Lib.hid hB
        clear hB
        generalize ss.getD k ByteArray.empty = s at *
        have hLr := laid_stays hL hb
        go_wp2_with fail
        refine (wordS s _ hsz hLr).mono ?_
        rintro e w2 ⟨t, rfl, htz, hte, hb2, hL2⟩
        have HB2 := Lib.hid (bld_kept HB.out hb2)
        have hbw2 : Below w.heap.size w w2 := hb.trans (hb2.mono hb.size)
        clear c2
        go_wp2_with fail
        refine (Tryd.Builder_WriteStringH _ _ _ t _ HB2.out (by rw [Lib.byteCells_length]; omega) hbw2.size).mono ?_
        rintro e w3 ⟨rfl, hA, hb3⟩
        have HB3 := Lib.hid (bld_next hA hte Hsn)
        have hbw3 : Below w.heap.size w w3 := hbw2.trans hb3
        clear hA
        go_wp2_with fail
        refine ((Tryd.Builder_Len _ _ _ _ HB3.out).mono fun e w' h => (⟨h.1, h.2.symm⟩ : e = _ ∧ w3 = w')).mono ?_
        rintro e w' ⟨rfl, rfl⟩
        rw [Lib.byteCells_length]
        generalize hn : (wireL (ss.take (k + 1))).length = n at *
        have Hn := Lib.hid hn
        clear hn
        rcases Nat.lt_or_ge 6000 n with c3 | c3
        · go_wp2
          go_ret
          exact ⟨_, rfl, putV_big (Or.inr (by have := Hpre.out; omega)), hbw3⟩
        · go_wp2
          go_roundw
          case rel => exact ⟨k + 1, by omega, by go_num, HB3.out, by rw [Hn.out]; exact c3, hbw3⟩
          case measure => simp [intOf]; omega
      · obtain rfl : k = len := by omega
        have hfull : ss.take k = ss := List.take_of_length_le (by rw [Hlen.out]; exact Nat.le_refl _)
        have HB := Lib.hid hB
        have Hf := Lib.hid hfull
        clear hB hfull
        go_wp2_with fail
        refine (Tryd.Builder_String_any _ _ (wireL ss) _ (by have := HB.out; rw [Hf.out] at this; exact this) hb.size).mono ?_
        rintro e w3 ⟨rfl, hb3⟩
        go_wp2
        go_ret
        exact ⟨_, rfl, putV_ok (by rw [Hlen.out]; exact c1) (by rw [← Hf.out]; exact hle), hb.trans hb3⟩

theorem size_le_total (ss : List ByteArray) (k : Nat) (h : k < ss.length) : (ss.getD k ByteArray.empty).size ≤ total ss := by
  induction ss generalizing k with
  | nil => simp at h
  | cons x r ih =>
    cases k with
    | zero => simp [total]
    | succ k =>
      have := ih k (by simpa using h)
      simp only [List.getD_cons_succ, total]; omega

end Go.Proofs.YtifpdamghmlcfaaDoor
