/-
  The next record at a cursor, by the program.
-/
import Derived.Test.YtiganhkmnklhlaaDoorLogImpl
import Derived.Test.YtiganhkmnklhlaaDoorDoorL
import Derived.Maps.AppendAt
namespace Go.Proofs.YtiganhkmnklhlaaDoor
open Go.RowKit
set_option linter.unusedVariables false
set_option linter.unusedSimpArgs false

def CurAt (w : World) (c : Nat) (t : ByteArray) (m : Nat) : Prop := w.heap[c]? = some (.cells #[.string t, .int .i64 m] 42 (0, 0))
theorem CurAt.lt {w : World} {c m : Nat} {t : ByteArray} (h : CurAt w c t m) : c < w.heap.size := ltB h
theorem CurAt.kept {w w' : World} {c m : Nat} {t : ByteArray} (h : CurAt w c t m) (hb : Below w.heap.size w w') : CurAt w' c t m := (hb.block c h.lt).trans h
theorem CurAt.cells {w : World} {c m : Nat} {t : ByteArray} (h : CurAt w c t m) : w.cell? ⟨c, 0, none⟩ = some (.string t) ∧ w.cell? ⟨c, 1, none⟩ = some (.int .i64 m) ∧ w.frozen? ⟨c, 1, none⟩ = false :=
  ⟨by rw [Lib.cell_of_heap h]; rfl, by rw [Lib.cell_of_heap h]; rfl, Lib.frozen_of_heap h 1⟩
theorem CurAt.set {w : World} {c m : Nat} {t : ByteArray} (h : CurAt w c t m) (n : Nat) : CurAt (w.setCell ⟨c, 1, none⟩ (.int .i64 n)) c t n := by
  have hb : w.heap[c]? = _ := h
  unfold CurAt
  simp [World.setCell, Array.getElem?_modify, hb]

theorem toG {w w' : World} (h : Below w.heap.size w w') (row : Option Nat) : w.grownBy w' row := ⟨h.os, h.tape, h.output, h.size, fun k hk _ => h.block k hk⟩
theorem drewG (w : World) (row : Option Nat) : w.grownBy w.drew row := ⟨rfl, rfl, rfl, Nat.le_refl _, fun _ _ _ => rfl⟩
theorem laidAt_of {w : World} (h : LaidL w) : LaidAt w.heap.size w := fun W k => laidL_stays h k
def NextYes (c k m : Nat) (t : ByteArray) (w : World) (e : Ending) (w' : World) : Prop := ∃ x : ByteArray, e = .returned (.tuple #[.string x, .bool true]) ∧ x.size + 17 + m ≤ t.size ∧ Hid (FB (t.data.toList.drop m) k x) ∧ CurAt w' c t (m + (frame k x).length) ∧ w.grownBy w' (some c)
def NextNo (c k m : Nat) (t : ByteArray) (w : World) (e : Ending) (w' : World) : Prop := e = .returned (.tuple #[.string ⟨#[]⟩, .bool false]) ∧ Hid (∀ x, ¬ FB (t.data.toList.drop m) k x) ∧ CurAt w' c t m ∧ w.grownBy w' (some c)
def NextPost (c k m : Nat) (t : ByteArray) (w : World) (e : Ending) (w' : World) : Prop := NextYes c k m t w e w' ∨ NextNo c k m t w e w'

section
variable {L : List UInt8} {k : Nat} {B1 F2 B2 F1 : ByteArray} {b1 b2 : Bool}
theorem cuts_of {x : ByteArray} (c1 : Lib.cut L [58] = (F1.data.toList, B1.data.toList, b1)) (c2 : Lib.cut B1.data.toList [58] = (F2.data.toList, B2.data.toList, b2)) (h : FB L k x) :
    F2.data.toList = Lib.decDigits x.size ∧ ∃ r, B2.data.toList = x.data.toList ++ r := by
  obtain ⟨r, -, d1, d2⟩ := fb_cut h
  rw [d1] at c1
  have e1 : Lib.decDigits x.size ++ 58 :: (x.data.toList ++ (sum12 (frB k x) ++ 59 :: r)) = B1.data.toList := congrArg (fun p => p.2.1) c1
  rw [← e1, d2] at c2
  exact ⟨(congrArg Prod.fst c2).symm, _, (congrArg (fun p => p.2.1) c2).symm⟩
theorem nx1 (hs : L.length ≤ 1000000000) (c1 : Lib.cut L [58] = (F1.data.toList, B1.data.toList, b1)) (c2 : Lib.cut B1.data.toList [58] = (F2.data.toList, B2.data.toList, b2)) (h : ∀ v, Lib.atoiAll F2.data.toList ≠ .ok v) : ∀ x, ¬ FB L k x := by
  intro x hx
  have := fb_size hx
  obtain ⟨e, -⟩ := cuts_of c1 c2 hx
  exact h _ (by rw [e]; exact atoi_digits x.size (by omega))
theorem nx2 (hs : L.length ≤ 1000000000) (c1 : Lib.cut L [58] = (F1.data.toList, B1.data.toList, b1)) (c2 : Lib.cut B1.data.toList [58] = (F2.data.toList, B2.data.toList, b2)) {v : Int} (h : Lib.atoiAll F2.data.toList = .ok v) : ∀ x, FB L k x → v = x.size ∧ ∃ r, B2.data.toList = x.data.toList ++ r := by
  intro x hx
  have := fb_size hx
  obtain ⟨e, r, e2⟩ := cuts_of c1 c2 hx
  rw [e, atoi_digits x.size (by omega)] at h
  cases h
  exact ⟨rfl, r, e2⟩
theorem nx3 (hs : L.length ≤ 1000000000) (c1 : Lib.cut L [58] = (F1.data.toList, B1.data.toList, b1)) (c2 : Lib.cut B1.data.toList [58] = (F2.data.toList, B2.data.toList, b2)) {v : Int} (h : Lib.atoiAll F2.data.toList = .ok v) (hv : v < 0 ∨ (B2.size : Int) < v) : ∀ x, ¬ FB L k x := by
  intro x hx
  obtain ⟨rfl, r, e⟩ := nx2 hs c1 c2 h x hx
  have := congrArg List.length e
  simp at this
  omega
theorem nx4 (hs : L.length ≤ 1000000000) (c1 : Lib.cut L [58] = (F1.data.toList, B1.data.toList, b1)) (c2 : Lib.cut B1.data.toList [58] = (F2.data.toList, B2.data.toList, b2)) {n : Nat} (h : Lib.atoiAll F2.data.toList = .ok (n : Int)) (hn : n ≤ B2.size) (hp : Lib.hasPrefix L (frame k (B2.extract 0 n)) = false) : ∀ x, ¬ FB L k x := by
  intro x hx
  obtain ⟨e0, r, e⟩ := nx2 hs c1 c2 h x hx
  have en : n = x.size := by omega
  have ex : B2.extract 0 n = x := by
    apply ByteArray.ext
    apply Array.ext'
    rw [Lib.extract_data, e, en]
    simp
  rw [ex] at hp
  have : (frame k x).isPrefixOf L = true := List.isPrefixOf_iff_prefix.2 hx
  unfold Lib.hasPrefix at hp
  rw [this] at hp; cases hp
theorem nx5 {x : ByteArray} (hp : Lib.hasPrefix L (frame k x) = true) : FB L k x := List.isPrefixOf_iff_prefix.1 hp
end

set_option maxRecDepth 100000 in
set_option maxHeartbeats 8000000 in
theorem nextRec (c k m : Nat) (t : ByteArray) (w : World) (hc : CurAt w c t m) (hm : m ≤ t.size) (ht : t.size ≤ 1048576) (hk : k ≤ 1048576) (hL : LaidL w) :
    Calls Tryd.prog 20 #[.pointer (some ⟨c, 0, none⟩), .int .i64 k] w (NextPost c k m t w) := by
  have HC := Lib.hid hc
  have HLw := Lib.hid (laidAt_of hL)
  obtain ⟨d0, d1, d2⟩ := hc.cells
  clear hc hL d2
  have htl : t.data.toList.length = t.size := by simp
  have hrl : (t.extract m t.size).data.toList = t.data.toList.drop m := by rw [Lib.extract_data, List.take_of_length_le (by simp)]
  have hrs : (t.extract m t.size).size ≤ 1048576 := by rw [ByteArray.size_extract]; omega
  have hll : (t.data.toList.drop m).length ≤ 1000000000 := by rw [List.length_drop, htl]; omega
  have HRL := Lib.hid hrl
  have HRS := Lib.hid hrs
  have HLL := Lib.hid hll
  clear htl hrl hrs hll
  go_enter Tryd.func20, Tryd.ntmps20
  go_wp2_with fail
  go_quiet (fail)
  go_wp2_with fail
  obtain ⟨mm, hmm⟩ := HLw.out.here.2.2
  generalize hR : t.extract m t.size = R at *
  have HR := Lib.hid hR
  clear hR
  refine (cutS R mm _ HRS.out (by simpa using hmm)).mono ?_
  rintro e w1 ⟨F1, B1, b1, rfl, hF1, hB1, hc1, hd1⟩
  have hb1 : Below w.heap.size w w1 := (belowN (Below.refl _ w) _).trans (drew_below hd1)
  have hm1 := (HLw.out.next hb1).here.2.2
  obtain ⟨mm1, hm1⟩ := hm1
  rw [HRL.out] at hc1
  have hRs := HRS.out
  have hB1s : B1.size ≤ 1048576 := by omega
  clear hmm hd1
  go_wp2_with fail
  refine (cutS B1 mm1 _ hB1s hm1).mono ?_
  rintro e w2 ⟨F2, B2, b2, rfl, hF2, hB2, hc2, hd2⟩
  have hb2 : Below w.heap.size w w2 := hb1.trans ((drew_below hd2 : Below w1.heap.size w1 w2).mono hb1.size)
  have hB2s : B2.size ≤ 1048576 := by omega
  have hF2s : F2.size ≤ 1048576 := by omega
  clear hd2 hm1
  go_wp2_with fail
  by_cases hex : ∃ v, Lib.atoiAll F2.data.toList = .ok v
  · obtain ⟨v, hv⟩ := hex
    refine (atoiGood F2 v (by omega) hv _).mono ?_
    rintro e w3 ⟨rfl, hd3⟩
    have hb3 : Below w.heap.size w w3 := hb2.trans (hd3.mono hb2.size)
    have HV := Lib.hid hv
    have HB3 := Lib.hid hb3
    have HC3 := Lib.hid (HC.out.kept hb3)
    clear hv hd3
    rcases Int.lt_or_le v 0 with c1 | c1
    · have hno := Lib.hid (nx3 (k := k) HLL.out hc1.out hc2.out HV.out (Or.inl c1))
      go_wp2_with fail
      go_ret2
      exact Or.inr ⟨rfl, hno.out, HC3.out, toG HB3.out _⟩
    obtain ⟨n, rfl⟩ := Int.eq_ofNat_of_zero_le c1
    rcases Nat.lt_or_ge B2.size n with c2 | c2
    · have hno := Lib.hid (nx3 (k := k) HLL.out hc1.out hc2.out HV.out (Or.inr (by omega)))
      go_wp2_with fail
      go_ret2
      exact Or.inr ⟨rfl, hno.out, HC3.out, toG HB3.out _⟩
    have hx : (B2.extract 0 n).size ≤ 1048576 := by rw [ByteArray.size_extract]; omega
    have hn4 := fun hp => nx4 (k := k) HLL.out hc1.out hc2.out HV.out c2 hp
    have N4 := Lib.hid hn4
    clear hn4
    generalize hX : B2.extract 0 n = x at *
    go_wp2_with fail
    have hsz3 := HB3.out.size
    have hbA := HB3.out.alloc (B := w.heap.size) hsz3 (.cells #[.pointer none, .slice none 0 0] tW)
    refine (addW w3.heap.size w3.heap.size k [] x _ (Lib.fresh_isBuilder _ _ w3) hk hx (by simp) (by simp) ((HLw.out.next hbA).up hsz3)).mono ?_
    rintro e w4 ⟨rfl, h4, hd4⟩
    have hb4 : Below w.heap.size w w4 := hbA.trans (hd4.mono hsz3)
    have HB4 := Lib.hid hb4
    have HC4 := Lib.hid (HC.out.kept hb4)
    rw [List.nil_append] at h4
    have H4 := Lib.hid h4
    have hne : frame k x ≠ [] := by intro e; have := frame_ge k x; rw [e] at this; simp at this
    clear h4 hd4 hbA
    go_wp2_with fail
    refine (stringB w3.heap.size w3.heap.size (frame k x) _ H4.out.any hne).mono ?_
    rintro e w5 ⟨rfl, hd5, ao, cap, hc5⟩
    have hb5 : Below w.heap.size w w5 := HB4.out.trans (hd5.mono hsz3)
    have HB5 := Lib.hid hb5
    have HC5 := Lib.hid (HC.out.kept hb5)
    go_wp2_with fail
    refine (Tryd.strings_HasPrefix R ⟨(frame k x).toArray⟩ _).mono ?_
    rintro e w' ⟨rfl, rfl⟩
    generalize hp : Lib.hasPrefix R.data.toList (ByteArray.mk (frame k x).toArray).data.toList = hpb
    have hp2 : Hid (Lib.hasPrefix (t.data.toList.drop m) (frame k x) = hpb) := by
      have : Lib.hasPrefix R.data.toList (frame k x) = hpb := by simpa using hp
      rw [HRL.out] at this
      exact this
    clear hp
    cases hpb with
    | false =>
      go_wp2_with fail
      go_ret2
      exact Or.inr ⟨rfl, N4.out hp2.out, HC5.out, toG HB5.out _⟩
    | true =>
      have hfb := Lib.hid (nx5 hp2.out)
      have hz := fb_size hfb.out
      have hfl : m + (frame k x).length ≤ t.size := by
        obtain ⟨r, hr⟩ := hfb.out
        have := congrArg List.length hr
        simp only [List.length_append, List.length_drop] at this
        have e : t.data.toList.length = t.size := by simp
        omega
      have hz2 : x.size + 17 + m ≤ t.size := by have := frame_ge k x; omega
      have HZ2 := Lib.hid hz2
      generalize hFL : (frame k x).length = fl at *
      have HFL := Lib.hid hFL
      have hw : IntKind.i64.wrap ((m : Int) + (fl : Int)) = ((m + fl : Nat) : Int) := by rw [IntWalk.i64_in _ (by omega)]; omega
      obtain ⟨e0, e1, f1⟩ := HC5.out.cells
      clear hz hz2 hfl hFL
      go_wp2_with fail
      go_region_with (go_at_call 24; go_must (refine (lenAt w3.heap.size fl cap ao _ ?_).mono ?_); go_must (exact hc5); rintro e w6 ⟨rfl, rfl⟩)
      all_goals
        go_wp2
        go_ret2
        refine Or.inl ⟨x, rfl, HZ2.out, hfb.out, ?_, ?_⟩
        · rw [HFL.out]
          have := HC5.out.set (m + fl)
          rw [Int.natCast_add] at this
          exact this
        · exact ((toG HB5.out _).trans (grown_set _ ⟨c, 1, none⟩ _)).trans (drewG _ _)
  · have Hex : Hid (∀ v, Lib.atoiAll F2.data.toList ≠ .ok v) := fun v hv => hex ⟨v, hv⟩
    clear hex
    have hL2 := (HLw.out.next hb2).here.1
    refine (atoiBad F2 (by omega) Hex.out _ hL2).mono ?_
    rintro e w3 ⟨v, ty, q, rfl, hd3⟩
    have hb3 : Below w.heap.size w w3 := hb2.trans (hd3.mono hb2.size)
    have hno := Lib.hid (nx1 (k := k) HLL.out hc1.out hc2.out Hex.out)
    have HB3 := Lib.hid hb3
    have HC3 := Lib.hid (HC.out.kept hb3)
    go_wp2_with fail
    go_ret2
    exact Or.inr ⟨rfl, hno.out, HC3.out, toG HB3.out _⟩
end Go.Proofs.YtiganhkmnklhlaaDoor
