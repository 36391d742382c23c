/-
  A log with a record more, and whether a log is right as a whole, by the program.
-/
import Derived.Test.YtiganhkmnklhlaaDoorLogRead
namespace Go.Proofs.YtiganhkmnklhlaaDoor
open Go.RowKit
set_option linter.unusedVariables false
set_option linter.unusedSimpArgs false

/-- What LogAdd says: the log with the record, if it is right and there is room, else the log. -/
def AddIs (t x o : ByteArray) (b : Bool) : Prop := ∃ rs m, LogIs t.data.toList rs m ∧
  ((m = t.size ∧ t.size + (frame rs.length x).length ≤ 9000 ∧ o = ⟨(t.data.toList ++ frame rs.length x).toArray⟩ ∧ b = true) ∨ ((m ≠ t.size ∨ 9000 < t.size + (frame rs.length x).length) ∧ o = t ∧ b = false))
theorem add_one {t x o p : ByteArray} {b c : Bool} (hs : t.size ≤ 1048576) (h : AddIs t x o b) (k : AddIs t x p c) : o = p ∧ b = c := by
  obtain ⟨rs, m, h1, h2⟩ := h
  obtain ⟨us, n, k1, k2⟩ := k
  obtain ⟨rfl, rfl⟩ := log_one (by simp; omega) h1 k1
  rcases h2 with ⟨a1, a2, rfl, rfl⟩ | ⟨a1, rfl, rfl⟩
  · rcases k2 with ⟨c1, c2, rfl, rfl⟩ | ⟨c1, -, -⟩
    · exact ⟨rfl, rfl⟩
    · omega
  · rcases k2 with ⟨c1, c2, -, -⟩ | ⟨c1, rfl, rfl⟩
    · omega
    · exact ⟨rfl, rfl⟩
theorem add_size {t x o : ByteArray} {b : Bool} (h : AddIs t x o b) : o.size ≤ 9000 ∨ o = t := by
  obtain ⟨rs, m, h1, h2⟩ := h
  rcases h2 with ⟨a1, a2, rfl, rfl⟩ | ⟨a1, rfl, rfl⟩
  · left
    show (t.data.toList ++ frame rs.length x).toArray.size ≤ 9000
    rw [List.size_toArray, List.length_append]
    simpa using a2
  · exact Or.inr rfl

def AddPost (t x : ByteArray) (w : World) (e : Ending) (w' : World) : Prop := ∃ (o : ByteArray) (b : Bool), e = .returned (.tuple #[.string o, .bool b]) ∧ o.size ≤ 1048576 ∧ Hid (AddIs t x o b) ∧ Below w.heap.size w w'

theorem frame_le {k : Nat} {x : ByteArray} (hk : k < 10000000) (hx : x.size < 10000000) : (frame k x).length ≤ x.size + 29 := by
  have := frame_len k x; have := dec7 hk; have := dec7 hx; omega

set_option maxRecDepth 100000 in
set_option maxHeartbeats 4000000 in
theorem addI (t x : ByteArray) (w : World) (ht : t.size ≤ 1048576) (hx : x.size ≤ 1048576) (hL : LaidL w) :
    Calls Tryd.prog 16 #[.string t, .string x] w (AddPost t x w) := by
  have HL := Lib.hid hL
  clear hL
  go_enter Tryd.func16, Tryd.ntmps16
  go_wp2_with fail
  refine (readI t _ ht HL.out).mono ?_
  rintro e w1 ⟨rs, m, a, cap, rfl, hown, hrn, hm, hlog, hb1⟩
  clear hown
  have HB1 := Lib.hid hb1
  by_cases hmt : m = t.size
  · have hmt2 : ((m : Int) == (t.size : Int)) = true := by simp [hmt]
    subst hmt
    have HL1 := Lib.hid (laidL_stays HL.out hb1)
    have hbA : Below w1.heap.size w1 (w1.alloc (.cells #[.pointer none, .slice none 0 0] tW)) := (Below.refl _ _).alloc (Nat.le_refl _) _
    have hsA : w1.heap.size ≤ (w1.alloc (.cells #[.pointer none, .slice none 0 0] tW)).heap.size := by simp
    have HbA := Lib.hid hbA
    clear hbA
    go_wp2_with fail
    refine (writeStr w1.heap.size w1.heap.size [] t _ (Lib.fresh_isBuilder _ _ w1) (by simp; omega) hsA).mono ?_
    rintro e w2 ⟨rfl, h2, hb2⟩
    have hb12 : Below w1.heap.size w1 w2 := HbA.out.trans hb2
    have H2 := Lib.hid h2
    have hs2 := hb12.size
    have hcl : ([] ++ Lib.strCells t).length = t.size := by rw [List.nil_append, Lib.strCells_length]
    clear h2
    go_wp2_with fail
    refine (addW w1.heap.size w1.heap.size rs.length ([] ++ Lib.strCells t) x _ H2.out.any hrn hx (by rw [hcl]; omega) hs2 ((laidAt_of HL1.out).next hb12)).mono ?_
    rintro e w3 ⟨rfl, h3, hb3⟩
    have hb13 : Below w1.heap.size w1 w3 := hb12.trans hb3
    have hcells : [] ++ Lib.strCells t ++ Lib.byteCells (frame rs.length x) = Lib.byteCells (t.data.toList ++ frame rs.length x) := by rw [Lib.byteCells_append]; rfl
    rw [hcells] at h3
    have H3 := Lib.hid h3
    have hfl := frame_le (k := rs.length) (x := x) (by omega) (by omega)
    have hfg := frame_ge rs.length x
    have hlen : (Lib.byteCells (t.data.toList ++ frame rs.length x)).length = t.size + (frame rs.length x).length := by rw [Lib.byteCells_length, List.length_append]; simp
    have HLen := Lib.hid hlen
    have hbw3 : Below w.heap.size w w3 := HB1.out.trans (hb13.mono HB1.out.size)
    have HB3 := Lib.hid hbw3
    clear h3 hcells hlen hcl hb2 hb3 hb12
    generalize hF : (frame rs.length x).length = fl at *
    have HF := Lib.hid hF
    clear hF
    go_wp2_with fail
    refine (lenB w1.heap.size w1.heap.size _ _ H3.out.any).mono ?_
    rintro e w' ⟨rfl, rfl⟩
    rw [HLen.out]
    rcases Nat.lt_or_ge 9000 (t.size + fl) with c | c
    · have g1 : decide ((9000 : Int) < ((t.size + fl : Nat) : Int)) = true := by simp; omega
      go_wp2
      go_ret2
      exact ⟨t, false, rfl, ht, ⟨rs, _, hlog.out, Or.inr ⟨Or.inr (by rw [HF.out]; exact c), rfl, rfl⟩⟩, HB3.out⟩
    · have g1 : decide ((9000 : Int) < ((t.size + fl : Nat) : Int)) = false := by simp; omega
      go_wp2_with fail
      refine (stringB w1.heap.size w1.heap.size (t.data.toList ++ frame rs.length x) _ H3.out.any (by intro e; have := congrArg List.length e; rw [List.length_append, HF.out] at this; simp at this; omega)).mono ?_
      rintro e w5 ⟨rfl, hd5, -⟩
      have hbw5 : Below w.heap.size w w5 := HB3.out.trans (hd5.mono HB1.out.size)
      go_wp2
      go_ret2
      refine ⟨_, true, rfl, ?_, ⟨rs, _, hlog.out, Or.inl ⟨rfl, by rw [HF.out]; exact c, rfl, rfl⟩⟩, hbw5⟩
      show (t.data.toList ++ frame rs.length x).toArray.size ≤ 1048576
      rw [List.size_toArray, List.length_append, HF.out]
      simp; omega
  · have hmt2 : ((m : Int) == (t.size : Int)) = false := by simp; omega
    go_wp2
    go_ret2
    exact ⟨t, false, rfl, ht, ⟨rs, m, hlog.out, Or.inr ⟨Or.inl hmt, rfl, rfl⟩⟩, HB1.out⟩

def OkPost (t : ByteArray) (w : World) (e : Ending) (w' : World) : Prop := ∃ b : Bool, e = .returned (.bool b) ∧ Hid (b = true ↔ t.size ≤ 9000 ∧ ∃ rs, LogIs t.data.toList rs t.size) ∧ Below w.heap.size w w'
theorem ok_is {t : ByteArray} {rs : List ByteArray} {m : Nat} (hs : t.size ≤ 1048576) (h : LogIs t.data.toList rs m) : (decide (m = t.size) && decide (t.size ≤ 9000)) = true ↔ t.size ≤ 9000 ∧ ∃ rs, LogIs t.data.toList rs t.size := by
  simp only [Bool.and_eq_true, decide_eq_true_eq]
  constructor
  · rintro ⟨rfl, h2⟩
    exact ⟨h2, rs, h⟩
  · rintro ⟨h1, us, h2⟩
    exact ⟨(log_one (by simp; omega) h h2).2, h1⟩

set_option maxHeartbeats 1000000 in
theorem okI (t : ByteArray) (w : World) (ht : t.size ≤ 1048576) (hL : LaidL w) :
    Calls Tryd.prog 8 #[.string t] w (OkPost t w) := by
  go_enter Tryd.func8, Tryd.ntmps8
  go_wp2_with fail
  refine (readI t _ ht hL).mono ?_
  rintro e w1 ⟨rs, m, a, cap, rfl, hown, hrn, hm, hlog, hb1⟩
  clear hown
  have hok := Lib.hid (ok_is ht hlog.out)
  by_cases hmt : m = t.size
  · have e1 : ((m : Int) == (t.size : Int)) = true := by simp [hmt]
    subst hmt
    rcases Nat.lt_or_ge 9000 t.size with c | c
    · have g1 : decide ((t.size : Int) ≤ 9000) = false := by simp; omega
      go_wp2
      go_ret
      refine ⟨false, rfl, ?_, hb1⟩
      show _ ↔ _
      rw [← hok.out]; simp; omega
    · have g1 : decide ((t.size : Int) ≤ 9000) = true := by simp; omega
      go_wp2
      go_ret
      refine ⟨true, rfl, ?_, hb1⟩
      show _ ↔ _
      rw [← hok.out]; simp; omega
  · have e1 : ((m : Int) == (t.size : Int)) = false := by simp; omega
    go_wp2
    go_ret
    refine ⟨false, rfl, ?_, hb1⟩
    show _ ↔ _
    rw [← hok.out]; simp [hmt]
end Go.Proofs.YtiganhkmnklhlaaDoor
