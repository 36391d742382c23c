/-
  The place of a leg in a net: the model's answer and the program's.
-/
import Derived.Test.YtjlfbcplocjemaaNetHelp
import Derived.Test.YtjlfbcplocjemaaLegOkI
namespace Go.Proofs.Ytjlfbcplocjemaa
open Go.RowKit
set_option linter.unusedVariables false
set_option linter.unusedSimpArgs false

/-- The first leg of a name, -1 if there is none. -/
def PlaceIs (ds : Nat → LegD) (n : Nat) (s : ByteArray) (r : Int) : Prop := (r = -1 ∧ ∀ j, j < n → (ds j).name ≠ s) ∨ (∃ j : Nat, j < n ∧ r = j ∧ (ds j).name = s ∧ ∀ q, q < j → (ds q).name ≠ s)
def PlacePost (ds : Nat → LegD) (n : Nat) (s : ByteArray) (w : World) (e : Ending) (w' : World) : Prop := ∃ r : Int, e = .returned (.int .i64 r) ∧ Hid (PlaceIs ds n s r) ∧ Below w.heap.size w w'
set_option maxHeartbeats 4000000 in
theorem placeS (a : Option Addr) (n cap : Nat) (ds : Nat → LegD) (ps : Nat → LegP) (s : ByteArray) (w : World) (h : Legs w a n ds ps) (hl : n ≤ 1048576) :
    Calls Try.prog 25 #[.slice a n cap, .string s] w (PlacePost ds n s w) := by
  have H := Lib.hid h
  clear h
  go_enter Try.func25, Try.ntmps25
  go_wp2_with fail
  go_loopw [5] (fun i wr => ∃ k : Nat, k ≤ n ∧ i = .int .i64 k ∧ Hid (∀ j, j < k → (ds j).name ≠ s) ∧ wr = w) (fun i _ => n - (intOf i).toNat)
  case atStart => exact ⟨0, Nat.zero_le _, rfl, fun j hj => absurd hj (Nat.not_lt_zero _), rfl⟩
  case round =>
    obtain ⟨k, hk, rfl, hs, rfl⟩ := hrel
    rcases Nat.lt_or_ge k n with hlt | hge
    · rcases H.out with hc | ⟨b, off, rfl, hbl, hrow⟩
      · omega
      have y0 := (hrow k hlt).1.c0
      have k1 : (k : Int) < n := by omega
      have k0 : (0 : Int) ≤ k := by omega
      clear hrow
      generalize hnm : (ds k).name = nm at *
      have Hnm := Lib.hid hnm
      clear hnm
      by_cases e : nm = s
      · have z := str_eq e
        have zd : decide (nm = s) = true := decide_eq_true e
        have HE := Lib.hid e
        clear e
        go_wp2
        go_ret
        exact ⟨k, rfl, .inr ⟨k, hlt, rfl, by rw [Hnm.out]; exact HE.out, hs.out⟩, Below.refl _ _⟩
      · have z := str_neq e
        have zd : decide (nm = s) = false := decide_eq_false e
        have HE := Lib.hid e
        clear e
        go_wp2
        go_roundw
        case rel => exact ⟨k + 1, by omega, by go_num, fun j hj => by
          rcases Nat.lt_or_ge j k with u | u
          · exact hs.out j u
          · obtain rfl : j = k := by omega
            rw [Hnm.out]; exact HE.out, (by first | rfl | trivial)⟩
        case measure => simp [intOf]; omega
    · obtain rfl : k = n := by omega
      go_wp2
      go_ret
      exact ⟨-1, rfl, .inl ⟨rfl, hs.out⟩, Below.refl _ _⟩
set_option maxHeartbeats 4000000 in
/-- The program's closure: is this the leg of that name? -/
theorem isName (d : LegD) (p : LegP) (x : Addr) (s : ByteArray) (w : World) (hx : w.cell? x = some (.string s)) :
    Calls Try.prog 47 #[LegV d p, .pointer (some x)] w fun e w' => e = .returned (.bool (decide (d.name = s))) ∧ Below w.heap.size w w' := by
  have hlx := World.block_lt_of_cell? w _ hx
  have hbA : Below w.heap.size w (w.alloc (.cells (LegC d p) 34)) := (Below.refl _ _).alloc (Nat.le_refl _) _
  have hA := LegBox.new w d p
  have hx2 := (hbA.cell (p := x) hlx).trans hx
  have y0 := hA.c0
  have HB := Lib.hid hbA
  have hV : LegV d p = .agg (LegC d p) := rfl
  rw [hV]
  generalize hLC : LegC d p = LC at *
  clear hA hbA hLC hx hV
  by_cases e : d.name = s
  · have z := str_eq e
    have zd : decide (d.name = s) = true := decide_eq_true e
    rw [zd]
    clear e
    go_enter Try.func47, Try.ntmps47
    go_wp2
    go_ret
    exact ⟨rfl, HB.out⟩
  · have z := str_neq e
    have zd : decide (d.name = s) = false := decide_eq_false e
    rw [zd]
    clear e
    go_enter Try.func47, Try.ntmps47
    go_wp2
    go_ret
    exact ⟨rfl, HB.out⟩
set_option maxHeartbeats 4000000 in
theorem indexI (x : Addr) (a : Option Addr) (n cap : Nat) (ds : Nat → LegD) (ps : Nat → LegP) (s : ByteArray) (w : World) (h : Legs w a n ds ps) (hx : w.cell? x = some (.string s)) (hl : n ≤ 1048576) :
    Calls Try.prog 46 #[.slice a n cap, .func (.func 47) #[] #[.pointer (some x)]] w (PlacePost ds n s w) := by
  have H := Lib.hid h
  have HX := Lib.hid hx
  have hlx := World.block_lt_of_cell? w _ hx
  clear h hx
  go_enter Try.func46, Try.ntmps46
  go_wp2_with fail
  go_loopw [8] (fun i wr => ∃ k : Nat, k ≤ n ∧ i = .int .i64 k ∧ Hid (∀ j, j < k → (ds j).name ≠ s) ∧ Below w.heap.size w wr) (fun i _ => n - (intOf i).toNat)
  case atStart => exact ⟨0, Nat.zero_le _, rfl, fun j hj => absurd hj (Nat.not_lt_zero _), Below.refl _ _⟩
  case round =>
    obtain ⟨k, hk, rfl, hs, hb⟩ := hrel
    rcases Nat.lt_or_ge k n with hlt | hge
    · rcases H.out.kept hb with hc | ⟨b, off, rfl, hbl, hrow⟩
      · omega
      have HR := Lib.hid (hrow k hlt).1
      have HXr := Lib.hid ((hb.cell (p := x) hlx).trans HX.out)
      have k1 : (k : Int) < n := by omega
      have k0 : (0 : Int) ≤ k := by omega
      clear hrow hbl
      have y0 := HR.out.c0
      have y1 := HR.out.c1
      have y2 := HR.out.c2
      have y3 := HR.out.c3
      have y4 := HR.out.c4
      have y5 := HR.out.c5
      have y6 := HR.out.c6
      have y7 := HR.out.c7
      have y8 := HR.out.c8
      have y9 := HR.out.c9
      by_cases e : (ds k).name = s
      · have zd : decide ((ds k).name = s) = true := decide_eq_true e
        have HE := Lib.hid e
        have HC : Hid (Calls Try.prog 47 #[LegV (ds k) (ps k), .pointer (some x)] wr fun e w' => e = .returned (.bool true) ∧ Below wr.heap.size wr w') := by
          have := isName (ds k) (ps k) x s wr HXr.out
          rw [zd] at this
          exact this
        clear e zd
        go_wp2_with fail
        refine HC.out.mono ?_
        rintro e w2 ⟨rfl, hb2⟩
        clear y0 y1 y2 y3 y4 y5 y6 y7 y8 y9
        go_wp2
        go_ret
        exact ⟨k, rfl, .inr ⟨k, hlt, rfl, HE.out, hs.out⟩, bt hb hb2⟩
      · have zd : decide ((ds k).name = s) = false := decide_eq_false e
        have HE := Lib.hid e
        have HC : Hid (Calls Try.prog 47 #[LegV (ds k) (ps k), .pointer (some x)] wr fun e w' => e = .returned (.bool false) ∧ Below wr.heap.size wr w') := by
          have := isName (ds k) (ps k) x s wr HXr.out
          rw [zd] at this
          exact this
        clear e zd
        go_wp2_with fail
        refine HC.out.mono ?_
        rintro e w2 ⟨rfl, hb2⟩
        have hb3 := bt hb hb2
        clear y0 y1 y2 y3 y4 y5 y6 y7 y8 y9
        go_wp2
        go_roundw
        case rel => exact ⟨k + 1, by omega, by go_num, fun j hj => by
          rcases Nat.lt_or_ge j k with u | u
          · exact hs.out j u
          · obtain rfl : j = k := by omega
            exact HE.out, hb3⟩
        case measure => simp [intOf]; omega
    · obtain rfl : k = n := by omega
      go_wp2
      go_ret
      exact ⟨-1, rfl, .inl ⟨rfl, hs.out⟩, hb⟩
set_option maxHeartbeats 4000000 in
theorem placeI (a : Option Addr) (n cap : Nat) (ds : Nat → LegD) (ps : Nat → LegP) (s : ByteArray) (w : World) (h : Legs w a n ds ps) (hl : n ≤ 1048576) :
    Calls Try.prog 23 #[.slice a n cap, .string s] w (PlacePost ds n s w) := by
  have hbA : Below w.heap.size w (w.alloc (.cells #[.string s] 9)) := (Below.refl _ _).alloc (Nat.le_refl _) _
  have hx : (w.alloc (.cells #[.string s] 9)).cell? ⟨w.heap.size, 0, none⟩ = some (.string s) := by rw [Lib.cell_of_heap (heap_alloc_new w _)]; rfl
  have H := Lib.hid (h.kept hbA)
  have HB := Lib.hid hbA
  have HX := Lib.hid hx
  clear h hbA hx
  go_enter Try.func23, Try.ntmps23
  go_wp2_with fail
  refine (indexI ⟨w.heap.size, 0, none⟩ a n cap ds ps s _ H.out HX.out hl).mono ?_
  rintro e w1 ⟨r, rfl, hr, hb⟩
  have HB1 := Lib.hid (bt HB.out hb)
  clear hb
  go_wp2
  go_ret
  exact ⟨r, rfl, hr, HB1.out⟩
end Go.Proofs.Ytjlfbcplocjemaa
