/-
  Whether ops are ok: the model's answer and the program's.
-/
import Derived.Test.YtlfmhhdlandcjaaDoorOps
import Derived.Test.YtlfmhhdlandcjaaDoorNameB
import Derived.Lib.Strings
namespace Go.Proofs.YtlfmhhdlandcjaaDoor
open Go.RowKit
set_option linter.unusedVariables false
set_option linter.unusedSimpArgs false

def OkPost (S : Prop) (w : World) (e : Ending) (w' : World) : Prop := ∃ b : Bool, e = .returned (.bool b) ∧ Hid (b = true ↔ S) ∧ Below w.heap.size w w'
def OpGood (d : OpD) : Prop := nameB d.leg.data.toList = true ∧ (0 ≤ d.cls ∧ d.cls ≤ 2) ∧ (-4 ≤ d.st ∧ d.st ≤ 4) ∧ d.st ≠ 0 ∧ (0 ≤ d.sh ∧ d.sh ≤ 1000000000000)
/-- The first k ops: each is ok, none is of a leg that another one is of. -/
def OpsTo (k : Nat) (ds : Nat → OpD) : Prop := ∀ i, i < k → OpGood (ds i) ∧ ∀ j, j < i → (ds j).leg ≠ (ds i).leg
def OpsGood (n : Nat) (ds : Nat → OpD) : Prop := (1 ≤ n ∧ n ≤ 3) ∧ OpsTo n ds
theorem OpsTo.next {k : Nat} {ds : Nat → OpD} (h : OpsTo k ds) (h1 : OpGood (ds k)) (h2 : ∀ j, j < k → (ds j).leg ≠ (ds k).leg) : OpsTo (k + 1) ds := by
  intro i hi
  rcases Nat.lt_or_ge i k with q | q
  · exact h i q
  · obtain rfl : i = k := by omega
    exact ⟨h1, h2⟩
theorem str_eq {a b : ByteArray} (h : a = b) : (a.toList == b.toList) = true := by rw [h]; simp
theorem str_neq {a b : ByteArray} (h : ¬ a = b) : (a.toList == b.toList) = false := by
  rw [beq_eq_false_iff_ne]
  intro e
  rw [Lib.toList_data, Lib.toList_data] at e
  exact h (ByteArray.ext (Array.ext' e))
theorem withinI (n lo hi : Int) (w : World) :
    Calls Tryd.prog 44 #[.int .i64 n, .int .i64 lo, .int .i64 hi] w fun e w' => e = .returned (.bool (decide (lo ≤ n) && decide (n ≤ hi))) ∧ w' = w := by
  by_cases h1 : n < lo
  · go_enter Tryd.func44, Tryd.ntmps44
    go_wp2
    go_ret
    exact ⟨retB (by simp; omega), rfl⟩
  · go_enter Tryd.func44, Tryd.ntmps44
    go_wp2
    go_ret
    exact ⟨retB (by simp; try omega), rfl⟩
theorem inS (n lo hi : Int) (w : World) :
    Calls Tryd.prog 43 #[.int .i64 n, .int .i64 lo, .int .i64 hi] w fun e w' => e = .returned (.bool (decide (lo ≤ n) && decide (n ≤ hi))) ∧ w' = w := by
  by_cases h1 : n < lo
  · go_enter Tryd.func43, Tryd.ntmps43
    go_wp2
    go_ret
    exact ⟨retB (by simp; omega), rfl⟩
  · go_enter Tryd.func43, Tryd.ntmps43
    go_wp2
    go_ret
    exact ⟨retB (by simp; try omega), rfl⟩
theorem classI (n : Int) (b : Bool) (hb : (decide ((0 : Int) ≤ n) && decide (n ≤ 2)) = b) (w : World) :
    Calls Tryd.prog 67 #[.int .i64 n] w fun e w' => e = .returned (.bool b) ∧ w' = w := by
  have K : Hid (Calls Tryd.prog 44 #[.int .i64 n, .int .i64 0, .int .i64 2] w fun e w' => e = .returned (.bool b) ∧ w' = w) := by
    rw [← hb]
    exact withinI n 0 2 w
  clear hb
  go_enter Tryd.func67, Tryd.ntmps67
  go_wp2_with fail
  refine K.out.mono ?_
  rintro e w' ⟨rfl, rfl⟩
  go_wp2
  go_ret
  exact ⟨rfl, rfl⟩
set_option maxHeartbeats 1000000 in
theorem opS (d : OpD) (w : World) (hz : d.leg.size ≤ maxLen) :
    Calls Tryd.prog 52 #[.agg #[.string d.leg, .int .i64 d.cls, .int .i64 d.st, .int .i64 d.sh]] w (OkPost (OpGood d) w) := by
  obtain ⟨l, x, y, z⟩ := d
  dsimp only at hz ⊢
  have hbA : Below w.heap.size w (w.alloc (.cells #[.string l, .int .i64 x, .int .i64 y, .int .i64 z] 55)) := (Below.refl _ _).alloc (Nat.le_refl _) _
  have HB := Lib.hid hbA
  clear hbA
  obtain ⟨nb, hnb⟩ : ∃ b : Bool, nameB l.data.toList = b := ⟨_, rfl⟩
  obtain ⟨c1, hc1⟩ : ∃ b : Bool, (decide ((0 : Int) ≤ x) && decide (x ≤ 2)) = b := ⟨_, rfl⟩
  obtain ⟨c2, hc2⟩ : ∃ b : Bool, (decide ((-4 : Int) ≤ y) && decide (y ≤ 4)) = b := ⟨_, rfl⟩
  obtain ⟨c3, hc3⟩ : ∃ b : Bool, (y != 0) = b := ⟨_, rfl⟩
  obtain ⟨c4, hc4⟩ : ∃ b : Bool, (decide ((0 : Int) ≤ z) && decide (z ≤ 1000000000000)) = b := ⟨_, rfl⟩
  have HG : Hid ((nb && c1 && c2 && c3 && c4) = true ↔ OpGood ⟨l, x, y, z⟩) := by
    refine Lib.hid ?_
    rw [← hnb, ← hc1, ← hc2, ← hc3, ← hc4]
    simp only [OpGood, Bool.and_eq_true, decide_eq_true_eq, bne_iff_ne]
    exact ⟨fun h => ⟨h.1.1.1.1, h.1.1.1.2, h.1.1.2, h.1.2, h.2⟩, fun h => ⟨⟨⟨⟨h.1, h.2.1⟩, h.2.2.1⟩, h.2.2.2.1⟩, h.2.2.2.2⟩⟩
  have KN : Hid (∀ W, Calls Tryd.prog 71 #[.string l] W fun e w' => e = .returned (.bool nb) ∧ w' = W) := fun W => by rw [← hnb]; exact (specName l W hz).mono fun _ _ h => ⟨h.1, h.2.symm⟩
  have K1 : Hid (∀ W, Calls Tryd.prog 43 #[.int .i64 x, .int .i64 0, .int .i64 2] W fun e w' => e = .returned (.bool c1) ∧ w' = W) := fun W => by rw [← hc1]; exact inS x 0 2 W
  have K2 : Hid (∀ W, Calls Tryd.prog 43 #[.int .i64 y, .int .i64 (-4), .int .i64 4] W fun e w' => e = .returned (.bool c2) ∧ w' = W) := fun W => by rw [← hc2]; exact inS y (-4) 4 W
  have K4 : Hid (∀ W, Calls Tryd.prog 43 #[.int .i64 z, .int .i64 0, .int .i64 1000000000000] W fun e w' => e = .returned (.bool c4) ∧ w' = W) := fun W => by rw [← hc4]; exact inS z 0 1000000000000 W
  clear hnb hc1 hc2 hc4 hz
  go_enter Tryd.func52, Tryd.ntmps52
  go_wp2_with fail
  refine (KN.out _).mono ?_
  rintro e w' ⟨rfl, rfl⟩
  cases nb with
  | false =>
    go_wp2
    go_ret
    exact ⟨_, rfl, Lib.hid (by have := HG.out; simpa using this), HB.out⟩
  | true =>
    go_wp2_with fail
    refine (K1.out _).mono ?_
    rintro e w' ⟨rfl, rfl⟩
    cases c1 with
    | false =>
      go_wp2
      go_ret
      exact ⟨_, rfl, Lib.hid (by have := HG.out; simpa using this), HB.out⟩
    | true =>
      go_wp2_with fail
      refine (K2.out _).mono ?_
      rintro e w' ⟨rfl, rfl⟩
      cases c2 with
      | false =>
        go_wp2
        go_ret
        exact ⟨_, rfl, Lib.hid (by have := HG.out; simpa using this), HB.out⟩
      | true =>
        cases c3 with
        | false =>
          go_wp2
          go_ret
          exact ⟨_, rfl, Lib.hid (by have := HG.out; simpa using this), HB.out⟩
        | true =>
          go_wp2_with fail
          refine (K4.out _).mono ?_
          rintro e w' ⟨rfl, rfl⟩
          go_wp2
          go_ret
          exact ⟨_, rfl, Lib.hid (by have := HG.out; simpa using this), HB.out⟩
set_option maxHeartbeats 1000000 in
theorem opI (d : OpD) (w : World) (hz : d.leg.size ≤ maxLen) :
    Calls Tryd.prog 47 #[.agg #[.string d.leg, .int .i64 d.cls, .int .i64 d.st, .int .i64 d.sh]] w (OkPost (OpGood d) w) := by
  obtain ⟨l, x, y, z⟩ := d
  dsimp only at hz ⊢
  have hbA : Below w.heap.size w (w.alloc (.cells #[.string l, .int .i64 x, .int .i64 y, .int .i64 z] 55)) := (Below.refl _ _).alloc (Nat.le_refl _) _
  have HB := Lib.hid hbA
  clear hbA
  obtain ⟨nb, hnb⟩ : ∃ b : Bool, nameB l.data.toList = b := ⟨_, rfl⟩
  obtain ⟨c1, hc1⟩ : ∃ b : Bool, (decide ((0 : Int) ≤ x) && decide (x ≤ 2)) = b := ⟨_, rfl⟩
  obtain ⟨c2, hc2⟩ : ∃ b : Bool, (decide ((-4 : Int) ≤ y) && decide (y ≤ 4)) = b := ⟨_, rfl⟩
  obtain ⟨c3, hc3⟩ : ∃ b : Bool, (y != 0) = b := ⟨_, rfl⟩
  obtain ⟨c4, hc4⟩ : ∃ b : Bool, (decide ((0 : Int) ≤ z) && decide (z ≤ 1000000000000)) = b := ⟨_, rfl⟩
  have HG : Hid ((nb && c1 && c2 && c3 && c4) = true ↔ OpGood ⟨l, x, y, z⟩) := by
    refine Lib.hid ?_
    rw [← hnb, ← hc1, ← hc2, ← hc3, ← hc4]
    simp only [OpGood, Bool.and_eq_true, decide_eq_true_eq, bne_iff_ne]
    exact ⟨fun h => ⟨h.1.1.1.1, h.1.1.1.2, h.1.1.2, h.1.2, h.2⟩, fun h => ⟨⟨⟨⟨h.1, h.2.1⟩, h.2.2.1⟩, h.2.2.2.1⟩, h.2.2.2.2⟩⟩
  have KN : Hid (∀ W, Calls Tryd.prog 66 #[.string l] W fun e w' => e = .returned (.bool nb) ∧ w' = W) := fun W => by rw [← hnb]; exact (implName l W hz).mono fun _ _ h => ⟨h.1, h.2.symm⟩
  have K1 : Hid (∀ W, Calls Tryd.prog 67 #[.int .i64 x] W fun e w' => e = .returned (.bool c1) ∧ w' = W) := fun W => by exact classI x c1 hc1 W
  have K2 : Hid (∀ W, Calls Tryd.prog 44 #[.int .i64 y, .int .i64 (-4), .int .i64 4] W fun e w' => e = .returned (.bool c2) ∧ w' = W) := fun W => by rw [← hc2]; exact withinI y (-4) 4 W
  have K4 : Hid (∀ W, Calls Tryd.prog 44 #[.int .i64 z, .int .i64 0, .int .i64 1000000000000] W fun e w' => e = .returned (.bool c4) ∧ w' = W) := fun W => by rw [← hc4]; exact withinI z 0 1000000000000 W
  clear hnb hc1 hc2 hc4 hz
  go_enter Tryd.func47, Tryd.ntmps47
  go_wp2_with fail
  refine (K2.out _).mono ?_
  rintro e w' ⟨rfl, rfl⟩
  cases c2 with
  | false =>
    go_wp2_with fail
    refine (KN.out _).mono ?_
    rintro e w' ⟨rfl, rfl⟩
    cases nb with
    | false =>
      go_wp2
      go_ret
      exact ⟨_, rfl, Lib.hid (by have := HG.out; simpa using this), HB.out⟩
    | true =>
      go_wp2_with fail
      refine (K1.out _).mono ?_
      rintro e w' ⟨rfl, rfl⟩
      cases c1 with
      | false =>
        go_wp2
        go_ret
        exact ⟨_, rfl, Lib.hid (by have := HG.out; simpa using this), HB.out⟩
      | true =>
        go_wp2
        go_ret
        exact ⟨_, rfl, Lib.hid (by have := HG.out; simpa using this), HB.out⟩
  | true =>
    cases c3 with
    | false =>
      go_wp2_with fail
      refine (KN.out _).mono ?_
      rintro e w' ⟨rfl, rfl⟩
      cases nb with
      | false =>
        go_wp2
        go_ret
        exact ⟨_, rfl, Lib.hid (by have := HG.out; simpa using this), HB.out⟩
      | true =>
        go_wp2_with fail
        refine (K1.out _).mono ?_
        rintro e w' ⟨rfl, rfl⟩
        cases c1 with
        | false =>
          go_wp2
          go_ret
          exact ⟨_, rfl, Lib.hid (by have := HG.out; simpa using this), HB.out⟩
        | true =>
          go_wp2
          go_ret
          exact ⟨_, rfl, Lib.hid (by have := HG.out; simpa using this), HB.out⟩
    | true =>
      go_wp2_with fail
      refine (KN.out _).mono ?_
      rintro e w' ⟨rfl, rfl⟩
      cases nb with
      | false =>
        go_wp2
        go_ret
        exact ⟨_, rfl, Lib.hid (by have := HG.out; simpa using this), HB.out⟩
      | true =>
        go_wp2_with fail
        refine (K1.out _).mono ?_
        rintro e w' ⟨rfl, rfl⟩
        cases c1 with
        | false =>
          go_wp2
          go_ret
          exact ⟨_, rfl, Lib.hid (by have := HG.out; simpa using this), HB.out⟩
        | true =>
          go_wp2_with fail
          refine (K4.out _).mono ?_
          rintro e w' ⟨rfl, rfl⟩
          go_wp2
          go_ret
          exact ⟨_, rfl, Lib.hid (by have := HG.out; simpa using this), HB.out⟩
theorem isLeg (d : OpD) (bx : Nat) (s : ByteArray) (w : World) (hx : w.cell? ⟨bx, 0, none⟩ = some (.string s)) :
    Calls Tryd.prog 46 #[.agg #[.string d.leg, .int .i64 d.cls, .int .i64 d.st, .int .i64 d.sh], .pointer (some ⟨bx, 0, none⟩)] w fun e w' => e = .returned (.bool (decide (d.leg = s))) ∧ Below w.heap.size w w' := by
  obtain ⟨l, x, y, z⟩ := d
  dsimp only
  have hlx := World.block_lt_of_cell? w _ hx
  have hbA : Below w.heap.size w (w.alloc (.cells #[.string l, .int .i64 x, .int .i64 y, .int .i64 z] 55)) := (Below.refl _ _).alloc (Nat.le_refl _) _
  have hx2 := (hbA.cell (p := ⟨bx, 0, none⟩) hlx).trans hx
  have HB := Lib.hid hbA
  clear hbA hx
  by_cases e : l = s
  · have z := str_eq e
    have zd : decide (l = s) = true := decide_eq_true e
    rw [zd]
    clear e
    go_enter Tryd.func46, Tryd.ntmps46
    go_wp2
    go_ret
    exact ⟨rfl, HB.out⟩
  · have z := str_neq e
    have zd : decide (l = s) = false := decide_eq_false e
    rw [zd]
    clear e
    go_enter Tryd.func46, Tryd.ntmps46
    go_wp2
    go_ret
    exact ⟨rfl, HB.out⟩
/-- The first place of that leg, or none. -/
def PlaceO (ds : Nat → OpD) (n : Nat) (s : ByteArray) (r : Int) : Prop := (r = -1 ∧ ∀ j, j < n → (ds j).leg ≠ s) ∨ ∃ j, j < n ∧ r = (j : Int) ∧ (ds j).leg = s
def PlacePost (ds : Nat → OpD) (n : Nat) (s : ByteArray) (w : World) (e : Ending) (w' : World) : Prop := ∃ r : Int, e = .returned (.int .i64 r) ∧ Hid (PlaceO ds n s r) ∧ Below w.heap.size w w'
set_option maxHeartbeats 4000000 in
theorem indexI (bx : Nat) (a : Option Addr) (n cap : Nat) (ds : Nat → OpD) (s : ByteArray) (w : World) (h : Ops w a n ds) (hx : w.cell? ⟨bx, 0, none⟩ = some (.string s)) (hl : n ≤ 1048576) :
    Calls Tryd.prog 65 #[.slice a n cap, .func (.func 46) #[] #[.pointer (some ⟨bx, 0, none⟩)]] w (PlacePost ds n s w) := by
  have H := Lib.hid h
  have HX := Lib.hid hx
  have hlx := World.block_lt_of_cell? w _ hx
  clear h hx
  go_enter Tryd.func65, Tryd.ntmps65
  go_wp2_with fail
  go_loopw [8] (fun i wr => ∃ k : Nat, k ≤ n ∧ i = .int .i64 k ∧ Hid (∀ j, j < k → (ds j).leg ≠ s) ∧ Below w.heap.size w wr) (fun i _ => n - (intOf i).toNat)
  case atStart => exact ⟨0, Nat.zero_le _, rfl, fun j hj => absurd hj (Nat.not_lt_zero _), Below.refl _ _⟩
  case round =>
    obtain ⟨k, hk, rfl, hs, hb⟩ := hrel
    rcases Nat.lt_or_ge k n with hlt | hge
    · rcases H.out.kept hb with hc | ⟨b, off, rfl, hbl, hrow⟩
      · omega
      have HXr := Lib.hid ((hb.cell (p := ⟨bx, 0, none⟩) hlx).trans HX.out)
      have k1 : (k : Int) < n := by omega
      have k0 : (0 : Int) ≤ k := by omega
      obtain ⟨y0, y1, y2, y3⟩ := hrow k hlt
      clear hrow hbl
      by_cases e : (ds k).leg = s
      · have zd : decide ((ds k).leg = s) = true := decide_eq_true e
        have HE := Lib.hid e
        have HC : Hid (Calls Tryd.prog 46 #[.agg #[.string (ds k).leg, .int .i64 (ds k).cls, .int .i64 (ds k).st, .int .i64 (ds k).sh], .pointer (some ⟨bx, 0, none⟩)] wr fun e w' => e = .returned (.bool true) ∧ Below wr.heap.size wr w') := by
          have := isLeg (ds k) bx s wr HXr.out
          rw [zd] at this
          exact this
        clear e zd
        go_wp2_with fail
        refine HC.out.mono ?_
        rintro e w2 ⟨rfl, hb2⟩
        have hb3 := bt hb hb2
        clear y0 y1 y2 y3
        go_wp2
        go_ret
        exact ⟨k, rfl, .inr ⟨k, hlt, rfl, HE.out⟩, hb3⟩
      · have zd : decide ((ds k).leg = s) = false := decide_eq_false e
        have HE := Lib.hid e
        have HC : Hid (Calls Tryd.prog 46 #[.agg #[.string (ds k).leg, .int .i64 (ds k).cls, .int .i64 (ds k).st, .int .i64 (ds k).sh], .pointer (some ⟨bx, 0, none⟩)] wr fun e w' => e = .returned (.bool false) ∧ Below wr.heap.size wr w') := by
          have := isLeg (ds k) bx s wr HXr.out
          rw [zd] at this
          exact this
        clear e zd
        go_wp2_with fail
        refine HC.out.mono ?_
        rintro e w2 ⟨rfl, hb2⟩
        have hb3 := bt hb hb2
        clear y0 y1 y2 y3
        go_wp2
        go_roundw
        case rel => exact ⟨k + 1, by omega, by go_num, fun j hj => by
          rcases Nat.lt_or_ge j k with u | u
          · exact hs.out j u
          · obtain rfl : j = k := by omega
            exact HE.out, hb3⟩
        case measure => simp [intOf]; omega
    · obtain rfl : k = n := by omega
      go_wp2
      go_ret
      exact ⟨-1, rfl, .inl ⟨rfl, hs.out⟩, hb⟩
theorem hasI (bx : Nat) (a : Option Addr) (n cap : Nat) (ds : Nat → OpD) (s : ByteArray) (w : World) (h : Ops w a n ds) (hx : w.cell? ⟨bx, 0, none⟩ = some (.string s)) (hl : n ≤ 1048576) :
    Calls Tryd.prog 45 #[.slice a n cap, .func (.func 46) #[] #[.pointer (some ⟨bx, 0, none⟩)]] w (OkPost (∃ j, j < n ∧ (ds j).leg = s) w) := by
  have HI := Lib.hid (indexI bx a n cap ds s w h hx hl)
  clear h hx
  go_enter Tryd.func45, Tryd.ntmps45
  go_wp2_with fail
  refine HI.out.mono ?_
  rintro e w1 ⟨r, rfl, hr, hb⟩
  have HB := Lib.hid hb
  rcases hr.out with ⟨rfl, hn⟩ | ⟨j, hj, rfl, he⟩
  · have HN : Hid (¬ ∃ j, j < n ∧ (ds j).leg = s) := fun ⟨j, h1, h2⟩ => hn j h1 h2
    clear hr hn
    go_wp2
    go_ret
    exact ⟨false, rfl, ⟨fun q => (by cases q), fun q => absurd q HN.out⟩, HB.out⟩
  · have z : decide ((0 : Int) ≤ (j : Int)) = true := decide_eq_true (by omega)
    have HE : Hid (∃ j, j < n ∧ (ds j).leg = s) := ⟨j, hj, he⟩
    clear hr he
    go_wp2
    go_ret
    exact ⟨true, rfl, ⟨fun _ => HE.out, fun _ => rfl⟩, HB.out⟩
end Go.Proofs.YtlfmhhdlandcjaaDoor
