/-
  How large a rule is, and that two rules that read alike are alike.
-/
import Derived.Test.YtgoaajnppadmjaaGreatDoorRuleBase
namespace Go.Proofs.YtgoaajnppadmjaaGreatDoor
open Go.RowKit
set_option linter.unusedVariables false
set_option linter.unusedSimpArgs false

def SzP (m : Nat) (lf : Int) (w : World) (e : Ending) (w' : World) : Prop := ∃ r : Int, -1 ≤ r ∧ r ≤ lf ∧ e = .returned (.int .i64 r) ∧ Hid (0 ≤ r → (m : Int) ≤ lf - r) ∧ Below w.heap.size w w'
def SzAt (t : Tr) : Prop := ∀ (f : Fld) (lf : Int) (w : World), TrF All w t f → 0 ≤ lf → lf ≤ 1048576 → Calls Tryz.prog 12 #[f.val, .int .i64 lf] w (SzP (szT t) lf w)
def SzRowAt (ks : List Tr) : Prop := ∀ (a : Option Addr) (n cap : Nat) (lf : Int) (w : World), RowsT All w a n ks → n ≤ maxLen → 0 ≤ lf → lf ≤ 1048576 → Calls Tryz.prog 43 #[.slice a n cap, .int .i64 lf] w (SzP (ks.length + szL ks) lf w)
set_option maxHeartbeats 4000000 in
theorem szRowN (ks : List Tr) (ih : ∀ t ∈ ks, SzAt t) : SzRowAt ks := by
  intro a n cap lf w h hn l0 l1
  unfold maxLen at hn
  have H := Lib.hid h
  have IH := Lib.hid ih
  have HN : Hid (n = ks.length) := h.1
  clear h ih
  have e0 : IntKind.i64.wrap (lf - (n : Int)) = lf - (n : Int) := IntWalk.i64_in _ (by omega)
  rcases Int.lt_or_le (lf - (n : Int)) 0 with c0 | c0
  · have z0 : decide (lf - (n : Int) < 0) = true := decide_eq_true c0
    go_enter Tryz.func43, Tryz.ntmps43
    go_wp2
    go_ret
    exact ⟨-1, by omega, by omega, rfl, fun h => by omega, by first | exact Below.refl _ _ | exact belowN (Below.refl _ _) _⟩
  have z0 : decide (lf - (n : Int) < 0) = false := decide_eq_false (by omega)
  go_enter Tryz.func43, Tryz.ntmps43
  go_wp2_with fail
  go_loopw [1, 5] (fun vl vi wr => ∃ (k : Nat) (r : Int), k ≤ n ∧ vl = .int .i64 r ∧ vi = .int .i64 k ∧ 0 ≤ r ∧ r ≤ 1048576 ∧ Hid (r ≤ lf ∧ ((n + szL (ks.take k) : Nat) : Int) ≤ lf - r) ∧ Below w.heap.size w wr) (fun _ vi _ => n - (intOf vi).toNat)
  case atStart => exact ⟨0, _, Nat.zero_le _, rfl, rfl, c0, by omega, ⟨by omega, by simp [szL]; omega⟩, Below.refl _ _⟩
  case round =>
    obtain ⟨k, r, hk, rfl, rfl, r0, r1, hf, hb⟩ := hrel
    rcases Nat.lt_or_ge k n with hlt | hge
    · have hkl : k < ks.length := by have := HN.out; omega
      obtain ⟨b, off, rfl, -, hbl, hrow⟩ := (H.out.kept (same_of_below (N := All) hb)).cells (by omega)
      obtain ⟨f, ⟨y0, y1, y2, y3, y4⟩, ht⟩ := hrow k hkl
      have HT := Lib.hid ht
      have k1 : (k : Int) < n := by omega
      have k0 : (0 : Int) ≤ k := by omega
      clear hrow hbl ht
      go_wp2_with fail
      refine (IH.out ks[k] (List.getElem_mem _) f r wr HT.out r0 r1).mono ?_
      rintro e w2 ⟨q, q0, q1, rfl, hq, hb2⟩
      clear y0 y1 y2 y3 y4
      have hb3 : Below w.heap.size w w2 := hb.trans (hb2.mono hb.size)
      have HST := Lib.hid (szL_take ks k hkl)
      rcases Int.lt_or_le q 0 with c | c
      · have g0 : decide (q < 0) = true := decide_eq_true c
        go_wp2
        go_ret
        exact ⟨-1, by omega, by omega, rfl, fun h => by omega, hb3⟩
      · have g0 : decide (q < 0) = false := decide_eq_false (by omega)
        go_wp2
        go_roundw
        case rel =>
          refine ⟨k + 1, q, by omega, rfl, by go_num, c, by omega, ⟨?_, ?_⟩, hb3⟩
          · have := hf.out.1; omega
          · have h1 := hf.out.2; have h2 := hq.out c; have h3 := HST.out; omega
        case measure => simp [intOf]; omega
    · obtain rfl : k = n := by omega
      go_wp2
      go_ret
      refine ⟨r, by omega, hf.out.1, rfl, fun _ => ?_, hb⟩
      have h1 := hf.out.2
      have h2 : ks.take k = ks := List.take_of_length_le (by have := HN.out; omega)
      rw [h2] at h1
      have := HN.out
      omega
set_option maxHeartbeats 4000000 in
theorem szNodeN (o n : Int) (s : ByteArray) (ks : List Tr) (ms : List (Int × Int)) (ihk : SzRowAt ks) (hs : s.size ≤ maxLen) (hkl : ks.length ≤ maxLen) (hml : ms.length ≤ maxLen) : SzAt (.node o n s ks ms) := by
  intro f lf w h l0 l1
  obtain ⟨e1, e2, e3, hm, hk, hc1, hc2⟩ := trF_iff.1 h
  obtain ⟨fo, fn, fs, ka, kl, kc, ma, ml, mc⟩ := f
  dsimp only at e1 e2 e3 hm hk hc1 hc2
  have q1 := e1.symm
  have q2 := e2.symm
  have q3 := e3.symm
  clear e1 e2 e3
  subst q1 q2 q3
  obtain rfl := hk.1
  obtain rfl := hm.1
  have HK := Lib.hid hk
  clear h hk hm
  unfold maxLen at hs hml
  unfold Fld.val
  dsimp only
  have e0 : IntKind.i64.wrap (lf - (s.size : Int)) = lf - (s.size : Int) := IntWalk.i64_in _ (by omega)
  rcases Int.lt_or_le (lf - (s.size : Int)) 0 with c0 | c0
  · have z0 : decide (lf - (s.size : Int) < 0) = true := decide_eq_true c0
    go_enter Tryz.func12, Tryz.ntmps12
    go_wp2
    go_ret
    exact ⟨-1, by omega, by omega, rfl, fun h => by omega, (Below.refl _ _).alloc (Nat.le_refl _) _⟩
  have z0 : decide (lf - (s.size : Int) < 0) = false := decide_eq_false (by omega)
  go_enter Tryz.func12, Tryz.ntmps12
  go_wp2_with fail
  have hA : w.heap.size ≤ (w.alloc (.cells #[Value.int IntKind.i64 o, Value.int IntKind.i64 n, Value.string s, Value.slice ka ks.length kc, Value.slice ma ms.length mc] 25)).heap.size := by simp
  have hArg : (w.alloc (.cells #[Value.int IntKind.i64 o, Value.int IntKind.i64 n, Value.string s, Value.slice ka ks.length kc, Value.slice ma ms.length mc] 25)).heap[w.heap.size]? = some (.cells #[Value.int IntKind.i64 o, Value.int IntKind.i64 n, Value.string s, Value.slice ka ks.length kc, Value.slice ma ms.length mc] 25 (0, 0)) := heap_alloc_new w _
  have hB : Below w.heap.size w (w.alloc (.cells #[Value.int IntKind.i64 o, Value.int IntKind.i64 n, Value.string s, Value.slice ka ks.length kc, Value.slice ma ms.length mc] 25)) := (Below.refl _ _).alloc (Nat.le_refl _) _
  refine (ihk ka ks.length kc _ _ (HK.out.kept (same_of_below hB)) hkl c0 (by omega)).mono ?_
  rintro e w1 ⟨r, r0, r1, rfl, hr, d1⟩
  have arg1 := (d1.block _ (by simp)).trans hArg
  have b1 : Below w.heap.size w w1 := hB.trans (d1.mono hA)
  have ca : w1.cell? ⟨w.heap.size, 4, none⟩ = some (Value.slice ma ms.length mc) := by rw [Lib.cell_of_heap arg1]; rfl
  clear hA hArg hB d1 arg1
  rcases Int.lt_or_le r 0 with c1 | c1
  · have g0 : decide (r < 0) = true := decide_eq_true c1
    go_wp2
    go_ret
    exact ⟨-1, by omega, by omega, rfl, fun h => by omega, b1⟩
  have g0 : decide (r < 0) = false := decide_eq_false (by omega)
  go_wp2_with fail
  refine (szMarkL ma ms.length mc r _ (by omega) c1 (by omega)).mono ?_
  rintro e w2 ⟨q, hq, rfl, rfl⟩
  rcases hq with ⟨h1, rfl⟩ | ⟨h1, rfl⟩
  · have g1 : decide (r - (ms.length : Int) < 0) = false := decide_eq_false (by omega)
    go_wp2
    go_ret
    refine ⟨r - ms.length, by omega, by omega, rfl, fun _ => ?_, b1⟩
    have := hr.out c1
    rw [szT]; omega
  · go_wp2
    go_ret
    exact ⟨-1, by omega, by omega, rfl, fun h => by omega, b1⟩
theorem szRuleC : ∀ (k : Nat) (t : Tr), wT t ≤ k → WideT t → SzAt t
  | 0, .node o n s ks ms, hw, _ => by rw [wT] at hw; omega
  | k + 1, .node o n s ks ms, hw, hs => by
    rw [wT] at hw; rw [WideT] at hs
    exact szNodeN o n s ks ms (szRowN ks fun t ht => szRuleC k t (by have := wL_mem ht; omega) (wideL_mem hs.2.2.2 t ht)) hs.1 hs.2.1 hs.2.2.1
theorem szRule {t : Tr} {f : Fld} {lf : Int} {w : World} (h : TrF All w t f) (hs : WideT t) (l0 : 0 ≤ lf) (l1 : lf ≤ 1048576) : Calls Tryz.prog 12 #[f.val, .int .i64 lf] w (SzP (szT t) lf w) := szRuleC _ t (Nat.le_refl _) hs f lf w h l0 l1

def EqAt (t : Tr) : Prop := ∀ (f g : Fld) (w : World), TrF All w t f → TrF All w t g → Calls Tryz.prog 17 #[f.val, g.val] w fun e w' => e = .returned (.bool true) ∧ Below w.heap.size w w'
def EqRowAt (ks : List Tr) : Prop := ∀ (a a' : Option Addr) (n cap cap' : Nat) (w : World), RowsT All w a n ks → RowsT All w a' n ks → n ≤ 1048576 → Calls Tryz.prog 51 #[.slice a n cap, .slice a' n cap'] w fun e w' => e = .returned (.bool true) ∧ Below w.heap.size w w'
set_option maxHeartbeats 4000000 in
theorem eqRowN (ks : List Tr) (ih : ∀ t ∈ ks, EqAt t) : EqRowAt ks := by
  intro a a' n cap cap' w h h' hl
  have H := Lib.hid h
  have H' := Lib.hid h'
  have IH := Lib.hid ih
  have HN : Hid (n = ks.length) := h.1
  clear h h' ih
  go_enter Tryz.func51, Tryz.ntmps51
  go_wp2_with fail
  go_loopw [5] (fun i wr => ∃ k : Nat, k ≤ n ∧ i = .int .i64 k ∧ Below w.heap.size w wr) (fun i _ => n - (intOf i).toNat)
  case atStart => exact ⟨0, Nat.zero_le _, rfl, Below.refl _ _⟩
  case round =>
    obtain ⟨k, hk, rfl, hb⟩ := hrel
    rcases Nat.lt_or_ge k n with hlt | hge
    · have hkl : k < ks.length := by have := HN.out; omega
      obtain ⟨b, off, rfl, -, hbl, hrow⟩ := (H.out.kept (same_of_below (N := All) hb)).cells (by omega)
      obtain ⟨f, ⟨y0, y1, y2, y3, y4⟩, ht⟩ := hrow k hkl
      obtain ⟨b', off', rfl, -, hbl', hrow'⟩ := (H'.out.kept (same_of_below (N := All) hb)).cells (by omega)
      obtain ⟨f', ⟨x0, x1, x2, x3, x4⟩, ht'⟩ := hrow' k hkl
      have HT := Lib.hid ht
      have HT' := Lib.hid ht'
      have k1 : (k : Int) < n := by omega
      have k0 : (0 : Int) ≤ k := by omega
      clear hrow hbl ht hrow' hbl' ht'
      go_wp2_with fail
      go_region_with (go_at_call 17; refine (IH.out ks[k] (List.getElem_mem _) f f' _ (HT.out.kept (same_of_below (belowN (Below.refl _ wr) 1))) (HT'.out.kept (same_of_below (belowN (Below.refl _ wr) 1)))).mono ?_; rintro e w2 ⟨rfl, hb2⟩)
      all_goals
        have hb3 : Below w.heap.size w w2 := hb.trans (Below.trans (belowN (Below.refl _ _) 1) (hb2.mono hb.size))
        clear y0 y1 y2 y3 y4 x0 x1 x2 x3 x4
        go_wp2
        go_roundw
        case rel => exact ⟨k + 1, by omega, by go_num, hb3⟩
        case measure => simp [intOf]; omega
    · obtain rfl : k = n := by omega
      go_wp2
      go_ret
      exact ⟨rfl, hb⟩
set_option maxHeartbeats 4000000 in
theorem eqNodeN (o n : Int) (s : ByteArray) (ks : List Tr) (ms : List (Int × Int)) (ihk : EqRowAt ks) (hkl : ks.length ≤ 1048576) (hml : ms.length ≤ 1048576) : EqAt (.node o n s ks ms) := by
  intro f g w h h'
  obtain ⟨e1, e2, e3, hm, hk, hc1, hc2⟩ := trF_iff.1 h
  obtain ⟨fo, fn, fs, ka, kl, kc, ma, ml, mc⟩ := f
  dsimp only at e1 e2 e3 hm hk hc1 hc2
  have q1 := e1.symm
  have q2 := e2.symm
  have q3 := e3.symm
  clear e1 e2 e3
  subst q1 q2 q3
  obtain rfl := hk.1
  obtain rfl := hm.1
  obtain ⟨e1, e2, e3, hm', hk', hc1', hc2'⟩ := trF_iff.1 h'
  obtain ⟨fo, fn, fs, ka', kl', kc', ma', ml', mc'⟩ := g
  dsimp only at e1 e2 e3 hm' hk' hc1' hc2'
  have q1 := e1.symm
  have q2 := e2.symm
  have q3 := e3.symm
  clear e1 e2 e3
  subst q1 q2 q3
  obtain rfl := hk'.1
  obtain rfl := hm'.1
  have HK := Lib.hid hk
  have HM := Lib.hid hm
  have HK' := Lib.hid hk'
  have HM' := Lib.hid hm'
  clear h hk hm h' hk' hm' hc1 hc2 hc1' hc2'
  unfold Fld.val
  dsimp only
  go_enter Tryz.func17, Tryz.ntmps17
  go_wp2_with fail
  have hArg : ((w.alloc (.cells #[Value.int IntKind.i64 o, Value.int IntKind.i64 n, Value.string s, Value.slice ka ks.length kc, Value.slice ma ms.length mc] 32)).alloc (.cells #[Value.int IntKind.i64 o, Value.int IntKind.i64 n, Value.string s, Value.slice ka' ks.length kc', Value.slice ma' ms.length mc'] 32)).heap[w.heap.size]? = some (.cells #[Value.int IntKind.i64 o, Value.int IntKind.i64 n, Value.string s, Value.slice ka ks.length kc, Value.slice ma ms.length mc] 32 (0, 0)) := by
    rw [Lib.alloc_old _ _ _ (by simp only [World.size_alloc]; omega)]
    exact heap_alloc_new w _
  have hArg' : ((w.alloc (.cells #[Value.int IntKind.i64 o, Value.int IntKind.i64 n, Value.string s, Value.slice ka ks.length kc, Value.slice ma ms.length mc] 32)).alloc (.cells #[Value.int IntKind.i64 o, Value.int IntKind.i64 n, Value.string s, Value.slice ka' ks.length kc', Value.slice ma' ms.length mc'] 32)).heap[w.heap.size + 1]? = some (.cells #[Value.int IntKind.i64 o, Value.int IntKind.i64 n, Value.string s, Value.slice ka' ks.length kc', Value.slice ma' ms.length mc'] 32 (0, 0)) := by
    have := heap_alloc_new (w.alloc (.cells #[Value.int IntKind.i64 o, Value.int IntKind.i64 n, Value.string s, Value.slice ka ks.length kc, Value.slice ma ms.length mc] 32)) (.cells #[Value.int IntKind.i64 o, Value.int IntKind.i64 n, Value.string s, Value.slice ka' ks.length kc', Value.slice ma' ms.length mc'] 32)
    simpa only [World.size_alloc] using this
  have hB : Below w.heap.size w ((w.alloc (.cells #[Value.int IntKind.i64 o, Value.int IntKind.i64 n, Value.string s, Value.slice ka ks.length kc, Value.slice ma ms.length mc] 32)).alloc (.cells #[Value.int IntKind.i64 o, Value.int IntKind.i64 n, Value.string s, Value.slice ka' ks.length kc', Value.slice ma' ms.length mc'] 32)) := ((Below.refl _ _).alloc (Nat.le_refl _) _).alloc (by simp only [World.size_alloc]; omega) _
  generalize ((w.alloc (.cells #[Value.int IntKind.i64 o, Value.int IntKind.i64 n, Value.string s, Value.slice ka ks.length kc, Value.slice ma ms.length mc] 32)).alloc (.cells #[Value.int IntKind.i64 o, Value.int IntKind.i64 n, Value.string s, Value.slice ka' ks.length kc', Value.slice ma' ms.length mc'] 32)) = W0 at *
  have sA : w.heap.size + 1 < W0.heap.size := (Array.getElem?_eq_some_iff.1 hArg').1
  refine (ihk ka ka' ks.length kc kc' W0 (HK.out.kept (same_of_below hB)) (HK'.out.kept (same_of_below hB)) hkl).mono ?_
  rintro e w1 ⟨rfl, d1⟩
  have a1 := (d1.block _ (by omega)).trans hArg
  have a2 := (d1.block _ (by omega)).trans hArg'
  have b1 : Below w.heap.size w w1 := hB.trans (d1.mono hB.size)
  have ca : w1.cell? ⟨w.heap.size, 4, none⟩ = some (Value.slice ma ms.length mc) := by rw [Lib.cell_of_heap a1]; rfl
  have ca' : w1.cell? ⟨w.heap.size + 1, 4, none⟩ = some (Value.slice ma' ms.length mc') := by rw [Lib.cell_of_heap a2]; rfl
  clear hArg hArg' hB d1 a1 a2
  go_wp2_with fail
  refine (eqMarks ma ma' ms.length mc mc' (mF ms) (mP ms) w1 (marks_of_N (HM.out.kept (same_of_below b1))) (marks_of_N (HM'.out.kept (same_of_below b1))) hml).mono ?_
  rintro e w2 ⟨rfl, d2⟩
  go_wp2
  go_ret
  exact ⟨rfl, b1.trans (d2.mono b1.size)⟩
theorem eqRuleC : ∀ (k : Nat) (t : Tr), wT t ≤ k → szT t ≤ 1048576 → EqAt t
  | 0, .node o n s ks ms, hw, _ => by rw [wT] at hw; omega
  | k + 1, .node o n s ks ms, hw, hs => by
    rw [wT] at hw; rw [szT] at hs
    exact eqNodeN o n s ks ms (eqRowN ks fun t ht => eqRuleC k t (by have := wL_mem ht; omega) (by have := szL_mem ht; omega)) (by omega) (by omega)
theorem eqRule {t : Tr} {f g : Fld} {w : World} (h : TrF All w t f) (h' : TrF All w t g) (hs : szT t ≤ 1048576) : Calls Tryz.prog 17 #[f.val, g.val] w fun e w' => e = .returned (.bool true) ∧ Below w.heap.size w w' := eqRuleC _ t (Nat.le_refl _) hs f g w h h'
end Go.Proofs.YtgoaajnppadmjaaGreatDoor
