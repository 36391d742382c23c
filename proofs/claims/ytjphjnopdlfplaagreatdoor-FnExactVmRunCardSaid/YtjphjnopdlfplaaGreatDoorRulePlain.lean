/-
  Whether a rule has just what it needs, but for its kids: the model's answer.
-/
import Derived.Test.YtjphjnopdlfplaaGreatDoorJ11
import Derived.Test.YtjphjnopdlfplaaGreatDoorJ15
namespace Go.Proofs.YtjphjnopdlfplaaGreatDoor
open Go.RowKit
set_option linter.unusedVariables false
set_option linter.unusedSimpArgs false

theorem str_empty {s : ByteArray} (h : s.toList.isEmpty = true) : s.size = 0 := by
  have : s.toList = [] := by simpa using h
  rw [Lib.toList_data] at this
  have e : s.data.toList.length = s.size := by simp
  rw [this] at e
  exact e.symm
theorem str_full {s : ByteArray} (h : s.toList.isEmpty = false) : s.size ≠ 0 := by
  intro h0
  have : s.toList = [] := by
    rw [Lib.toList_data]
    have : s.data = #[] := Array.eq_empty_of_size_eq_zero h0
    rw [this]
  rw [this] at h
  cases h
theorem opCases (o : Int) : o = 1 ∨ o = 2 ∨ o = 10 ∨ (o ≠ 1 ∧ o ≠ 2 ∧ o ≠ 10) := by omega
def BoolP (p : Prop) (w : World) (e : Ending) (w' : World) : Prop := ∃ b : Bool, e = .returned (.bool b) ∧ Hid (b = true ↔ p) ∧ Below w.heap.size w w'
theorem specInZ (n a b : Int) (w : World) : Calls Tryz.prog 34 #[.int .i64 n, .int .i64 a, .int .i64 b] w fun e w' => e = .returned (.bool (decide (a ≤ n) && decide (n ≤ b))) ∧ w = w' := specIn n a b w
set_option maxRecDepth 20000 in
set_option maxHeartbeats 16000000 in
theorem specPlain (o n : Int) (s : ByteArray) (ka ma : Option Addr) (k kc m mc : Nat) (ms : List (Int × Int)) (w : World) (hs : s.size ≤ maxLen) (hk : k ≤ 1048576) (hm : MarksN All w ma m ms) (hml : m ≤ 1048576) :
    Calls Tryz.prog 80 #[.agg #[.int .i64 o, .int .i64 n, .string s, .slice ka k kc, .slice ma m mc]] w (BoolP (PlainN o n s k ms) w) := by
  have hA : Below w.heap.size w (w.alloc (.cells #[.int .i64 o, .int .i64 n, .string s, .slice ka k kc, .slice ma m mc] 39)) := (Below.refl _ _).alloc (Nat.le_refl _) _
  have HA := Lib.hid hA
  have HM := Lib.hid hm
  have HMl : Hid (m = ms.length) := hm.1
  clear hA hm
  cases hk0 : ((k : Int) != kidsN o) with
  | true =>
    have hno : Hid (¬ PlainN o n s k ms) := fun h => by have := h.1; simp [this] at hk0
    have hq : Hid (kidsN o = kidsN o) := rfl
    generalize hkn : kidsN o = kn at *
    have Hkn := Lib.hid hkn
    clear hkn
    go_enter Tryz.func80, Tryz.ntmps80
    go_wp2_with fail
    go_quiet (first | (go_at_call 105; refine Calls.quiet_of_same (specKidsQ _ _ kn Hkn.out)))
    go_wp2
    go_ret
    exact ⟨false, rfl, ⟨fun h => (by cases h), fun h => absurd h hno.out⟩, belowN HA.out nq⟩
  | false =>
    have hkids : Hid ((k : Int) = kidsN o) := by show _ = _; simpa using hk0
    have hmb : decide (0 < (m : Int)) = decide (0 < m) := by simp
    cases hs0 : s.toList.isEmpty with
    | true =>
      have hsz := Lib.hid (str_empty hs0)
      cases hn0 : (n != 0) with
      | true =>
        have hnz : Hid (n ≠ 0) := by show _ ≠ _; simpa using hn0
        cases hm0 : decide (0 < m) with
        | true =>
          have hmp : Hid (0 < m) := by show 0 < m; simpa using hm0
          rcases opCases o with ho | ho | ho | ho
          · subst ho
            have e1 : kidsN 1 = 0 := rfl
            have Hkn := Lib.hid e1
            have hk1 : ((k : Int) != 0) = false := hk0
            clear e1
            have hno : Hid (¬ PlainN 1 n s k ms) := fun h => by
              have h2 := h.2
              unfold HoldsN at h2
              rw [if_pos rfl] at h2; have a1 := hsz.out; have a2 := hmp.out; have a3 := HMl.out; have a4 := h2.2.1; have a5 := h2.2.2; omega
            go_enter Tryz.func80, Tryz.ntmps80
            go_wp2_with fail
            go_quiet (first | (go_at_call 105; refine Calls.quiet_of_same (specKidsQ _ _ _ Hkn.out)))
            go_wp2
            go_ret
            exact ⟨false, rfl, ⟨fun h => (by cases h), fun h => absurd h hno.out⟩, belowN HA.out nq⟩
          · subst ho
            have e1 : kidsN 2 = 0 := rfl
            have Hkn := Lib.hid e1
            have hk1 : ((k : Int) != 0) = false := hk0
            clear e1
            have hno : Hid (¬ PlainN 2 n s k ms) := fun h => by
              have h2 := h.2
              unfold HoldsN at h2
              rw [if_neg (by decide), if_pos rfl] at h2; have a1 := hnz.out; have a2 := hmp.out; have a3 := HMl.out; have a4 := h2.2.1; have a5 := h2.2.2; omega
            go_enter Tryz.func80, Tryz.ntmps80
            go_wp2_with fail
            go_quiet (first | (go_at_call 105; refine Calls.quiet_of_same (specKidsQ _ _ _ Hkn.out)))
            go_wp2
            go_ret
            exact ⟨false, rfl, ⟨fun h => (by cases h), fun h => absurd h hno.out⟩, belowN HA.out nq⟩
          · subst ho
            have e1 : kidsN 10 = 1 := rfl
            have Hkn := Lib.hid e1
            have hk1 : ((k : Int) != 1) = false := hk0
            clear e1
            have hno : Hid (¬ PlainN 10 n s k ms) := fun h => by
              have h2 := h.2
              unfold HoldsN at h2
              rw [if_neg (by decide), if_neg (by decide), if_pos rfl] at h2; have a1 := hnz.out; have a2 := hsz.out; have a4 := h2.1; have a5 := h2.2.1; omega
            go_enter Tryz.func80, Tryz.ntmps80
            go_wp2_with fail
            go_quiet (first | (go_at_call 105; refine Calls.quiet_of_same (specKidsQ _ _ _ Hkn.out)))
            go_wp2
            go_ret
            exact ⟨false, rfl, ⟨fun h => (by cases h), fun h => absurd h hno.out⟩, belowN HA.out nq⟩
          · obtain ⟨o1, o2, o10⟩ := ho
            have b1 : (o == 1) = false := by simpa using o1
            have b2 : (o == 2) = false := by simpa using o2
            have b3 : (o == 10) = false := by simpa using o10
            have b4 : (o != 1) = true := by simpa using o1
            have b5 : (o != 2) = true := by simpa using o2
            have b6 : (o != 10) = true := by simpa using o10
            have HO := Lib.hid (And.intro o1 (And.intro o2 o10))
            clear o1 o2 o10
            generalize hkn : kidsN o = kn at *
            have Hkn := Lib.hid hkn
            clear hkn
            have hno : Hid (¬ PlainN o n s k ms) := fun h => by
              have h2 := h.2
              unfold HoldsN at h2
              rw [if_neg HO.out.1, if_neg HO.out.2.1, if_neg HO.out.2.2] at h2; have a1 := hsz.out; have a2 := hmp.out; have a3 := HMl.out; have a4 := hnz.out; have a5 := h2.1; have a6 := h2.2.1; have a7 := h2.2.2; omega
            go_enter Tryz.func80, Tryz.ntmps80
            go_wp2_with fail
            go_quiet (first | (go_at_call 105; refine Calls.quiet_of_same (specKidsQ _ _ _ Hkn.out)))
            go_wp2
            go_ret
            exact ⟨false, rfl, ⟨fun h => (by cases h), fun h => absurd h hno.out⟩, belowN HA.out nq⟩
        | false =>
          have hmp : Hid (m = 0) := by show _ = _; simp at hm0; exact hm0
          rcases opCases o with ho | ho | ho | ho
          · subst ho
            have e1 : kidsN 1 = 0 := rfl
            have Hkn := Lib.hid e1
            have hk1 : ((k : Int) != 0) = false := hk0
            clear e1
            go_enter Tryz.func80, Tryz.ntmps80
            go_wp2_with fail
            go_quiet (first | (go_at_call 105; refine Calls.quiet_of_same (specKidsQ _ _ _ Hkn.out)))
            go_wp2_with fail
            refine (specInZ n (-1000000000) 1000000000 _).mono ?_
            rintro e w' ⟨rfl, rfl⟩
            go_wp2
            go_ret
            refine ⟨_, rfl, ?_, belowN HA.out nq⟩
            have a1 := hsz.out
            have a2 := hmp.out
            have a3 := HMl.out
            have a4 := hkids.out
            show _ ↔ _
            unfold PlainN HoldsN
            rw [if_pos rfl]
            simp only [Bool.and_eq_true, decide_eq_true_eq]
            exact ⟨fun h => ⟨a4, h, a1, by omega⟩, fun h => h.2.1⟩
          · subst ho
            have e1 : kidsN 2 = 0 := rfl
            have Hkn := Lib.hid e1
            have hk1 : ((k : Int) != 0) = false := hk0
            clear e1
            have hno : Hid (¬ PlainN 2 n s k ms) := fun h => by
              have h2 := h.2
              unfold HoldsN at h2
              rw [if_neg (by decide), if_pos rfl] at h2; have a1 := hnz.out; have a2 := hmp.out; have a3 := HMl.out; have a4 := h2.2.1; have a5 := h2.2.2; omega
            go_enter Tryz.func80, Tryz.ntmps80
            go_wp2_with fail
            go_quiet (first | (go_at_call 105; refine Calls.quiet_of_same (specKidsQ _ _ _ Hkn.out)))
            go_wp2
            go_ret
            exact ⟨false, rfl, ⟨fun h => (by cases h), fun h => absurd h hno.out⟩, belowN HA.out nq⟩
          · subst ho
            have e1 : kidsN 10 = 1 := rfl
            have Hkn := Lib.hid e1
            have hk1 : ((k : Int) != 1) = false := hk0
            clear e1
            have hno : Hid (¬ PlainN 10 n s k ms) := fun h => by
              have h2 := h.2
              unfold HoldsN at h2
              rw [if_neg (by decide), if_neg (by decide), if_pos rfl] at h2; have a1 := hnz.out; have a2 := hsz.out; have a4 := h2.1; have a5 := h2.2.1; omega
            go_enter Tryz.func80, Tryz.ntmps80
            go_wp2_with fail
            go_quiet (first | (go_at_call 105; refine Calls.quiet_of_same (specKidsQ _ _ _ Hkn.out)))
            go_wp2
            go_ret
            exact ⟨false, rfl, ⟨fun h => (by cases h), fun h => absurd h hno.out⟩, belowN HA.out nq⟩
          · obtain ⟨o1, o2, o10⟩ := ho
            have b1 : (o == 1) = false := by simpa using o1
            have b2 : (o == 2) = false := by simpa using o2
            have b3 : (o == 10) = false := by simpa using o10
            have b4 : (o != 1) = true := by simpa using o1
            have b5 : (o != 2) = true := by simpa using o2
            have b6 : (o != 10) = true := by simpa using o10
            have HO := Lib.hid (And.intro o1 (And.intro o2 o10))
            clear o1 o2 o10
            generalize hkn : kidsN o = kn at *
            have Hkn := Lib.hid hkn
            clear hkn
            have hno : Hid (¬ PlainN o n s k ms) := fun h => by
              have h2 := h.2
              unfold HoldsN at h2
              rw [if_neg HO.out.1, if_neg HO.out.2.1, if_neg HO.out.2.2] at h2; have a1 := hsz.out; have a2 := hmp.out; have a3 := HMl.out; have a4 := hnz.out; have a5 := h2.1; have a6 := h2.2.1; have a7 := h2.2.2; omega
            go_enter Tryz.func80, Tryz.ntmps80
            go_wp2_with fail
            go_quiet (first | (go_at_call 105; refine Calls.quiet_of_same (specKidsQ _ _ _ Hkn.out)))
            go_wp2
            go_ret
            exact ⟨false, rfl, ⟨fun h => (by cases h), fun h => absurd h hno.out⟩, belowN HA.out nq⟩
      | false =>
        have hnz : Hid (n = 0) := by show _ = _; simpa using hn0
        cases hm0 : decide (0 < m) with
        | true =>
          have hmp : Hid (0 < m) := by show 0 < m; simpa using hm0
          rcases opCases o with ho | ho | ho | ho
          · subst ho
            have e1 : kidsN 1 = 0 := rfl
            have Hkn := Lib.hid e1
            have hk1 : ((k : Int) != 0) = false := hk0
            clear e1
            have hno : Hid (¬ PlainN 1 n s k ms) := fun h => by
              have h2 := h.2
              unfold HoldsN at h2
              rw [if_pos rfl] at h2; have a1 := hsz.out; have a2 := hmp.out; have a3 := HMl.out; have a4 := h2.2.1; have a5 := h2.2.2; omega
            go_enter Tryz.func80, Tryz.ntmps80
            go_wp2_with fail
            go_quiet (first | (go_at_call 105; refine Calls.quiet_of_same (specKidsQ _ _ _ Hkn.out)))
            go_wp2
            go_ret
            exact ⟨false, rfl, ⟨fun h => (by cases h), fun h => absurd h hno.out⟩, belowN HA.out nq⟩
          · subst ho
            have e1 : kidsN 2 = 0 := rfl
            have Hkn := Lib.hid e1
            have hk1 : ((k : Int) != 0) = false := hk0
            clear e1
            have hno : Hid (¬ PlainN 2 n s k ms) := fun h => by
              have h2 := h.2
              unfold HoldsN at h2
              rw [if_neg (by decide), if_pos rfl] at h2; have a1 := hnz.out; have a2 := hmp.out; have a3 := HMl.out; have a4 := h2.2.1; have a5 := h2.2.2; omega
            go_enter Tryz.func80, Tryz.ntmps80
            go_wp2_with fail
            go_quiet (first | (go_at_call 105; refine Calls.quiet_of_same (specKidsQ _ _ _ Hkn.out)))
            go_wp2
            go_ret
            exact ⟨false, rfl, ⟨fun h => (by cases h), fun h => absurd h hno.out⟩, belowN HA.out nq⟩
          · subst ho
            have e1 : kidsN 10 = 1 := rfl
            have Hkn := Lib.hid e1
            have hk1 : ((k : Int) != 1) = false := hk0
            clear e1
            go_enter Tryz.func80, Tryz.ntmps80
            go_wp2_with fail
            go_quiet (first | (go_at_call 105; refine Calls.quiet_of_same (specKidsQ _ _ _ Hkn.out)))
            go_wp2_with fail
            refine (specMarksOk ma m mc (mF ms) (mP ms) _ (marks_of_N (HM.out.kept (same_of_below (belowN HA.out nq)))) hml).mono ?_
            rintro e w1 ⟨b, rfl, hb, d1⟩
            have Hb : Hid (b = true ↔ MOk (mF ms) (mP ms) m) := hb
            clear hb
            go_wp2
            go_ret
            refine ⟨b, rfl, ?_, (belowN HA.out nq).trans (d1.mono (belowN HA.out nq).size)⟩
            have a1 := hnz.out
            have a2 := hsz.out
            have a3 := HMl.out
            have a4 := hkids.out
            show _ ↔ _
            unfold PlainN HoldsN
            rw [if_neg (by decide), if_neg (by decide), if_pos rfl, ← a3]
            exact ⟨fun h => ⟨a4, a1, a2, Hb.out.1 h⟩, fun h => Hb.out.2 h.2.2.2⟩
          · obtain ⟨o1, o2, o10⟩ := ho
            have b1 : (o == 1) = false := by simpa using o1
            have b2 : (o == 2) = false := by simpa using o2
            have b3 : (o == 10) = false := by simpa using o10
            have b4 : (o != 1) = true := by simpa using o1
            have b5 : (o != 2) = true := by simpa using o2
            have b6 : (o != 10) = true := by simpa using o10
            have HO := Lib.hid (And.intro o1 (And.intro o2 o10))
            clear o1 o2 o10
            generalize hkn : kidsN o = kn at *
            have Hkn := Lib.hid hkn
            clear hkn
            have hno : Hid (¬ PlainN o n s k ms) := fun h => by
              have h2 := h.2
              unfold HoldsN at h2
              rw [if_neg HO.out.1, if_neg HO.out.2.1, if_neg HO.out.2.2] at h2; have a1 := hsz.out; have a2 := hmp.out; have a3 := HMl.out; have a4 := hnz.out; have a5 := h2.1; have a6 := h2.2.1; have a7 := h2.2.2; omega
            go_enter Tryz.func80, Tryz.ntmps80
            go_wp2_with fail
            go_quiet (first | (go_at_call 105; refine Calls.quiet_of_same (specKidsQ _ _ _ Hkn.out)))
            go_wp2
            go_ret
            exact ⟨false, rfl, ⟨fun h => (by cases h), fun h => absurd h hno.out⟩, belowN HA.out nq⟩
        | false =>
          have hmp : Hid (m = 0) := by show _ = _; simp at hm0; exact hm0
          rcases opCases o with ho | ho | ho | ho
          · subst ho
            have e1 : kidsN 1 = 0 := rfl
            have Hkn := Lib.hid e1
            have hk1 : ((k : Int) != 0) = false := hk0
            clear e1
            go_enter Tryz.func80, Tryz.ntmps80
            go_wp2_with fail
            go_quiet (first | (go_at_call 105; refine Calls.quiet_of_same (specKidsQ _ _ _ Hkn.out)))
            go_wp2_with fail
            refine (specInZ n (-1000000000) 1000000000 _).mono ?_
            rintro e w' ⟨rfl, rfl⟩
            go_wp2
            go_ret
            refine ⟨_, rfl, ?_, belowN HA.out nq⟩
            have a1 := hsz.out
            have a2 := hmp.out
            have a3 := HMl.out
            have a4 := hkids.out
            show _ ↔ _
            unfold PlainN HoldsN
            rw [if_pos rfl]
            simp only [Bool.and_eq_true, decide_eq_true_eq]
            exact ⟨fun h => ⟨a4, h, a1, by omega⟩, fun h => h.2.1⟩
          · subst ho
            have e1 : kidsN 2 = 0 := rfl
            have Hkn := Lib.hid e1
            have hk1 : ((k : Int) != 0) = false := hk0
            clear e1
            go_enter Tryz.func80, Tryz.ntmps80
            go_wp2_with fail
            go_quiet (first | (go_at_call 105; refine Calls.quiet_of_same (specKidsQ _ _ _ Hkn.out)))
            go_wp2_with fail
            refine (specName s _ hs).mono ?_
            rintro e w' ⟨rfl, rfl⟩
            go_wp2
            go_ret
            refine ⟨_, rfl, ?_, belowN HA.out nq⟩
            have a1 := hnz.out
            have a2 := hmp.out
            have a3 := HMl.out
            have a4 := hkids.out
            show _ ↔ _
            unfold PlainN HoldsN
            rw [if_neg (by decide), if_pos rfl]
            exact ⟨fun h => ⟨a4, h, a1, by omega⟩, fun h => h.2.1⟩
          · subst ho
            have e1 : kidsN 10 = 1 := rfl
            have Hkn := Lib.hid e1
            have hk1 : ((k : Int) != 1) = false := hk0
            clear e1
            go_enter Tryz.func80, Tryz.ntmps80
            go_wp2_with fail
            go_quiet (first | (go_at_call 105; refine Calls.quiet_of_same (specKidsQ _ _ _ Hkn.out)))
            go_wp2_with fail
            refine (specMarksOk ma m mc (mF ms) (mP ms) _ (marks_of_N (HM.out.kept (same_of_below (belowN HA.out nq)))) hml).mono ?_
            rintro e w1 ⟨b, rfl, hb, d1⟩
            have Hb : Hid (b = true ↔ MOk (mF ms) (mP ms) m) := hb
            clear hb
            go_wp2
            go_ret
            refine ⟨b, rfl, ?_, (belowN HA.out nq).trans (d1.mono (belowN HA.out nq).size)⟩
            have a1 := hnz.out
            have a2 := hsz.out
            have a3 := HMl.out
            have a4 := hkids.out
            show _ ↔ _
            unfold PlainN HoldsN
            rw [if_neg (by decide), if_neg (by decide), if_pos rfl, ← a3]
            exact ⟨fun h => ⟨a4, a1, a2, Hb.out.1 h⟩, fun h => Hb.out.2 h.2.2.2⟩
          · obtain ⟨o1, o2, o10⟩ := ho
            have b1 : (o == 1) = false := by simpa using o1
            have b2 : (o == 2) = false := by simpa using o2
            have b3 : (o == 10) = false := by simpa using o10
            have b4 : (o != 1) = true := by simpa using o1
            have b5 : (o != 2) = true := by simpa using o2
            have b6 : (o != 10) = true := by simpa using o10
            have HO := Lib.hid (And.intro o1 (And.intro o2 o10))
            clear o1 o2 o10
            generalize hkn : kidsN o = kn at *
            have Hkn := Lib.hid hkn
            clear hkn
            go_enter Tryz.func80, Tryz.ntmps80
            go_wp2_with fail
            go_quiet (first | (go_at_call 105; refine Calls.quiet_of_same (specKidsQ _ _ _ Hkn.out)))
            go_wp2
            go_ret
            exact ⟨true, rfl, ⟨fun _ => ⟨by rw [Hkn.out]; exact hkids.out, by unfold HoldsN; rw [if_neg HO.out.1, if_neg HO.out.2.1, if_neg HO.out.2.2]; have a1 := hsz.out; have a2 := hmp.out; have a3 := HMl.out; exact ⟨hnz.out, a1, by omega⟩⟩, fun _ => rfl⟩, belowN HA.out nq⟩
    | false =>
      have hsz := Lib.hid (str_full hs0)
      cases hn0 : (n != 0) with
      | true =>
        have hnz : Hid (n ≠ 0) := by show _ ≠ _; simpa using hn0
        cases hm0 : decide (0 < m) with
        | true =>
          have hmp : Hid (0 < m) := by show 0 < m; simpa using hm0
          rcases opCases o with ho | ho | ho | ho
          · subst ho
            have e1 : kidsN 1 = 0 := rfl
            have Hkn := Lib.hid e1
            have hk1 : ((k : Int) != 0) = false := hk0
            clear e1
            have hno : Hid (¬ PlainN 1 n s k ms) := fun h => by
              have h2 := h.2
              unfold HoldsN at h2
              rw [if_pos rfl] at h2; have a1 := hsz.out; have a2 := hmp.out; have a3 := HMl.out; have a4 := h2.2.1; have a5 := h2.2.2; omega
            go_enter Tryz.func80, Tryz.ntmps80
            go_wp2_with fail
            go_quiet (first | (go_at_call 105; refine Calls.quiet_of_same (specKidsQ _ _ _ Hkn.out)))
            go_wp2
            go_ret
            exact ⟨false, rfl, ⟨fun h => (by cases h), fun h => absurd h hno.out⟩, belowN HA.out nq⟩
          · subst ho
            have e1 : kidsN 2 = 0 := rfl
            have Hkn := Lib.hid e1
            have hk1 : ((k : Int) != 0) = false := hk0
            clear e1
            have hno : Hid (¬ PlainN 2 n s k ms) := fun h => by
              have h2 := h.2
              unfold HoldsN at h2
              rw [if_neg (by decide), if_pos rfl] at h2; have a1 := hnz.out; have a2 := hmp.out; have a3 := HMl.out; have a4 := h2.2.1; have a5 := h2.2.2; omega
            go_enter Tryz.func80, Tryz.ntmps80
            go_wp2_with fail
            go_quiet (first | (go_at_call 105; refine Calls.quiet_of_same (specKidsQ _ _ _ Hkn.out)))
            go_wp2
            go_ret
            exact ⟨false, rfl, ⟨fun h => (by cases h), fun h => absurd h hno.out⟩, belowN HA.out nq⟩
          · subst ho
            have e1 : kidsN 10 = 1 := rfl
            have Hkn := Lib.hid e1
            have hk1 : ((k : Int) != 1) = false := hk0
            clear e1
            have hno : Hid (¬ PlainN 10 n s k ms) := fun h => by
              have h2 := h.2
              unfold HoldsN at h2
              rw [if_neg (by decide), if_neg (by decide), if_pos rfl] at h2; have a1 := hnz.out; have a2 := hsz.out; have a4 := h2.1; have a5 := h2.2.1; omega
            go_enter Tryz.func80, Tryz.ntmps80
            go_wp2_with fail
            go_quiet (first | (go_at_call 105; refine Calls.quiet_of_same (specKidsQ _ _ _ Hkn.out)))
            go_wp2
            go_ret
            exact ⟨false, rfl, ⟨fun h => (by cases h), fun h => absurd h hno.out⟩, belowN HA.out nq⟩
          · obtain ⟨o1, o2, o10⟩ := ho
            have b1 : (o == 1) = false := by simpa using o1
            have b2 : (o == 2) = false := by simpa using o2
            have b3 : (o == 10) = false := by simpa using o10
            have b4 : (o != 1) = true := by simpa using o1
            have b5 : (o != 2) = true := by simpa using o2
            have b6 : (o != 10) = true := by simpa using o10
            have HO := Lib.hid (And.intro o1 (And.intro o2 o10))
            clear o1 o2 o10
            generalize hkn : kidsN o = kn at *
            have Hkn := Lib.hid hkn
            clear hkn
            have hno : Hid (¬ PlainN o n s k ms) := fun h => by
              have h2 := h.2
              unfold HoldsN at h2
              rw [if_neg HO.out.1, if_neg HO.out.2.1, if_neg HO.out.2.2] at h2; have a1 := hsz.out; have a2 := hmp.out; have a3 := HMl.out; have a4 := hnz.out; have a5 := h2.1; have a6 := h2.2.1; have a7 := h2.2.2; omega
            go_enter Tryz.func80, Tryz.ntmps80
            go_wp2_with fail
            go_quiet (first | (go_at_call 105; refine Calls.quiet_of_same (specKidsQ _ _ _ Hkn.out)))
            go_wp2
            go_ret
            exact ⟨false, rfl, ⟨fun h => (by cases h), fun h => absurd h hno.out⟩, belowN HA.out nq⟩
        | false =>
          have hmp : Hid (m = 0) := by show _ = _; simp at hm0; exact hm0
          rcases opCases o with ho | ho | ho | ho
          · subst ho
            have e1 : kidsN 1 = 0 := rfl
            have Hkn := Lib.hid e1
            have hk1 : ((k : Int) != 0) = false := hk0
            clear e1
            have hno : Hid (¬ PlainN 1 n s k ms) := fun h => by
              have h2 := h.2
              unfold HoldsN at h2
              rw [if_pos rfl] at h2; have a1 := hsz.out; have a2 := hmp.out; have a3 := HMl.out; have a4 := h2.2.1; have a5 := h2.2.2; omega
            go_enter Tryz.func80, Tryz.ntmps80
            go_wp2_with fail
            go_quiet (first | (go_at_call 105; refine Calls.quiet_of_same (specKidsQ _ _ _ Hkn.out)))
            go_wp2
            go_ret
            exact ⟨false, rfl, ⟨fun h => (by cases h), fun h => absurd h hno.out⟩, belowN HA.out nq⟩
          · subst ho
            have e1 : kidsN 2 = 0 := rfl
            have Hkn := Lib.hid e1
            have hk1 : ((k : Int) != 0) = false := hk0
            clear e1
            have hno : Hid (¬ PlainN 2 n s k ms) := fun h => by
              have h2 := h.2
              unfold HoldsN at h2
              rw [if_neg (by decide), if_pos rfl] at h2; have a1 := hnz.out; have a2 := hmp.out; have a3 := HMl.out; have a4 := h2.2.1; have a5 := h2.2.2; omega
            go_enter Tryz.func80, Tryz.ntmps80
            go_wp2_with fail
            go_quiet (first | (go_at_call 105; refine Calls.quiet_of_same (specKidsQ _ _ _ Hkn.out)))
            go_wp2
            go_ret
            exact ⟨false, rfl, ⟨fun h => (by cases h), fun h => absurd h hno.out⟩, belowN HA.out nq⟩
          · subst ho
            have e1 : kidsN 10 = 1 := rfl
            have Hkn := Lib.hid e1
            have hk1 : ((k : Int) != 1) = false := hk0
            clear e1
            have hno : Hid (¬ PlainN 10 n s k ms) := fun h => by
              have h2 := h.2
              unfold HoldsN at h2
              rw [if_neg (by decide), if_neg (by decide), if_pos rfl] at h2; have a1 := hnz.out; have a2 := hsz.out; have a4 := h2.1; have a5 := h2.2.1; omega
            go_enter Tryz.func80, Tryz.ntmps80
            go_wp2_with fail
            go_quiet (first | (go_at_call 105; refine Calls.quiet_of_same (specKidsQ _ _ _ Hkn.out)))
            go_wp2
            go_ret
            exact ⟨false, rfl, ⟨fun h => (by cases h), fun h => absurd h hno.out⟩, belowN HA.out nq⟩
          · obtain ⟨o1, o2, o10⟩ := ho
            have b1 : (o == 1) = false := by simpa using o1
            have b2 : (o == 2) = false := by simpa using o2
            have b3 : (o == 10) = false := by simpa using o10
            have b4 : (o != 1) = true := by simpa using o1
            have b5 : (o != 2) = true := by simpa using o2
            have b6 : (o != 10) = true := by simpa using o10
            have HO := Lib.hid (And.intro o1 (And.intro o2 o10))
            clear o1 o2 o10
            generalize hkn : kidsN o = kn at *
            have Hkn := Lib.hid hkn
            clear hkn
            have hno : Hid (¬ PlainN o n s k ms) := fun h => by
              have h2 := h.2
              unfold HoldsN at h2
              rw [if_neg HO.out.1, if_neg HO.out.2.1, if_neg HO.out.2.2] at h2; have a1 := hsz.out; have a2 := hmp.out; have a3 := HMl.out; have a4 := hnz.out; have a5 := h2.1; have a6 := h2.2.1; have a7 := h2.2.2; omega
            go_enter Tryz.func80, Tryz.ntmps80
            go_wp2_with fail
            go_quiet (first | (go_at_call 105; refine Calls.quiet_of_same (specKidsQ _ _ _ Hkn.out)))
            go_wp2
            go_ret
            exact ⟨false, rfl, ⟨fun h => (by cases h), fun h => absurd h hno.out⟩, belowN HA.out nq⟩
      | false =>
        have hnz : Hid (n = 0) := by show _ = _; simpa using hn0
        cases hm0 : decide (0 < m) with
        | true =>
          have hmp : Hid (0 < m) := by show 0 < m; simpa using hm0
          rcases opCases o with ho | ho | ho | ho
          · subst ho
            have e1 : kidsN 1 = 0 := rfl
            have Hkn := Lib.hid e1
            have hk1 : ((k : Int) != 0) = false := hk0
            clear e1
            have hno : Hid (¬ PlainN 1 n s k ms) := fun h => by
              have h2 := h.2
              unfold HoldsN at h2
              rw [if_pos rfl] at h2; have a1 := hsz.out; have a2 := hmp.out; have a3 := HMl.out; have a4 := h2.2.1; have a5 := h2.2.2; omega
            go_enter Tryz.func80, Tryz.ntmps80
            go_wp2_with fail
            go_quiet (first | (go_at_call 105; refine Calls.quiet_of_same (specKidsQ _ _ _ Hkn.out)))
            go_wp2
            go_ret
            exact ⟨false, rfl, ⟨fun h => (by cases h), fun h => absurd h hno.out⟩, belowN HA.out nq⟩
          · subst ho
            have e1 : kidsN 2 = 0 := rfl
            have Hkn := Lib.hid e1
            have hk1 : ((k : Int) != 0) = false := hk0
            clear e1
            have hno : Hid (¬ PlainN 2 n s k ms) := fun h => by
              have h2 := h.2
              unfold HoldsN at h2
              rw [if_neg (by decide), if_pos rfl] at h2; have a1 := hnz.out; have a2 := hmp.out; have a3 := HMl.out; have a4 := h2.2.1; have a5 := h2.2.2; omega
            go_enter Tryz.func80, Tryz.ntmps80
            go_wp2_with fail
            go_quiet (first | (go_at_call 105; refine Calls.quiet_of_same (specKidsQ _ _ _ Hkn.out)))
            go_wp2
            go_ret
            exact ⟨false, rfl, ⟨fun h => (by cases h), fun h => absurd h hno.out⟩, belowN HA.out nq⟩
          · subst ho
            have e1 : kidsN 10 = 1 := rfl
            have Hkn := Lib.hid e1
            have hk1 : ((k : Int) != 1) = false := hk0
            clear e1
            have hno : Hid (¬ PlainN 10 n s k ms) := fun h => by
              have h2 := h.2
              unfold HoldsN at h2
              rw [if_neg (by decide), if_neg (by decide), if_pos rfl] at h2; have a1 := hnz.out; have a2 := hsz.out; have a4 := h2.1; have a5 := h2.2.1; omega
            go_enter Tryz.func80, Tryz.ntmps80
            go_wp2_with fail
            go_quiet (first | (go_at_call 105; refine Calls.quiet_of_same (specKidsQ _ _ _ Hkn.out)))
            go_wp2
            go_ret
            exact ⟨false, rfl, ⟨fun h => (by cases h), fun h => absurd h hno.out⟩, belowN HA.out nq⟩
          · obtain ⟨o1, o2, o10⟩ := ho
            have b1 : (o == 1) = false := by simpa using o1
            have b2 : (o == 2) = false := by simpa using o2
            have b3 : (o == 10) = false := by simpa using o10
            have b4 : (o != 1) = true := by simpa using o1
            have b5 : (o != 2) = true := by simpa using o2
            have b6 : (o != 10) = true := by simpa using o10
            have HO := Lib.hid (And.intro o1 (And.intro o2 o10))
            clear o1 o2 o10
            generalize hkn : kidsN o = kn at *
            have Hkn := Lib.hid hkn
            clear hkn
            have hno : Hid (¬ PlainN o n s k ms) := fun h => by
              have h2 := h.2
              unfold HoldsN at h2
              rw [if_neg HO.out.1, if_neg HO.out.2.1, if_neg HO.out.2.2] at h2; have a1 := hsz.out; have a2 := hmp.out; have a3 := HMl.out; have a4 := hnz.out; have a5 := h2.1; have a6 := h2.2.1; have a7 := h2.2.2; omega
            go_enter Tryz.func80, Tryz.ntmps80
            go_wp2_with fail
            go_quiet (first | (go_at_call 105; refine Calls.quiet_of_same (specKidsQ _ _ _ Hkn.out)))
            go_wp2
            go_ret
            exact ⟨false, rfl, ⟨fun h => (by cases h), fun h => absurd h hno.out⟩, belowN HA.out nq⟩
        | false =>
          have hmp : Hid (m = 0) := by show _ = _; simp at hm0; exact hm0
          rcases opCases o with ho | ho | ho | ho
          · subst ho
            have e1 : kidsN 1 = 0 := rfl
            have Hkn := Lib.hid e1
            have hk1 : ((k : Int) != 0) = false := hk0
            clear e1
            have hno : Hid (¬ PlainN 1 n s k ms) := fun h => by
              have h2 := h.2
              unfold HoldsN at h2
              rw [if_pos rfl] at h2; have a1 := hsz.out; have a2 := hmp.out; have a3 := HMl.out; have a4 := h2.2.1; have a5 := h2.2.2; omega
            go_enter Tryz.func80, Tryz.ntmps80
            go_wp2_with fail
            go_quiet (first | (go_at_call 105; refine Calls.quiet_of_same (specKidsQ _ _ _ Hkn.out)))
            go_wp2
            go_ret
            exact ⟨false, rfl, ⟨fun h => (by cases h), fun h => absurd h hno.out⟩, belowN HA.out nq⟩
          · subst ho
            have e1 : kidsN 2 = 0 := rfl
            have Hkn := Lib.hid e1
            have hk1 : ((k : Int) != 0) = false := hk0
            clear e1
            go_enter Tryz.func80, Tryz.ntmps80
            go_wp2_with fail
            go_quiet (first | (go_at_call 105; refine Calls.quiet_of_same (specKidsQ _ _ _ Hkn.out)))
            go_wp2_with fail
            refine (specName s _ hs).mono ?_
            rintro e w' ⟨rfl, rfl⟩
            go_wp2
            go_ret
            refine ⟨_, rfl, ?_, belowN HA.out nq⟩
            have a1 := hnz.out
            have a2 := hmp.out
            have a3 := HMl.out
            have a4 := hkids.out
            show _ ↔ _
            unfold PlainN HoldsN
            rw [if_neg (by decide), if_pos rfl]
            exact ⟨fun h => ⟨a4, h, a1, by omega⟩, fun h => h.2.1⟩
          · subst ho
            have e1 : kidsN 10 = 1 := rfl
            have Hkn := Lib.hid e1
            have hk1 : ((k : Int) != 1) = false := hk0
            clear e1
            have hno : Hid (¬ PlainN 10 n s k ms) := fun h => by
              have h2 := h.2
              unfold HoldsN at h2
              rw [if_neg (by decide), if_neg (by decide), if_pos rfl] at h2; have a1 := hnz.out; have a2 := hsz.out; have a4 := h2.1; have a5 := h2.2.1; omega
            go_enter Tryz.func80, Tryz.ntmps80
            go_wp2_with fail
            go_quiet (first | (go_at_call 105; refine Calls.quiet_of_same (specKidsQ _ _ _ Hkn.out)))
            go_wp2
            go_ret
            exact ⟨false, rfl, ⟨fun h => (by cases h), fun h => absurd h hno.out⟩, belowN HA.out nq⟩
          · obtain ⟨o1, o2, o10⟩ := ho
            have b1 : (o == 1) = false := by simpa using o1
            have b2 : (o == 2) = false := by simpa using o2
            have b3 : (o == 10) = false := by simpa using o10
            have b4 : (o != 1) = true := by simpa using o1
            have b5 : (o != 2) = true := by simpa using o2
            have b6 : (o != 10) = true := by simpa using o10
            have HO := Lib.hid (And.intro o1 (And.intro o2 o10))
            clear o1 o2 o10
            generalize hkn : kidsN o = kn at *
            have Hkn := Lib.hid hkn
            clear hkn
            have hno : Hid (¬ PlainN o n s k ms) := fun h => by
              have h2 := h.2
              unfold HoldsN at h2
              rw [if_neg HO.out.1, if_neg HO.out.2.1, if_neg HO.out.2.2] at h2; have a1 := hsz.out; have a2 := hmp.out; have a3 := HMl.out; have a4 := hnz.out; have a5 := h2.1; have a6 := h2.2.1; have a7 := h2.2.2; omega
            go_enter Tryz.func80, Tryz.ntmps80
            go_wp2_with fail
            go_quiet (first | (go_at_call 105; refine Calls.quiet_of_same (specKidsQ _ _ _ Hkn.out)))
            go_wp2
            go_ret
            exact ⟨false, rfl, ⟨fun h => (by cases h), fun h => absurd h hno.out⟩, belowN HA.out nq⟩
end Go.Proofs.YtjphjnopdlfplaaGreatDoor
