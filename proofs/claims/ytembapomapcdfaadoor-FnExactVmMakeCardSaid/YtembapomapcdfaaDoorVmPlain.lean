/-
  Whether a place of a program has just what it needs: the model's answer.
-/
import Derived.Test.YtembapomapcdfaaDoorInsCopy
import Derived.Test.YtembapomapcdfaaDoorRulePlain
namespace Go.Proofs.YtembapomapcdfaaDoor
open Go.RowKit
set_option linter.unusedVariables false
set_option linter.unusedSimpArgs false

def HoldsV (o n k : Int) (s : ByteArray) (ms : List (Int × Int)) : Prop := if o = 9 ∨ o = 11 then (0 ≤ n ∧ n ≤ k) ∧ s.size = 0 ∧ ms.length = 0 else HoldsN o n s ms
instance (o n k : Int) (s : ByteArray) (ms : List (Int × Int)) : Decidable (HoldsV o n k s ms) := by unfold HoldsV; infer_instance
theorem in_iff (a n b : Int) : (decide (a ≤ n) && decide (n ≤ b)) = true ↔ a ≤ n ∧ n ≤ b := by simp
set_option maxRecDepth 20000 in
set_option maxHeartbeats 16000000 in
theorem vplain1 (n : Int) (s : ByteArray) (ma : Option Addr) (m mc : Nat) (ms : List (Int × Int)) (i q : Int) (w : World) (hs : s.size ≤ maxLen) (hm : MarksN All w ma m ms) (hml : m ≤ 1048576) (i0 : 0 ≤ i) (iq : i < q) (q1 : q ≤ 1048576) :
    Calls Tryd.prog 70 #[.agg #[.int .i64 1, .int .i64 n, .string s, .slice ma m mc], .int .i64 i, .int .i64 q] w (BoolP (HoldsV 1 n (q - i - 1) s ms) w) := by
  have hA : Below w.heap.size w (w.alloc (.cells #[.int .i64 1, .int .i64 n, .string s, .slice ma m mc] 61)) := (Below.refl _ _).alloc (Nat.le_refl _) _
  have HA := Lib.hid hA
  have HM := Lib.hid (hm.kept (same_of_below hA))
  have HMl : Hid (m = ms.length) := hm.1
  have HS := Lib.hid hs
  have w1 : IntKind.i64.wrap (q - i) = q - i := IntWalk.i64_in _ (by omega)
  have w2 : IntKind.i64.wrap (q - i - 1) = q - i - 1 := IntWalk.i64_in _ (by omega)
  clear hA hm
  have hI := Lib.hid (fun W => specInZ n (-1000000000) 1000000000 W)
  have hii := in_iff (-1000000000) n 1000000000
  generalize (decide ((-1000000000) ≤ n) && decide (n ≤ 1000000000)) = bi at hI hii
  have HII := Lib.hid hii
  clear hii
  cases hs0 : s.toList.isEmpty with
  | true =>
    have hsz := Lib.hid (str_empty hs0)
    cases hm0 : ((m : Int) == 0) with
    | true =>
      have hmp : Hid (m = 0) := by show m = 0; simp at hm0; omega
      cases bi with
      | true =>
        go_enter Tryd.func70, Tryd.ntmps70
        go_wp2_with fail
        refine (hI.out _).mono ?_
        rintro e w' ⟨rfl, rfl⟩
        go_wp2
        go_ret
        refine ⟨true, rfl, ?_, HA.out⟩
        have a1 := hsz.out; have a2 := hmp.out; have a3 := HMl.out
        show _ ↔ _
        unfold HoldsV
        have a5 := HII.out
        rw [if_neg (by decide)]
        unfold HoldsN
        rw [if_pos rfl]
        exact ⟨fun _ => ⟨a5.1 (by first | rfl | trivial), a1, by omega⟩, fun _ => rfl⟩
      | false =>
        go_enter Tryd.func70, Tryd.ntmps70
        go_wp2_with fail
        refine (hI.out _).mono ?_
        rintro e w' ⟨rfl, rfl⟩
        go_wp2
        go_ret
        refine ⟨false, rfl, ?_, HA.out⟩
        have a1 := hsz.out; have a2 := hmp.out; have a3 := HMl.out
        show _ ↔ _
        unfold HoldsV
        have a5 := HII.out
        rw [if_neg (by decide)]
        unfold HoldsN
        rw [if_pos rfl]
        exact ⟨fun h => (by cases h), fun h => absurd (a5.2 h.1) (by decide)⟩
    | false =>
      have hmp : Hid (m ≠ 0) := by show m ≠ 0; simp at hm0; omega
      cases bi with
      | true =>
        go_enter Tryd.func70, Tryd.ntmps70
        go_wp2_with fail
        refine (hI.out _).mono ?_
        rintro e w' ⟨rfl, rfl⟩
        go_wp2
        go_ret
        refine ⟨false, rfl, ?_, HA.out⟩
        have a1 := hsz.out; have a2 := hmp.out; have a3 := HMl.out
        show _ ↔ _
        unfold HoldsV
        have a5 := HII.out
        rw [if_neg (by decide)]
        unfold HoldsN
        rw [if_pos rfl]
        exact ⟨fun h => (by cases h), fun h => (by exfalso; omega)⟩
      | false =>
        go_enter Tryd.func70, Tryd.ntmps70
        go_wp2_with fail
        refine (hI.out _).mono ?_
        rintro e w' ⟨rfl, rfl⟩
        go_wp2
        go_ret
        refine ⟨false, rfl, ?_, HA.out⟩
        have a1 := hsz.out; have a2 := hmp.out; have a3 := HMl.out
        show _ ↔ _
        unfold HoldsV
        have a5 := HII.out
        rw [if_neg (by decide)]
        unfold HoldsN
        rw [if_pos rfl]
        exact ⟨fun h => (by cases h), fun h => absurd (a5.2 h.1) (by decide)⟩
  | false =>
    have hsz := Lib.hid (str_full hs0)
    cases hm0 : ((m : Int) == 0) with
    | true =>
      have hmp : Hid (m = 0) := by show m = 0; simp at hm0; omega
      cases bi with
      | true =>
        go_enter Tryd.func70, Tryd.ntmps70
        go_wp2_with fail
        refine (hI.out _).mono ?_
        rintro e w' ⟨rfl, rfl⟩
        go_wp2
        go_ret
        refine ⟨false, rfl, ?_, HA.out⟩
        have a1 := hsz.out; have a2 := hmp.out; have a3 := HMl.out
        show _ ↔ _
        unfold HoldsV
        have a5 := HII.out
        rw [if_neg (by decide)]
        unfold HoldsN
        rw [if_pos rfl]
        exact ⟨fun h => (by cases h), fun h => (by exfalso; omega)⟩
      | false =>
        go_enter Tryd.func70, Tryd.ntmps70
        go_wp2_with fail
        refine (hI.out _).mono ?_
        rintro e w' ⟨rfl, rfl⟩
        go_wp2
        go_ret
        refine ⟨false, rfl, ?_, HA.out⟩
        have a1 := hsz.out; have a2 := hmp.out; have a3 := HMl.out
        show _ ↔ _
        unfold HoldsV
        have a5 := HII.out
        rw [if_neg (by decide)]
        unfold HoldsN
        rw [if_pos rfl]
        exact ⟨fun h => (by cases h), fun h => absurd (a5.2 h.1) (by decide)⟩
    | false =>
      have hmp : Hid (m ≠ 0) := by show m ≠ 0; simp at hm0; omega
      cases bi with
      | true =>
        go_enter Tryd.func70, Tryd.ntmps70
        go_wp2_with fail
        refine (hI.out _).mono ?_
        rintro e w' ⟨rfl, rfl⟩
        go_wp2
        go_ret
        refine ⟨false, rfl, ?_, HA.out⟩
        have a1 := hsz.out; have a2 := hmp.out; have a3 := HMl.out
        show _ ↔ _
        unfold HoldsV
        have a5 := HII.out
        rw [if_neg (by decide)]
        unfold HoldsN
        rw [if_pos rfl]
        exact ⟨fun h => (by cases h), fun h => (by exfalso; omega)⟩
      | false =>
        go_enter Tryd.func70, Tryd.ntmps70
        go_wp2_with fail
        refine (hI.out _).mono ?_
        rintro e w' ⟨rfl, rfl⟩
        go_wp2
        go_ret
        refine ⟨false, rfl, ?_, HA.out⟩
        have a1 := hsz.out; have a2 := hmp.out; have a3 := HMl.out
        show _ ↔ _
        unfold HoldsV
        have a5 := HII.out
        rw [if_neg (by decide)]
        unfold HoldsN
        rw [if_pos rfl]
        exact ⟨fun h => (by cases h), fun h => absurd (a5.2 h.1) (by decide)⟩
set_option maxRecDepth 20000 in
set_option maxHeartbeats 16000000 in
theorem vplain2 (n : Int) (s : ByteArray) (ma : Option Addr) (m mc : Nat) (ms : List (Int × Int)) (i q : Int) (w : World) (hs : s.size ≤ maxLen) (hm : MarksN All w ma m ms) (hml : m ≤ 1048576) (i0 : 0 ≤ i) (iq : i < q) (q1 : q ≤ 1048576) :
    Calls Tryd.prog 70 #[.agg #[.int .i64 2, .int .i64 n, .string s, .slice ma m mc], .int .i64 i, .int .i64 q] w (BoolP (HoldsV 2 n (q - i - 1) s ms) w) := by
  have hA : Below w.heap.size w (w.alloc (.cells #[.int .i64 2, .int .i64 n, .string s, .slice ma m mc] 61)) := (Below.refl _ _).alloc (Nat.le_refl _) _
  have HA := Lib.hid hA
  have HM := Lib.hid (hm.kept (same_of_below hA))
  have HMl : Hid (m = ms.length) := hm.1
  have HS := Lib.hid hs
  have w1 : IntKind.i64.wrap (q - i) = q - i := IntWalk.i64_in _ (by omega)
  have w2 : IntKind.i64.wrap (q - i - 1) = q - i - 1 := IntWalk.i64_in _ (by omega)
  clear hA hm
  have hI := Lib.hid (fun W => specName s W HS.out)
  generalize hnb : nameB s.data.toList = nb at *
  have HNB := Lib.hid hnb
  clear hnb
  cases hs0 : s.toList.isEmpty with
  | true =>
    have hsz := Lib.hid (str_empty hs0)
    cases hm0 : ((m : Int) == 0) with
    | true =>
      have hmp : Hid (m = 0) := by show m = 0; simp at hm0; omega
      cases hn0 : (n == 0) with
      | true =>
        have hnz : Hid (n = 0) := by show n = 0; simpa using hn0
        cases nb with
        | true =>
          go_enter Tryd.func70, Tryd.ntmps70
          go_wp2_with fail
          refine (hI.out _).mono ?_
          rintro e w' ⟨rfl, rfl⟩
          go_wp2
          go_ret
          refine ⟨true, rfl, ?_, HA.out⟩
          have a1 := hsz.out; have a2 := hmp.out; have a3 := HMl.out; have a4 := hnz.out
          show _ ↔ _
          unfold HoldsV
          have a5 := HNB.out
          rw [if_neg (by decide)]
          unfold HoldsN
          rw [if_neg (by decide), if_pos rfl]
          rw [a5]
          exact ⟨fun _ => ⟨rfl, a4, by omega⟩, fun _ => rfl⟩
        | false =>
          go_enter Tryd.func70, Tryd.ntmps70
          go_wp2_with fail
          refine (hI.out _).mono ?_
          rintro e w' ⟨rfl, rfl⟩
          go_wp2
          go_ret
          refine ⟨false, rfl, ?_, HA.out⟩
          have a1 := hsz.out; have a2 := hmp.out; have a3 := HMl.out; have a4 := hnz.out
          show _ ↔ _
          unfold HoldsV
          have a5 := HNB.out
          rw [if_neg (by decide)]
          unfold HoldsN
          rw [if_neg (by decide), if_pos rfl]
          rw [a5]
          exact ⟨fun h => (by cases h), fun h => absurd h.1 (by decide)⟩
      | false =>
        have hnz : Hid (n ≠ 0) := by show n ≠ 0; simpa using hn0
        go_enter Tryd.func70, Tryd.ntmps70
        go_wp2
        go_ret
        refine ⟨false, rfl, ?_, HA.out⟩
        have a1 := hsz.out; have a2 := hmp.out; have a3 := HMl.out; have a4 := hnz.out
        show _ ↔ _
        unfold HoldsV
        rw [if_neg (by decide)]
        unfold HoldsN
        rw [if_neg (by decide), if_pos rfl]
        exact ⟨fun h => (by cases h), fun h => (by have := h.2.1; exfalso; omega)⟩
    | false =>
      have hmp : Hid (m ≠ 0) := by show m ≠ 0; simp at hm0; omega
      cases hn0 : (n == 0) with
      | true =>
        have hnz : Hid (n = 0) := by show n = 0; simpa using hn0
        cases nb with
        | true =>
          go_enter Tryd.func70, Tryd.ntmps70
          go_wp2_with fail
          refine (hI.out _).mono ?_
          rintro e w' ⟨rfl, rfl⟩
          go_wp2
          go_ret
          refine ⟨false, rfl, ?_, HA.out⟩
          have a1 := hsz.out; have a2 := hmp.out; have a3 := HMl.out; have a4 := hnz.out
          show _ ↔ _
          unfold HoldsV
          have a5 := HNB.out
          rw [if_neg (by decide)]
          unfold HoldsN
          rw [if_neg (by decide), if_pos rfl]
          rw [a5]
          exact ⟨fun h => (by cases h), fun h => (by have := h.2.2; exfalso; omega)⟩
        | false =>
          go_enter Tryd.func70, Tryd.ntmps70
          go_wp2_with fail
          refine (hI.out _).mono ?_
          rintro e w' ⟨rfl, rfl⟩
          go_wp2
          go_ret
          refine ⟨false, rfl, ?_, HA.out⟩
          have a1 := hsz.out; have a2 := hmp.out; have a3 := HMl.out; have a4 := hnz.out
          show _ ↔ _
          unfold HoldsV
          have a5 := HNB.out
          rw [if_neg (by decide)]
          unfold HoldsN
          rw [if_neg (by decide), if_pos rfl]
          rw [a5]
          exact ⟨fun h => (by cases h), fun h => absurd h.1 (by decide)⟩
      | false =>
        have hnz : Hid (n ≠ 0) := by show n ≠ 0; simpa using hn0
        go_enter Tryd.func70, Tryd.ntmps70
        go_wp2
        go_ret
        refine ⟨false, rfl, ?_, HA.out⟩
        have a1 := hsz.out; have a2 := hmp.out; have a3 := HMl.out; have a4 := hnz.out
        show _ ↔ _
        unfold HoldsV
        rw [if_neg (by decide)]
        unfold HoldsN
        rw [if_neg (by decide), if_pos rfl]
        exact ⟨fun h => (by cases h), fun h => (by have := h.2.1; exfalso; omega)⟩
  | false =>
    have hsz := Lib.hid (str_full hs0)
    cases hm0 : ((m : Int) == 0) with
    | true =>
      have hmp : Hid (m = 0) := by show m = 0; simp at hm0; omega
      cases hn0 : (n == 0) with
      | true =>
        have hnz : Hid (n = 0) := by show n = 0; simpa using hn0
        cases nb with
        | true =>
          go_enter Tryd.func70, Tryd.ntmps70
          go_wp2_with fail
          refine (hI.out _).mono ?_
          rintro e w' ⟨rfl, rfl⟩
          go_wp2
          go_ret
          refine ⟨true, rfl, ?_, HA.out⟩
          have a1 := hsz.out; have a2 := hmp.out; have a3 := HMl.out; have a4 := hnz.out
          show _ ↔ _
          unfold HoldsV
          have a5 := HNB.out
          rw [if_neg (by decide)]
          unfold HoldsN
          rw [if_neg (by decide), if_pos rfl]
          rw [a5]
          exact ⟨fun _ => ⟨rfl, a4, by omega⟩, fun _ => rfl⟩
        | false =>
          go_enter Tryd.func70, Tryd.ntmps70
          go_wp2_with fail
          refine (hI.out _).mono ?_
          rintro e w' ⟨rfl, rfl⟩
          go_wp2
          go_ret
          refine ⟨false, rfl, ?_, HA.out⟩
          have a1 := hsz.out; have a2 := hmp.out; have a3 := HMl.out; have a4 := hnz.out
          show _ ↔ _
          unfold HoldsV
          have a5 := HNB.out
          rw [if_neg (by decide)]
          unfold HoldsN
          rw [if_neg (by decide), if_pos rfl]
          rw [a5]
          exact ⟨fun h => (by cases h), fun h => absurd h.1 (by decide)⟩
      | false =>
        have hnz : Hid (n ≠ 0) := by show n ≠ 0; simpa using hn0
        go_enter Tryd.func70, Tryd.ntmps70
        go_wp2
        go_ret
        refine ⟨false, rfl, ?_, HA.out⟩
        have a1 := hsz.out; have a2 := hmp.out; have a3 := HMl.out; have a4 := hnz.out
        show _ ↔ _
        unfold HoldsV
        rw [if_neg (by decide)]
        unfold HoldsN
        rw [if_neg (by decide), if_pos rfl]
        exact ⟨fun h => (by cases h), fun h => (by have := h.2.1; exfalso; omega)⟩
    | false =>
      have hmp : Hid (m ≠ 0) := by show m ≠ 0; simp at hm0; omega
      cases hn0 : (n == 0) with
      | true =>
        have hnz : Hid (n = 0) := by show n = 0; simpa using hn0
        cases nb with
        | true =>
          go_enter Tryd.func70, Tryd.ntmps70
          go_wp2_with fail
          refine (hI.out _).mono ?_
          rintro e w' ⟨rfl, rfl⟩
          go_wp2
          go_ret
          refine ⟨false, rfl, ?_, HA.out⟩
          have a1 := hsz.out; have a2 := hmp.out; have a3 := HMl.out; have a4 := hnz.out
          show _ ↔ _
          unfold HoldsV
          have a5 := HNB.out
          rw [if_neg (by decide)]
          unfold HoldsN
          rw [if_neg (by decide), if_pos rfl]
          rw [a5]
          exact ⟨fun h => (by cases h), fun h => (by have := h.2.2; exfalso; omega)⟩
        | false =>
          go_enter Tryd.func70, Tryd.ntmps70
          go_wp2_with fail
          refine (hI.out _).mono ?_
          rintro e w' ⟨rfl, rfl⟩
          go_wp2
          go_ret
          refine ⟨false, rfl, ?_, HA.out⟩
          have a1 := hsz.out; have a2 := hmp.out; have a3 := HMl.out; have a4 := hnz.out
          show _ ↔ _
          unfold HoldsV
          have a5 := HNB.out
          rw [if_neg (by decide)]
          unfold HoldsN
          rw [if_neg (by decide), if_pos rfl]
          rw [a5]
          exact ⟨fun h => (by cases h), fun h => absurd h.1 (by decide)⟩
      | false =>
        have hnz : Hid (n ≠ 0) := by show n ≠ 0; simpa using hn0
        go_enter Tryd.func70, Tryd.ntmps70
        go_wp2
        go_ret
        refine ⟨false, rfl, ?_, HA.out⟩
        have a1 := hsz.out; have a2 := hmp.out; have a3 := HMl.out; have a4 := hnz.out
        show _ ↔ _
        unfold HoldsV
        rw [if_neg (by decide)]
        unfold HoldsN
        rw [if_neg (by decide), if_pos rfl]
        exact ⟨fun h => (by cases h), fun h => (by have := h.2.1; exfalso; omega)⟩
set_option maxRecDepth 20000 in
set_option maxHeartbeats 16000000 in
theorem vplain10 (n : Int) (s : ByteArray) (ma : Option Addr) (m mc : Nat) (ms : List (Int × Int)) (i q : Int) (w : World) (hs : s.size ≤ maxLen) (hm : MarksN All w ma m ms) (hml : m ≤ 1048576) (i0 : 0 ≤ i) (iq : i < q) (q1 : q ≤ 1048576) :
    Calls Tryd.prog 70 #[.agg #[.int .i64 10, .int .i64 n, .string s, .slice ma m mc], .int .i64 i, .int .i64 q] w (BoolP (HoldsV 10 n (q - i - 1) s ms) w) := by
  have hA : Below w.heap.size w (w.alloc (.cells #[.int .i64 10, .int .i64 n, .string s, .slice ma m mc] 61)) := (Below.refl _ _).alloc (Nat.le_refl _) _
  have HA := Lib.hid hA
  have HM := Lib.hid (hm.kept (same_of_below hA))
  have HMl : Hid (m = ms.length) := hm.1
  have HS := Lib.hid hs
  have w1 : IntKind.i64.wrap (q - i) = q - i := IntWalk.i64_in _ (by omega)
  have w2 : IntKind.i64.wrap (q - i - 1) = q - i - 1 := IntWalk.i64_in _ (by omega)
  clear hA hm
  cases hs0 : s.toList.isEmpty with
  | true =>
    have hsz := Lib.hid (str_empty hs0)
    cases hm0 : ((m : Int) == 0) with
    | true =>
      have hmp : Hid (m = 0) := by show m = 0; simp at hm0; omega
      cases hn0 : (n == 0) with
      | true =>
        have hnz : Hid (n = 0) := by show n = 0; simpa using hn0
        go_enter Tryd.func70, Tryd.ntmps70
        go_wp2_with fail
        refine (specMarksOk ma m mc (mF ms) (mP ms) _ (marks_of_N HM.out) hml).mono ?_
        rintro e w1 ⟨b, rfl, hb, d1⟩
        have Hb : Hid (b = true ↔ MOk (mF ms) (mP ms) m) := hb
        clear hb
        go_wp2
        go_ret
        refine ⟨b, rfl, ?_, HA.out.trans (d1.mono HA.out.size)⟩
        have a1 := hsz.out; have a2 := hmp.out; have a3 := HMl.out; have a4 := hnz.out
        have a5 := Hb.out
        rw [a3] at a5
        show _ ↔ _
        unfold HoldsV
        rw [if_neg (by decide)]
        unfold HoldsN
        rw [if_neg (by decide), if_neg (by decide), if_pos rfl]
        exact ⟨fun h => ⟨a4, a1, a5.1 h⟩, fun h => a5.2 h.2.2⟩
      | false =>
        have hnz : Hid (n ≠ 0) := by show n ≠ 0; simpa using hn0
        go_enter Tryd.func70, Tryd.ntmps70
        go_wp2
        go_ret
        refine ⟨false, rfl, ?_, HA.out⟩
        have a1 := hsz.out; have a2 := hmp.out; have a3 := HMl.out; have a4 := hnz.out
        show _ ↔ _
        unfold HoldsV
        rw [if_neg (by decide)]
        unfold HoldsN
        rw [if_neg (by decide), if_neg (by decide), if_pos rfl]
        exact ⟨fun h => (by cases h), fun h => (by have := h.1; have := h.2.1; exfalso; omega)⟩
    | false =>
      have hmp : Hid (m ≠ 0) := by show m ≠ 0; simp at hm0; omega
      cases hn0 : (n == 0) with
      | true =>
        have hnz : Hid (n = 0) := by show n = 0; simpa using hn0
        go_enter Tryd.func70, Tryd.ntmps70
        go_wp2_with fail
        refine (specMarksOk ma m mc (mF ms) (mP ms) _ (marks_of_N HM.out) hml).mono ?_
        rintro e w1 ⟨b, rfl, hb, d1⟩
        have Hb : Hid (b = true ↔ MOk (mF ms) (mP ms) m) := hb
        clear hb
        go_wp2
        go_ret
        refine ⟨b, rfl, ?_, HA.out.trans (d1.mono HA.out.size)⟩
        have a1 := hsz.out; have a2 := hmp.out; have a3 := HMl.out; have a4 := hnz.out
        have a5 := Hb.out
        rw [a3] at a5
        show _ ↔ _
        unfold HoldsV
        rw [if_neg (by decide)]
        unfold HoldsN
        rw [if_neg (by decide), if_neg (by decide), if_pos rfl]
        exact ⟨fun h => ⟨a4, a1, a5.1 h⟩, fun h => a5.2 h.2.2⟩
      | false =>
        have hnz : Hid (n ≠ 0) := by show n ≠ 0; simpa using hn0
        go_enter Tryd.func70, Tryd.ntmps70
        go_wp2
        go_ret
        refine ⟨false, rfl, ?_, HA.out⟩
        have a1 := hsz.out; have a2 := hmp.out; have a3 := HMl.out; have a4 := hnz.out
        show _ ↔ _
        unfold HoldsV
        rw [if_neg (by decide)]
        unfold HoldsN
        rw [if_neg (by decide), if_neg (by decide), if_pos rfl]
        exact ⟨fun h => (by cases h), fun h => (by have := h.1; have := h.2.1; exfalso; omega)⟩
  | false =>
    have hsz := Lib.hid (str_full hs0)
    cases hm0 : ((m : Int) == 0) with
    | true =>
      have hmp : Hid (m = 0) := by show m = 0; simp at hm0; omega
      cases hn0 : (n == 0) with
      | true =>
        have hnz : Hid (n = 0) := by show n = 0; simpa using hn0
        go_enter Tryd.func70, Tryd.ntmps70
        go_wp2
        go_ret
        refine ⟨false, rfl, ?_, HA.out⟩
        have a1 := hsz.out; have a2 := hmp.out; have a3 := HMl.out; have a4 := hnz.out
        show _ ↔ _
        unfold HoldsV
        rw [if_neg (by decide)]
        unfold HoldsN
        rw [if_neg (by decide), if_neg (by decide), if_pos rfl]
        exact ⟨fun h => (by cases h), fun h => (by have := h.1; have := h.2.1; exfalso; omega)⟩
      | false =>
        have hnz : Hid (n ≠ 0) := by show n ≠ 0; simpa using hn0
        go_enter Tryd.func70, Tryd.ntmps70
        go_wp2
        go_ret
        refine ⟨false, rfl, ?_, HA.out⟩
        have a1 := hsz.out; have a2 := hmp.out; have a3 := HMl.out; have a4 := hnz.out
        show _ ↔ _
        unfold HoldsV
        rw [if_neg (by decide)]
        unfold HoldsN
        rw [if_neg (by decide), if_neg (by decide), if_pos rfl]
        exact ⟨fun h => (by cases h), fun h => (by have := h.1; have := h.2.1; exfalso; omega)⟩
    | false =>
      have hmp : Hid (m ≠ 0) := by show m ≠ 0; simp at hm0; omega
      cases hn0 : (n == 0) with
      | true =>
        have hnz : Hid (n = 0) := by show n = 0; simpa using hn0
        go_enter Tryd.func70, Tryd.ntmps70
        go_wp2
        go_ret
        refine ⟨false, rfl, ?_, HA.out⟩
        have a1 := hsz.out; have a2 := hmp.out; have a3 := HMl.out; have a4 := hnz.out
        show _ ↔ _
        unfold HoldsV
        rw [if_neg (by decide)]
        unfold HoldsN
        rw [if_neg (by decide), if_neg (by decide), if_pos rfl]
        exact ⟨fun h => (by cases h), fun h => (by have := h.1; have := h.2.1; exfalso; omega)⟩
      | false =>
        have hnz : Hid (n ≠ 0) := by show n ≠ 0; simpa using hn0
        go_enter Tryd.func70, Tryd.ntmps70
        go_wp2
        go_ret
        refine ⟨false, rfl, ?_, HA.out⟩
        have a1 := hsz.out; have a2 := hmp.out; have a3 := HMl.out; have a4 := hnz.out
        show _ ↔ _
        unfold HoldsV
        rw [if_neg (by decide)]
        unfold HoldsN
        rw [if_neg (by decide), if_neg (by decide), if_pos rfl]
        exact ⟨fun h => (by cases h), fun h => (by have := h.1; have := h.2.1; exfalso; omega)⟩
set_option maxRecDepth 20000 in
set_option maxHeartbeats 16000000 in
theorem vplain9 (n : Int) (s : ByteArray) (ma : Option Addr) (m mc : Nat) (ms : List (Int × Int)) (i q : Int) (w : World) (hs : s.size ≤ maxLen) (hm : MarksN All w ma m ms) (hml : m ≤ 1048576) (i0 : 0 ≤ i) (iq : i < q) (q1 : q ≤ 1048576) :
    Calls Tryd.prog 70 #[.agg #[.int .i64 9, .int .i64 n, .string s, .slice ma m mc], .int .i64 i, .int .i64 q] w (BoolP (HoldsV 9 n (q - i - 1) s ms) w) := by
  have hA : Below w.heap.size w (w.alloc (.cells #[.int .i64 9, .int .i64 n, .string s, .slice ma m mc] 61)) := (Below.refl _ _).alloc (Nat.le_refl _) _
  have HA := Lib.hid hA
  have HM := Lib.hid (hm.kept (same_of_below hA))
  have HMl : Hid (m = ms.length) := hm.1
  have HS := Lib.hid hs
  have w1 : IntKind.i64.wrap (q - i) = q - i := IntWalk.i64_in _ (by omega)
  have w2 : IntKind.i64.wrap (q - i - 1) = q - i - 1 := IntWalk.i64_in _ (by omega)
  clear hA hm
  have hI := Lib.hid (fun W => specInZ n 0 (q - i - 1) W)
  have hii := in_iff 0 n (q - i - 1)
  generalize (decide (0 ≤ n) && decide (n ≤ (q - i - 1))) = bi at hI hii
  have HII := Lib.hid hii
  clear hii
  cases hs0 : s.toList.isEmpty with
  | true =>
    have hsz := Lib.hid (str_empty hs0)
    cases hm0 : ((m : Int) == 0) with
    | true =>
      have hmp : Hid (m = 0) := by show m = 0; simp at hm0; omega
      cases bi with
      | true =>
        go_enter Tryd.func70, Tryd.ntmps70
        go_wp2_with fail
        refine (hI.out _).mono ?_
        rintro e w' ⟨rfl, rfl⟩
        go_wp2
        go_ret
        refine ⟨true, rfl, ?_, HA.out⟩
        have a1 := hsz.out; have a2 := hmp.out; have a3 := HMl.out
        show _ ↔ _
        unfold HoldsV
        have a5 := HII.out
        rw [if_pos (by decide)]
        exact ⟨fun _ => ⟨a5.1 (by first | rfl | trivial), a1, by omega⟩, fun _ => rfl⟩
      | false =>
        go_enter Tryd.func70, Tryd.ntmps70
        go_wp2_with fail
        refine (hI.out _).mono ?_
        rintro e w' ⟨rfl, rfl⟩
        go_wp2
        go_ret
        refine ⟨false, rfl, ?_, HA.out⟩
        have a1 := hsz.out; have a2 := hmp.out; have a3 := HMl.out
        show _ ↔ _
        unfold HoldsV
        have a5 := HII.out
        rw [if_pos (by decide)]
        exact ⟨fun h => (by cases h), fun h => absurd (a5.2 h.1) (by decide)⟩
    | false =>
      have hmp : Hid (m ≠ 0) := by show m ≠ 0; simp at hm0; omega
      cases bi with
      | true =>
        go_enter Tryd.func70, Tryd.ntmps70
        go_wp2_with fail
        refine (hI.out _).mono ?_
        rintro e w' ⟨rfl, rfl⟩
        go_wp2
        go_ret
        refine ⟨false, rfl, ?_, HA.out⟩
        have a1 := hsz.out; have a2 := hmp.out; have a3 := HMl.out
        show _ ↔ _
        unfold HoldsV
        have a5 := HII.out
        rw [if_pos (by decide)]
        exact ⟨fun h => (by cases h), fun h => (by exfalso; omega)⟩
      | false =>
        go_enter Tryd.func70, Tryd.ntmps70
        go_wp2_with fail
        refine (hI.out _).mono ?_
        rintro e w' ⟨rfl, rfl⟩
        go_wp2
        go_ret
        refine ⟨false, rfl, ?_, HA.out⟩
        have a1 := hsz.out; have a2 := hmp.out; have a3 := HMl.out
        show _ ↔ _
        unfold HoldsV
        have a5 := HII.out
        rw [if_pos (by decide)]
        exact ⟨fun h => (by cases h), fun h => absurd (a5.2 h.1) (by decide)⟩
  | false =>
    have hsz := Lib.hid (str_full hs0)
    cases hm0 : ((m : Int) == 0) with
    | true =>
      have hmp : Hid (m = 0) := by show m = 0; simp at hm0; omega
      cases bi with
      | true =>
        go_enter Tryd.func70, Tryd.ntmps70
        go_wp2_with fail
        refine (hI.out _).mono ?_
        rintro e w' ⟨rfl, rfl⟩
        go_wp2
        go_ret
        refine ⟨false, rfl, ?_, HA.out⟩
        have a1 := hsz.out; have a2 := hmp.out; have a3 := HMl.out
        show _ ↔ _
        unfold HoldsV
        have a5 := HII.out
        rw [if_pos (by decide)]
        exact ⟨fun h => (by cases h), fun h => (by exfalso; omega)⟩
      | false =>
        go_enter Tryd.func70, Tryd.ntmps70
        go_wp2_with fail
        refine (hI.out _).mono ?_
        rintro e w' ⟨rfl, rfl⟩
        go_wp2
        go_ret
        refine ⟨false, rfl, ?_, HA.out⟩
        have a1 := hsz.out; have a2 := hmp.out; have a3 := HMl.out
        show _ ↔ _
        unfold HoldsV
        have a5 := HII.out
        rw [if_pos (by decide)]
        exact ⟨fun h => (by cases h), fun h => absurd (a5.2 h.1) (by decide)⟩
    | false =>
      have hmp : Hid (m ≠ 0) := by show m ≠ 0; simp at hm0; omega
      cases bi with
      | true =>
        go_enter Tryd.func70, Tryd.ntmps70
        go_wp2_with fail
        refine (hI.out _).mono ?_
        rintro e w' ⟨rfl, rfl⟩
        go_wp2
        go_ret
        refine ⟨false, rfl, ?_, HA.out⟩
        have a1 := hsz.out; have a2 := hmp.out; have a3 := HMl.out
        show _ ↔ _
        unfold HoldsV
        have a5 := HII.out
        rw [if_pos (by decide)]
        exact ⟨fun h => (by cases h), fun h => (by exfalso; omega)⟩
      | false =>
        go_enter Tryd.func70, Tryd.ntmps70
        go_wp2_with fail
        refine (hI.out _).mono ?_
        rintro e w' ⟨rfl, rfl⟩
        go_wp2
        go_ret
        refine ⟨false, rfl, ?_, HA.out⟩
        have a1 := hsz.out; have a2 := hmp.out; have a3 := HMl.out
        show _ ↔ _
        unfold HoldsV
        have a5 := HII.out
        rw [if_pos (by decide)]
        exact ⟨fun h => (by cases h), fun h => absurd (a5.2 h.1) (by decide)⟩
set_option maxRecDepth 20000 in
set_option maxHeartbeats 16000000 in
theorem vplain11 (n : Int) (s : ByteArray) (ma : Option Addr) (m mc : Nat) (ms : List (Int × Int)) (i q : Int) (w : World) (hs : s.size ≤ maxLen) (hm : MarksN All w ma m ms) (hml : m ≤ 1048576) (i0 : 0 ≤ i) (iq : i < q) (q1 : q ≤ 1048576) :
    Calls Tryd.prog 70 #[.agg #[.int .i64 11, .int .i64 n, .string s, .slice ma m mc], .int .i64 i, .int .i64 q] w (BoolP (HoldsV 11 n (q - i - 1) s ms) w) := by
  have hA : Below w.heap.size w (w.alloc (.cells #[.int .i64 11, .int .i64 n, .string s, .slice ma m mc] 61)) := (Below.refl _ _).alloc (Nat.le_refl _) _
  have HA := Lib.hid hA
  have HM := Lib.hid (hm.kept (same_of_below hA))
  have HMl : Hid (m = ms.length) := hm.1
  have HS := Lib.hid hs
  have w1 : IntKind.i64.wrap (q - i) = q - i := IntWalk.i64_in _ (by omega)
  have w2 : IntKind.i64.wrap (q - i - 1) = q - i - 1 := IntWalk.i64_in _ (by omega)
  clear hA hm
  have hI := Lib.hid (fun W => specInZ n 0 (q - i - 1) W)
  have hii := in_iff 0 n (q - i - 1)
  generalize (decide (0 ≤ n) && decide (n ≤ (q - i - 1))) = bi at hI hii
  have HII := Lib.hid hii
  clear hii
  cases hs0 : s.toList.isEmpty with
  | true =>
    have hsz := Lib.hid (str_empty hs0)
    cases hm0 : ((m : Int) == 0) with
    | true =>
      have hmp : Hid (m = 0) := by show m = 0; simp at hm0; omega
      cases bi with
      | true =>
        go_enter Tryd.func70, Tryd.ntmps70
        go_wp2_with fail
        refine (hI.out _).mono ?_
        rintro e w' ⟨rfl, rfl⟩
        go_wp2
        go_ret
        refine ⟨true, rfl, ?_, HA.out⟩
        have a1 := hsz.out; have a2 := hmp.out; have a3 := HMl.out
        show _ ↔ _
        unfold HoldsV
        have a5 := HII.out
        rw [if_pos (by decide)]
        exact ⟨fun _ => ⟨a5.1 (by first | rfl | trivial), a1, by omega⟩, fun _ => rfl⟩
      | false =>
        go_enter Tryd.func70, Tryd.ntmps70
        go_wp2_with fail
        refine (hI.out _).mono ?_
        rintro e w' ⟨rfl, rfl⟩
        go_wp2
        go_ret
        refine ⟨false, rfl, ?_, HA.out⟩
        have a1 := hsz.out; have a2 := hmp.out; have a3 := HMl.out
        show _ ↔ _
        unfold HoldsV
        have a5 := HII.out
        rw [if_pos (by decide)]
        exact ⟨fun h => (by cases h), fun h => absurd (a5.2 h.1) (by decide)⟩
    | false =>
      have hmp : Hid (m ≠ 0) := by show m ≠ 0; simp at hm0; omega
      cases bi with
      | true =>
        go_enter Tryd.func70, Tryd.ntmps70
        go_wp2_with fail
        refine (hI.out _).mono ?_
        rintro e w' ⟨rfl, rfl⟩
        go_wp2
        go_ret
        refine ⟨false, rfl, ?_, HA.out⟩
        have a1 := hsz.out; have a2 := hmp.out; have a3 := HMl.out
        show _ ↔ _
        unfold HoldsV
        have a5 := HII.out
        rw [if_pos (by decide)]
        exact ⟨fun h => (by cases h), fun h => (by exfalso; omega)⟩
      | false =>
        go_enter Tryd.func70, Tryd.ntmps70
        go_wp2_with fail
        refine (hI.out _).mono ?_
        rintro e w' ⟨rfl, rfl⟩
        go_wp2
        go_ret
        refine ⟨false, rfl, ?_, HA.out⟩
        have a1 := hsz.out; have a2 := hmp.out; have a3 := HMl.out
        show _ ↔ _
        unfold HoldsV
        have a5 := HII.out
        rw [if_pos (by decide)]
        exact ⟨fun h => (by cases h), fun h => absurd (a5.2 h.1) (by decide)⟩
  | false =>
    have hsz := Lib.hid (str_full hs0)
    cases hm0 : ((m : Int) == 0) with
    | true =>
      have hmp : Hid (m = 0) := by show m = 0; simp at hm0; omega
      cases bi with
      | true =>
        go_enter Tryd.func70, Tryd.ntmps70
        go_wp2_with fail
        refine (hI.out _).mono ?_
        rintro e w' ⟨rfl, rfl⟩
        go_wp2
        go_ret
        refine ⟨false, rfl, ?_, HA.out⟩
        have a1 := hsz.out; have a2 := hmp.out; have a3 := HMl.out
        show _ ↔ _
        unfold HoldsV
        have a5 := HII.out
        rw [if_pos (by decide)]
        exact ⟨fun h => (by cases h), fun h => (by exfalso; omega)⟩
      | false =>
        go_enter Tryd.func70, Tryd.ntmps70
        go_wp2_with fail
        refine (hI.out _).mono ?_
        rintro e w' ⟨rfl, rfl⟩
        go_wp2
        go_ret
        refine ⟨false, rfl, ?_, HA.out⟩
        have a1 := hsz.out; have a2 := hmp.out; have a3 := HMl.out
        show _ ↔ _
        unfold HoldsV
        have a5 := HII.out
        rw [if_pos (by decide)]
        exact ⟨fun h => (by cases h), fun h => absurd (a5.2 h.1) (by decide)⟩
    | false =>
      have hmp : Hid (m ≠ 0) := by show m ≠ 0; simp at hm0; omega
      cases bi with
      | true =>
        go_enter Tryd.func70, Tryd.ntmps70
        go_wp2_with fail
        refine (hI.out _).mono ?_
        rintro e w' ⟨rfl, rfl⟩
        go_wp2
        go_ret
        refine ⟨false, rfl, ?_, HA.out⟩
        have a1 := hsz.out; have a2 := hmp.out; have a3 := HMl.out
        show _ ↔ _
        unfold HoldsV
        have a5 := HII.out
        rw [if_pos (by decide)]
        exact ⟨fun h => (by cases h), fun h => (by exfalso; omega)⟩
      | false =>
        go_enter Tryd.func70, Tryd.ntmps70
        go_wp2_with fail
        refine (hI.out _).mono ?_
        rintro e w' ⟨rfl, rfl⟩
        go_wp2
        go_ret
        refine ⟨false, rfl, ?_, HA.out⟩
        have a1 := hsz.out; have a2 := hmp.out; have a3 := HMl.out
        show _ ↔ _
        unfold HoldsV
        have a5 := HII.out
        rw [if_pos (by decide)]
        exact ⟨fun h => (by cases h), fun h => absurd (a5.2 h.1) (by decide)⟩
set_option maxRecDepth 20000 in
set_option maxHeartbeats 16000000 in
theorem vplainX (o : Int) (h1 : o ≠ 1) (h2 : o ≠ 2) (h10 : o ≠ 10) (h9 : o ≠ 9) (h11 : o ≠ 11) (n : Int) (s : ByteArray) (ma : Option Addr) (m mc : Nat) (ms : List (Int × Int)) (i q : Int) (w : World) (hs : s.size ≤ maxLen) (hm : MarksN All w ma m ms) (hml : m ≤ 1048576) (i0 : 0 ≤ i) (iq : i < q) (q1 : q ≤ 1048576) :
    Calls Tryd.prog 70 #[.agg #[.int .i64 o, .int .i64 n, .string s, .slice ma m mc], .int .i64 i, .int .i64 q] w (BoolP (HoldsV o n (q - i - 1) s ms) w) := by
  have hA : Below w.heap.size w (w.alloc (.cells #[.int .i64 o, .int .i64 n, .string s, .slice ma m mc] 61)) := (Below.refl _ _).alloc (Nat.le_refl _) _
  have HA := Lib.hid hA
  have HM := Lib.hid (hm.kept (same_of_below hA))
  have HMl : Hid (m = ms.length) := hm.1
  have HS := Lib.hid hs
  have w1 : IntKind.i64.wrap (q - i) = q - i := IntWalk.i64_in _ (by omega)
  have w2 : IntKind.i64.wrap (q - i - 1) = q - i - 1 := IntWalk.i64_in _ (by omega)
  clear hA hm
  have b1 : (o == 1) = false := by simpa using h1
  have b2 : (o == 2) = false := by simpa using h2
  have b3 : (o == 10) = false := by simpa using h10
  have b4 : (o == 9) = false := by simpa using h9
  have b5 : (o == 11) = false := by simpa using h11
  have HO : Hid (o ≠ 1 ∧ o ≠ 2 ∧ o ≠ 10 ∧ ¬ (o = 9 ∨ o = 11)) := ⟨h1, h2, h10, by omega⟩
  clear h1 h2 h10 h9 h11
  cases hs0 : s.toList.isEmpty with
  | true =>
    have hsz := Lib.hid (str_empty hs0)
    cases hm0 : ((m : Int) == 0) with
    | true =>
      have hmp : Hid (m = 0) := by show m = 0; simp at hm0; omega
      cases hn0 : (n == 0) with
      | true =>
        have hnz : Hid (n = 0) := by show n = 0; simpa using hn0
        go_enter Tryd.func70, Tryd.ntmps70
        go_wp2
        go_ret
        refine ⟨true, rfl, ?_, HA.out⟩
        have a1 := hsz.out; have a2 := hmp.out; have a3 := HMl.out; have a4 := hnz.out
        show _ ↔ _
        unfold HoldsV
        rw [if_neg HO.out.2.2.2]
        unfold HoldsN
        rw [if_neg HO.out.1, if_neg HO.out.2.1, if_neg HO.out.2.2.1]
        exact ⟨fun _ => ⟨a4, a1, by omega⟩, fun _ => rfl⟩
      | false =>
        have hnz : Hid (n ≠ 0) := by show n ≠ 0; simpa using hn0
        go_enter Tryd.func70, Tryd.ntmps70
        go_wp2
        go_ret
        refine ⟨false, rfl, ?_, HA.out⟩
        have a1 := hsz.out; have a2 := hmp.out; have a3 := HMl.out; have a4 := hnz.out
        show _ ↔ _
        unfold HoldsV
        rw [if_neg HO.out.2.2.2]
        unfold HoldsN
        rw [if_neg HO.out.1, if_neg HO.out.2.1, if_neg HO.out.2.2.1]
        exact ⟨fun h => (by cases h), fun h => (by exfalso; omega)⟩
    | false =>
      have hmp : Hid (m ≠ 0) := by show m ≠ 0; simp at hm0; omega
      cases hn0 : (n == 0) with
      | true =>
        have hnz : Hid (n = 0) := by show n = 0; simpa using hn0
        go_enter Tryd.func70, Tryd.ntmps70
        go_wp2
        go_ret
        refine ⟨false, rfl, ?_, HA.out⟩
        have a1 := hsz.out; have a2 := hmp.out; have a3 := HMl.out; have a4 := hnz.out
        show _ ↔ _
        unfold HoldsV
        rw [if_neg HO.out.2.2.2]
        unfold HoldsN
        rw [if_neg HO.out.1, if_neg HO.out.2.1, if_neg HO.out.2.2.1]
        exact ⟨fun h => (by cases h), fun h => (by exfalso; omega)⟩
      | false =>
        have hnz : Hid (n ≠ 0) := by show n ≠ 0; simpa using hn0
        go_enter Tryd.func70, Tryd.ntmps70
        go_wp2
        go_ret
        refine ⟨false, rfl, ?_, HA.out⟩
        have a1 := hsz.out; have a2 := hmp.out; have a3 := HMl.out; have a4 := hnz.out
        show _ ↔ _
        unfold HoldsV
        rw [if_neg HO.out.2.2.2]
        unfold HoldsN
        rw [if_neg HO.out.1, if_neg HO.out.2.1, if_neg HO.out.2.2.1]
        exact ⟨fun h => (by cases h), fun h => (by exfalso; omega)⟩
  | false =>
    have hsz := Lib.hid (str_full hs0)
    cases hm0 : ((m : Int) == 0) with
    | true =>
      have hmp : Hid (m = 0) := by show m = 0; simp at hm0; omega
      cases hn0 : (n == 0) with
      | true =>
        have hnz : Hid (n = 0) := by show n = 0; simpa using hn0
        go_enter Tryd.func70, Tryd.ntmps70
        go_wp2
        go_ret
        refine ⟨false, rfl, ?_, HA.out⟩
        have a1 := hsz.out; have a2 := hmp.out; have a3 := HMl.out; have a4 := hnz.out
        show _ ↔ _
        unfold HoldsV
        rw [if_neg HO.out.2.2.2]
        unfold HoldsN
        rw [if_neg HO.out.1, if_neg HO.out.2.1, if_neg HO.out.2.2.1]
        exact ⟨fun h => (by cases h), fun h => (by exfalso; omega)⟩
      | false =>
        have hnz : Hid (n ≠ 0) := by show n ≠ 0; simpa using hn0
        go_enter Tryd.func70, Tryd.ntmps70
        go_wp2
        go_ret
        refine ⟨false, rfl, ?_, HA.out⟩
        have a1 := hsz.out; have a2 := hmp.out; have a3 := HMl.out; have a4 := hnz.out
        show _ ↔ _
        unfold HoldsV
        rw [if_neg HO.out.2.2.2]
        unfold HoldsN
        rw [if_neg HO.out.1, if_neg HO.out.2.1, if_neg HO.out.2.2.1]
        exact ⟨fun h => (by cases h), fun h => (by exfalso; omega)⟩
    | false =>
      have hmp : Hid (m ≠ 0) := by show m ≠ 0; simp at hm0; omega
      cases hn0 : (n == 0) with
      | true =>
        have hnz : Hid (n = 0) := by show n = 0; simpa using hn0
        go_enter Tryd.func70, Tryd.ntmps70
        go_wp2
        go_ret
        refine ⟨false, rfl, ?_, HA.out⟩
        have a1 := hsz.out; have a2 := hmp.out; have a3 := HMl.out; have a4 := hnz.out
        show _ ↔ _
        unfold HoldsV
        rw [if_neg HO.out.2.2.2]
        unfold HoldsN
        rw [if_neg HO.out.1, if_neg HO.out.2.1, if_neg HO.out.2.2.1]
        exact ⟨fun h => (by cases h), fun h => (by exfalso; omega)⟩
      | false =>
        have hnz : Hid (n ≠ 0) := by show n ≠ 0; simpa using hn0
        go_enter Tryd.func70, Tryd.ntmps70
        go_wp2
        go_ret
        refine ⟨false, rfl, ?_, HA.out⟩
        have a1 := hsz.out; have a2 := hmp.out; have a3 := HMl.out; have a4 := hnz.out
        show _ ↔ _
        unfold HoldsV
        rw [if_neg HO.out.2.2.2]
        unfold HoldsN
        rw [if_neg HO.out.1, if_neg HO.out.2.1, if_neg HO.out.2.2.1]
        exact ⟨fun h => (by cases h), fun h => (by exfalso; omega)⟩
theorem specVPlain (o n : Int) (s : ByteArray) (ma : Option Addr) (m mc : Nat) (ms : List (Int × Int)) (i q : Int) (w : World) (hs : s.size ≤ maxLen) (hm : MarksN All w ma m ms) (hml : m ≤ 1048576) (i0 : 0 ≤ i) (iq : i < q) (q1 : q ≤ 1048576) :
    Calls Tryd.prog 70 #[.agg #[.int .i64 o, .int .i64 n, .string s, .slice ma m mc], .int .i64 i, .int .i64 q] w (BoolP (HoldsV o n (q - i - 1) s ms) w) := by
  by_cases h1 : o = 1
  · subst h1; exact vplain1 n s ma m mc ms i q w hs hm hml i0 iq q1
  by_cases h2 : o = 2
  · subst h2; exact vplain2 n s ma m mc ms i q w hs hm hml i0 iq q1
  by_cases h10 : o = 10
  · subst h10; exact vplain10 n s ma m mc ms i q w hs hm hml i0 iq q1
  by_cases h9 : o = 9
  · subst h9; exact vplain9 n s ma m mc ms i q w hs hm hml i0 iq q1
  by_cases h11 : o = 11
  · subst h11; exact vplain11 n s ma m mc ms i q w hs hm hml i0 iq q1
  exact vplainX o h1 h2 h10 h9 h11 n s ma m mc ms i q w hs hm hml i0 iq q1
end Go.Proofs.YtembapomapcdfaaDoor
