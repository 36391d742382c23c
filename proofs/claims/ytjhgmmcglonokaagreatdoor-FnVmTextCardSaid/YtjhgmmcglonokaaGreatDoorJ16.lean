/-
  Whether a place of a program has just what it needs: the model's answer.
  How many parts are left: the model's answer.
  Whether two programs are alike, as the laws ask it.
-/
import Derived.Test.YtjhgmmcglonokaaGreatDoorJ15
import Derived.BigQuiet
import Derived.Deep.QuietTactic
namespace Go.Proofs.YtjhgmmcglonokaaGreatDoor
open Go.RowKit
set_option linter.unusedVariables false
set_option linter.unusedSimpArgs false

def HoldsV (o n k : Int) (s : ByteArray) (ms : List (Int × Int)) : Prop := if o = 9 ∨ o = 11 then (0 ≤ n ∧ n ≤ k) ∧ s.size = 0 ∧ ms.length = 0 else HoldsN o n s ms
instance (o n k : Int) (s : ByteArray) (ms : List (Int × Int)) : Decidable (HoldsV o n k s ms) := by unfold HoldsV; infer_instance
theorem in_iff (a n b : Int) : (decide (a ≤ n) && decide (n ≤ b)) = true ↔ a ≤ n ∧ n ≤ b := by simp
set_option maxRecDepth 20000 in
set_option maxHeartbeats 16000000 in
theorem vplain1 (n : Int) (s : ByteArray) (ma : Option Addr) (m mc : Nat) (ms : List (Int × Int)) (i q : Int) (w : World) (hs : s.size ≤ maxLen) (hm : MarksN All w ma m ms) (hml : m ≤ 1048576) (i0 : 0 ≤ i) (iq : i < q) (q1 : q ≤ 1048576) :
    Calls Tryz.prog 84 #[.agg #[.int .i64 1, .int .i64 n, .string s, .slice ma m mc], .int .i64 i, .int .i64 q] w (BoolP (HoldsV 1 n (q - i - 1) s ms) w) := by
  have hA : Below w.heap.size w (w.alloc (.cells #[.int .i64 1, .int .i64 n, .string s, .slice ma m mc] 48)) := (Below.refl _ _).alloc (Nat.le_refl _) _
  have HA := Lib.hid hA
  have HM := Lib.hid (hm.kept (same_of_below hA))
  have HMl : Hid (m = ms.length) := hm.1
  have HS := Lib.hid hs
  have w1 : IntKind.i64.wrap (q - i) = q - i := IntWalk.i64_in _ (by omega)
  have w2 : IntKind.i64.wrap (q - i - 1) = q - i - 1 := IntWalk.i64_in _ (by omega)
  clear hA hm
  have hI := Lib.hid (fun W => specInZ n (-1000000000) 1000000000 W)
  have hii := in_iff (-1000000000) n 1000000000
  generalize (decide ((-1000000000) ≤ n) && decide (n ≤ 1000000000)) = bi at hI hii
  have HII := Lib.hid hii
  clear hii
  cases hs0 : s.toList.isEmpty with
  | true =>
    have hsz := Lib.hid (str_empty hs0)
    cases hm0 : ((m : Int) == 0) with
    | true =>
      have hmp : Hid (m = 0) := by show m = 0; simp at hm0; omega
      cases bi with
      | true =>
        go_enter Tryz.func84, Tryz.ntmps84
        go_wp2_with fail
        refine (hI.out _).mono ?_
        rintro e w' ⟨rfl, rfl⟩
        go_wp2
        go_ret
        refine ⟨true, rfl, ?_, HA.out⟩
        have a1 := hsz.out; have a2 := hmp.out; have a3 := HMl.out
        show _ ↔ _
        unfold HoldsV
        have a5 := HII.out
        rw [if_neg (by decide)]
        unfold HoldsN
        rw [if_pos rfl]
        exact ⟨fun _ => ⟨a5.1 (by first | rfl | trivial), a1, by omega⟩, fun _ => rfl⟩
      | false =>
        go_enter Tryz.func84, Tryz.ntmps84
        go_wp2_with fail
        refine (hI.out _).mono ?_
        rintro e w' ⟨rfl, rfl⟩
        go_wp2
        go_ret
        refine ⟨false, rfl, ?_, HA.out⟩
        have a1 := hsz.out; have a2 := hmp.out; have a3 := HMl.out
        show _ ↔ _
        unfold HoldsV
        have a5 := HII.out
        rw [if_neg (by decide)]
        unfold HoldsN
        rw [if_pos rfl]
        exact ⟨fun h => (by cases h), fun h => absurd (a5.2 h.1) (by decide)⟩
    | false =>
      have hmp : Hid (m ≠ 0) := by show m ≠ 0; simp at hm0; omega
      cases bi with
      | true =>
        go_enter Tryz.func84, Tryz.ntmps84
        go_wp2_with fail
        refine (hI.out _).mono ?_
        rintro e w' ⟨rfl, rfl⟩
        go_wp2
        go_ret
        refine ⟨false, rfl, ?_, HA.out⟩
        have a1 := hsz.out; have a2 := hmp.out; have a3 := HMl.out
        show _ ↔ _
        unfold HoldsV
        have a5 := HII.out
        rw [if_neg (by decide)]
        unfold HoldsN
        rw [if_pos rfl]
        exact ⟨fun h => (by cases h), fun h => (by exfalso; omega)⟩
      | false =>
        go_enter Tryz.func84, Tryz.ntmps84
        go_wp2_with fail
        refine (hI.out _).mono ?_
        rintro e w' ⟨rfl, rfl⟩
        go_wp2
        go_ret
        refine ⟨false, rfl, ?_, HA.out⟩
        have a1 := hsz.out; have a2 := hmp.out; have a3 := HMl.out
        show _ ↔ _
        unfold HoldsV
        have a5 := HII.out
        rw [if_neg (by decide)]
        unfold HoldsN
        rw [if_pos rfl]
        exact ⟨fun h => (by cases h), fun h => absurd (a5.2 h.1) (by decide)⟩
  | false =>
    have hsz := Lib.hid (str_full hs0)
    cases hm0 : ((m : Int) == 0) with
    | true =>
      have hmp : Hid (m = 0) := by show m = 0; simp at hm0; omega
      cases bi with
      | true =>
        go_enter Tryz.func84, Tryz.ntmps84
        go_wp2_with fail
        refine (hI.out _).mono ?_
        rintro e w' ⟨rfl, rfl⟩
        go_wp2
        go_ret
        refine ⟨false, rfl, ?_, HA.out⟩
        have a1 := hsz.out; have a2 := hmp.out; have a3 := HMl.out
        show _ ↔ _
        unfold HoldsV
        have a5 := HII.out
        rw [if_neg (by decide)]
        unfold HoldsN
        rw [if_pos rfl]
        exact ⟨fun h => (by cases h), fun h => (by exfalso; omega)⟩
      | false =>
        go_enter Tryz.func84, Tryz.ntmps84
        go_wp2_with fail
        refine (hI.out _).mono ?_
        rintro e w' ⟨rfl, rfl⟩
        go_wp2
        go_ret
        refine ⟨false, rfl, ?_, HA.out⟩
        have a1 := hsz.out; have a2 := hmp.out; have a3 := HMl.out
        show _ ↔ _
        unfold HoldsV
        have a5 := HII.out
        rw [if_neg (by decide)]
        unfold HoldsN
        rw [if_pos rfl]
        exact ⟨fun h => (by cases h), fun h => absurd (a5.2 h.1) (by decide)⟩
    | false =>
      have hmp : Hid (m ≠ 0) := by show m ≠ 0; simp at hm0; omega
      cases bi with
      | true =>
        go_enter Tryz.func84, Tryz.ntmps84
        go_wp2_with fail
        refine (hI.out _).mono ?_
        rintro e w' ⟨rfl, rfl⟩
        go_wp2
        go_ret
        refine ⟨false, rfl, ?_, HA.out⟩
        have a1 := hsz.out; have a2 := hmp.out; have a3 := HMl.out
        show _ ↔ _
        unfold HoldsV
        have a5 := HII.out
        rw [if_neg (by decide)]
        unfold HoldsN
        rw [if_pos rfl]
        exact ⟨fun h => (by cases h), fun h => (by exfalso; omega)⟩
      | false =>
        go_enter Tryz.func84, Tryz.ntmps84
        go_wp2_with fail
        refine (hI.out _).mono ?_
        rintro e w' ⟨rfl, rfl⟩
        go_wp2
        go_ret
        refine ⟨false, rfl, ?_, HA.out⟩
        have a1 := hsz.out; have a2 := hmp.out; have a3 := HMl.out
        show _ ↔ _
        unfold HoldsV
        have a5 := HII.out
        rw [if_neg (by decide)]
        unfold HoldsN
        rw [if_pos rfl]
        exact ⟨fun h => (by cases h), fun h => absurd (a5.2 h.1) (by decide)⟩
set_option maxRecDepth 20000 in
set_option maxHeartbeats 16000000 in
theorem vplain2 (n : Int) (s : ByteArray) (ma : Option Addr) (m mc : Nat) (ms : List (Int × Int)) (i q : Int) (w : World) (hs : s.size ≤ maxLen) (hm : MarksN All w ma m ms) (hml : m ≤ 1048576) (i0 : 0 ≤ i) (iq : i < q) (q1 : q ≤ 1048576) :
    Calls Tryz.prog 84 #[.agg #[.int .i64 2, .int .i64 n, .string s, .slice ma m mc], .int .i64 i, .int .i64 q] w (BoolP (HoldsV 2 n (q - i - 1) s ms) w) := by
  have hA : Below w.heap.size w (w.alloc (.cells #[.int .i64 2, .int .i64 n, .string s, .slice ma m mc] 48)) := (Below.refl _ _).alloc (Nat.le_refl _) _
  have HA := Lib.hid hA
  have HM := Lib.hid (hm.kept (same_of_below hA))
  have HMl : Hid (m = ms.length) := hm.1
  have HS := Lib.hid hs
  have w1 : IntKind.i64.wrap (q - i) = q - i := IntWalk.i64_in _ (by omega)
  have w2 : IntKind.i64.wrap (q - i - 1) = q - i - 1 := IntWalk.i64_in _ (by omega)
  clear hA hm
  have hI := Lib.hid (fun W => specName s W HS.out)
  generalize hnb : nameB s.data.toList = nb at *
  have HNB := Lib.hid hnb
  clear hnb
  cases hs0 : s.toList.isEmpty with
  | true =>
    have hsz := Lib.hid (str_empty hs0)
    cases hm0 : ((m : Int) == 0) with
    | true =>
      have hmp : Hid (m = 0) := by show m = 0; simp at hm0; omega
      cases hn0 : (n == 0) with
      | true =>
        have hnz : Hid (n = 0) := by show n = 0; simpa using hn0
        cases nb with
        | true =>
          go_enter Tryz.func84, Tryz.ntmps84
          go_wp2_with fail
          refine (hI.out _).mono ?_
          rintro e w' ⟨rfl, rfl⟩
          go_wp2
          go_ret
          refine ⟨true, rfl, ?_, HA.out⟩
          have a1 := hsz.out; have a2 := hmp.out; have a3 := HMl.out; have a4 := hnz.out
          show _ ↔ _
          unfold HoldsV
          have a5 := HNB.out
          rw [if_neg (by decide)]
          unfold HoldsN
          rw [if_neg (by decide), if_pos rfl]
          rw [a5]
          exact ⟨fun _ => ⟨rfl, a4, by omega⟩, fun _ => rfl⟩
        | false =>
          go_enter Tryz.func84, Tryz.ntmps84
          go_wp2_with fail
          refine (hI.out _).mono ?_
          rintro e w' ⟨rfl, rfl⟩
          go_wp2
          go_ret
          refine ⟨false, rfl, ?_, HA.out⟩
          have a1 := hsz.out; have a2 := hmp.out; have a3 := HMl.out; have a4 := hnz.out
          show _ ↔ _
          unfold HoldsV
          have a5 := HNB.out
          rw [if_neg (by decide)]
          unfold HoldsN
          rw [if_neg (by decide), if_pos rfl]
          rw [a5]
          exact ⟨fun h => (by cases h), fun h => absurd h.1 (by decide)⟩
      | false =>
        have hnz : Hid (n ≠ 0) := by show n ≠ 0; simpa using hn0
        go_enter Tryz.func84, Tryz.ntmps84
        go_wp2
        go_ret
        refine ⟨false, rfl, ?_, HA.out⟩
        have a1 := hsz.out; have a2 := hmp.out; have a3 := HMl.out; have a4 := hnz.out
        show _ ↔ _
        unfold HoldsV
        rw [if_neg (by decide)]
        unfold HoldsN
        rw [if_neg (by decide), if_pos rfl]
        exact ⟨fun h => (by cases h), fun h => (by have := h.2.1; exfalso; omega)⟩
    | false =>
      have hmp : Hid (m ≠ 0) := by show m ≠ 0; simp at hm0; omega
      cases hn0 : (n == 0) with
      | true =>
        have hnz : Hid (n = 0) := by show n = 0; simpa using hn0
        cases nb with
        | true =>
          go_enter Tryz.func84, Tryz.ntmps84
          go_wp2_with fail
          refine (hI.out _).mono ?_
          rintro e w' ⟨rfl, rfl⟩
          go_wp2
          go_ret
          refine ⟨false, rfl, ?_, HA.out⟩
          have a1 := hsz.out; have a2 := hmp.out; have a3 := HMl.out; have a4 := hnz.out
          show _ ↔ _
          unfold HoldsV
          have a5 := HNB.out
          rw [if_neg (by decide)]
          unfold HoldsN
          rw [if_neg (by decide), if_pos rfl]
          rw [a5]
          exact ⟨fun h => (by cases h), fun h => (by have := h.2.2; exfalso; omega)⟩
        | false =>
          go_enter Tryz.func84, Tryz.ntmps84
          go_wp2_with fail
          refine (hI.out _).mono ?_
          rintro e w' ⟨rfl, rfl⟩
          go_wp2
          go_ret
          refine ⟨false, rfl, ?_, HA.out⟩
          have a1 := hsz.out; have a2 := hmp.out; have a3 := HMl.out; have a4 := hnz.out
          show _ ↔ _
          unfold HoldsV
          have a5 := HNB.out
          rw [if_neg (by decide)]
          unfold HoldsN
          rw [if_neg (by decide), if_pos rfl]
          rw [a5]
          exact ⟨fun h => (by cases h), fun h => absurd h.1 (by decide)⟩
      | false =>
        have hnz : Hid (n ≠ 0) := by show n ≠ 0; simpa using hn0
        go_enter Tryz.func84, Tryz.ntmps84
        go_wp2
        go_ret
        refine ⟨false, rfl, ?_, HA.out⟩
        have a1 := hsz.out; have a2 := hmp.out; have a3 := HMl.out; have a4 := hnz.out
        show _ ↔ _
        unfold HoldsV
        rw [if_neg (by decide)]
        unfold HoldsN
        rw [if_neg (by decide), if_pos rfl]
        exact ⟨fun h => (by cases h), fun h => (by have := h.2.1; exfalso; omega)⟩
  | false =>
    have hsz := Lib.hid (str_full hs0)
    cases hm0 : ((m : Int) == 0) with
    | true =>
      have hmp : Hid (m = 0) := by show m = 0; simp at hm0; omega
      cases hn0 : (n == 0) with
      | true =>
        have hnz : Hid (n = 0) := by show n = 0; simpa using hn0
        cases nb with
        | true =>
          go_enter Tryz.func84, Tryz.ntmps84
          go_wp2_with fail
          refine (hI.out _).mono ?_
          rintro e w' ⟨rfl, rfl⟩
          go_wp2
          go_ret
          refine ⟨true, rfl, ?_, HA.out⟩
          have a1 := hsz.out; have a2 := hmp.out; have a3 := HMl.out; have a4 := hnz.out
          show _ ↔ _
          unfold HoldsV
          have a5 := HNB.out
          rw [if_neg (by decide)]
          unfold HoldsN
          rw [if_neg (by decide), if_pos rfl]
          rw [a5]
          exact ⟨fun _ => ⟨rfl, a4, by omega⟩, fun _ => rfl⟩
        | false =>
          go_enter Tryz.func84, Tryz.ntmps84
          go_wp2_with fail
          refine (hI.out _).mono ?_
          rintro e w' ⟨rfl, rfl⟩
          go_wp2
          go_ret
          refine ⟨false, rfl, ?_, HA.out⟩
          have a1 := hsz.out; have a2 := hmp.out; have a3 := HMl.out; have a4 := hnz.out
          show _ ↔ _
          unfold HoldsV
          have a5 := HNB.out
          rw [if_neg (by decide)]
          unfold HoldsN
          rw [if_neg (by decide), if_pos rfl]
          rw [a5]
          exact ⟨fun h => (by cases h), fun h => absurd h.1 (by decide)⟩
      | false =>
        have hnz : Hid (n ≠ 0) := by show n ≠ 0; simpa using hn0
        go_enter Tryz.func84, Tryz.ntmps84
        go_wp2
        go_ret
        refine ⟨false, rfl, ?_, HA.out⟩
        have a1 := hsz.out; have a2 := hmp.out; have a3 := HMl.out; have a4 := hnz.out
        show _ ↔ _
        unfold HoldsV
        rw [if_neg (by decide)]
        unfold HoldsN
        rw [if_neg (by decide), if_pos rfl]
        exact ⟨fun h => (by cases h), fun h => (by have := h.2.1; exfalso; omega)⟩
    | false =>
      have hmp : Hid (m ≠ 0) := by show m ≠ 0; simp at hm0; omega
      cases hn0 : (n == 0) with
      | true =>
        have hnz : Hid (n = 0) := by show n = 0; simpa using hn0
        cases nb with
        | true =>
          go_enter Tryz.func84, Tryz.ntmps84
          go_wp2_with fail
          refine (hI.out _).mono ?_
          rintro e w' ⟨rfl, rfl⟩
          go_wp2
          go_ret
          refine ⟨false, rfl, ?_, HA.out⟩
          have a1 := hsz.out; have a2 := hmp.out; have a3 := HMl.out; have a4 := hnz.out
          show _ ↔ _
          unfold HoldsV
          have a5 := HNB.out
          rw [if_neg (by decide)]
          unfold HoldsN
          rw [if_neg (by decide), if_pos rfl]
          rw [a5]
          exact ⟨fun h => (by cases h), fun h => (by have := h.2.2; exfalso; omega)⟩
        | false =>
          go_enter Tryz.func84, Tryz.ntmps84
          go_wp2_with fail
          refine (hI.out _).mono ?_
          rintro e w' ⟨rfl, rfl⟩
          go_wp2
          go_ret
          refine ⟨false, rfl, ?_, HA.out⟩
          have a1 := hsz.out; have a2 := hmp.out; have a3 := HMl.out; have a4 := hnz.out
          show _ ↔ _
          unfold HoldsV
          have a5 := HNB.out
          rw [if_neg (by decide)]
          unfold HoldsN
          rw [if_neg (by decide), if_pos rfl]
          rw [a5]
          exact ⟨fun h => (by cases h), fun h => absurd h.1 (by decide)⟩
      | false =>
        have hnz : Hid (n ≠ 0) := by show n ≠ 0; simpa using hn0
        go_enter Tryz.func84, Tryz.ntmps84
        go_wp2
        go_ret
        refine ⟨false, rfl, ?_, HA.out⟩
        have a1 := hsz.out; have a2 := hmp.out; have a3 := HMl.out; have a4 := hnz.out
        show _ ↔ _
        unfold HoldsV
        rw [if_neg (by decide)]
        unfold HoldsN
        rw [if_neg (by decide), if_pos rfl]
        exact ⟨fun h => (by cases h), fun h => (by have := h.2.1; exfalso; omega)⟩
set_option maxRecDepth 20000 in
set_option maxHeartbeats 16000000 in
theorem vplain10 (n : Int) (s : ByteArray) (ma : Option Addr) (m mc : Nat) (ms : List (Int × Int)) (i q : Int) (w : World) (hs : s.size ≤ maxLen) (hm : MarksN All w ma m ms) (hml : m ≤ 1048576) (i0 : 0 ≤ i) (iq : i < q) (q1 : q ≤ 1048576) :
    Calls Tryz.prog 84 #[.agg #[.int .i64 10, .int .i64 n, .string s, .slice ma m mc], .int .i64 i, .int .i64 q] w (BoolP (HoldsV 10 n (q - i - 1) s ms) w) := by
  have hA : Below w.heap.size w (w.alloc (.cells #[.int .i64 10, .int .i64 n, .string s, .slice ma m mc] 48)) := (Below.refl _ _).alloc (Nat.le_refl _) _
  have HA := Lib.hid hA
  have HM := Lib.hid (hm.kept (same_of_below hA))
  have HMl : Hid (m = ms.length) := hm.1
  have HS := Lib.hid hs
  have w1 : IntKind.i64.wrap (q - i) = q - i := IntWalk.i64_in _ (by omega)
  have w2 : IntKind.i64.wrap (q - i - 1) = q - i - 1 := IntWalk.i64_in _ (by omega)
  clear hA hm
  cases hs0 : s.toList.isEmpty with
  | true =>
    have hsz := Lib.hid (str_empty hs0)
    cases hm0 : ((m : Int) == 0) with
    | true =>
      have hmp : Hid (m = 0) := by show m = 0; simp at hm0; omega
      cases hn0 : (n == 0) with
      | true =>
        have hnz : Hid (n = 0) := by show n = 0; simpa using hn0
        go_enter Tryz.func84, Tryz.ntmps84
        go_wp2_with fail
        refine (specMarksOk ma m mc (mF ms) (mP ms) _ (marks_of_N HM.out) hml).mono ?_
        rintro e w1 ⟨b, rfl, hb, d1⟩
        have Hb : Hid (b = true ↔ MOk (mF ms) (mP ms) m) := hb
        clear hb
        go_wp2
        go_ret
        refine ⟨b, rfl, ?_, HA.out.trans (d1.mono HA.out.size)⟩
        have a1 := hsz.out; have a2 := hmp.out; have a3 := HMl.out; have a4 := hnz.out
        have a5 := Hb.out
        rw [a3] at a5
        show _ ↔ _
        unfold HoldsV
        rw [if_neg (by decide)]
        unfold HoldsN
        rw [if_neg (by decide), if_neg (by decide), if_pos rfl]
        exact ⟨fun h => ⟨a4, a1, a5.1 h⟩, fun h => a5.2 h.2.2⟩
      | false =>
        have hnz : Hid (n ≠ 0) := by show n ≠ 0; simpa using hn0
        go_enter Tryz.func84, Tryz.ntmps84
        go_wp2
        go_ret
        refine ⟨false, rfl, ?_, HA.out⟩
        have a1 := hsz.out; have a2 := hmp.out; have a3 := HMl.out; have a4 := hnz.out
        show _ ↔ _
        unfold HoldsV
        rw [if_neg (by decide)]
        unfold HoldsN
        rw [if_neg (by decide), if_neg (by decide), if_pos rfl]
        exact ⟨fun h => (by cases h), fun h => (by have := h.1; have := h.2.1; exfalso; omega)⟩
    | false =>
      have hmp : Hid (m ≠ 0) := by show m ≠ 0; simp at hm0; omega
      cases hn0 : (n == 0) with
      | true =>
        have hnz : Hid (n = 0) := by show n = 0; simpa using hn0
        go_enter Tryz.func84, Tryz.ntmps84
        go_wp2_with fail
        refine (specMarksOk ma m mc (mF ms) (mP ms) _ (marks_of_N HM.out) hml).mono ?_
        rintro e w1 ⟨b, rfl, hb, d1⟩
        have Hb : Hid (b = true ↔ MOk (mF ms) (mP ms) m) := hb
        clear hb
        go_wp2
        go_ret
        refine ⟨b, rfl, ?_, HA.out.trans (d1.mono HA.out.size)⟩
        have a1 := hsz.out; have a2 := hmp.out; have a3 := HMl.out; have a4 := hnz.out
        have a5 := Hb.out
        rw [a3] at a5
        show _ ↔ _
        unfold HoldsV
        rw [if_neg (by decide)]
        unfold HoldsN
        rw [if_neg (by decide), if_neg (by decide), if_pos rfl]
        exact ⟨fun h => ⟨a4, a1, a5.1 h⟩, fun h => a5.2 h.2.2⟩
      | false =>
        have hnz : Hid (n ≠ 0) := by show n ≠ 0; simpa using hn0
        go_enter Tryz.func84, Tryz.ntmps84
        go_wp2
        go_ret
        refine ⟨false, rfl, ?_, HA.out⟩
        have a1 := hsz.out; have a2 := hmp.out; have a3 := HMl.out; have a4 := hnz.out
        show _ ↔ _
        unfold HoldsV
        rw [if_neg (by decide)]
        unfold HoldsN
        rw [if_neg (by decide), if_neg (by decide), if_pos rfl]
        exact ⟨fun h => (by cases h), fun h => (by have := h.1; have := h.2.1; exfalso; omega)⟩
  | false =>
    have hsz := Lib.hid (str_full hs0)
    cases hm0 : ((m : Int) == 0) with
    | true =>
      have hmp : Hid (m = 0) := by show m = 0; simp at hm0; omega
      cases hn0 : (n == 0) with
      | true =>
        have hnz : Hid (n = 0) := by show n = 0; simpa using hn0
        go_enter Tryz.func84, Tryz.ntmps84
        go_wp2
        go_ret
        refine ⟨false, rfl, ?_, HA.out⟩
        have a1 := hsz.out; have a2 := hmp.out; have a3 := HMl.out; have a4 := hnz.out
        show _ ↔ _
        unfold HoldsV
        rw [if_neg (by decide)]
        unfold HoldsN
        rw [if_neg (by decide), if_neg (by decide), if_pos rfl]
        exact ⟨fun h => (by cases h), fun h => (by have := h.1; have := h.2.1; exfalso; omega)⟩
      | false =>
        have hnz : Hid (n ≠ 0) := by show n ≠ 0; simpa using hn0
        go_enter Tryz.func84, Tryz.ntmps84
        go_wp2
        go_ret
        refine ⟨false, rfl, ?_, HA.out⟩
        have a1 := hsz.out; have a2 := hmp.out; have a3 := HMl.out; have a4 := hnz.out
        show _ ↔ _
        unfold HoldsV
        rw [if_neg (by decide)]
        unfold HoldsN
        rw [if_neg (by decide), if_neg (by decide), if_pos rfl]
        exact ⟨fun h => (by cases h), fun h => (by have := h.1; have := h.2.1; exfalso; omega)⟩
    | false =>
      have hmp : Hid (m ≠ 0) := by show m ≠ 0; simp at hm0; omega
      cases hn0 : (n == 0) with
      | true =>
        have hnz : Hid (n = 0) := by show n = 0; simpa using hn0
        go_enter Tryz.func84, Tryz.ntmps84
        go_wp2
        go_ret
        refine ⟨false, rfl, ?_, HA.out⟩
        have a1 := hsz.out; have a2 := hmp.out; have a3 := HMl.out; have a4 := hnz.out
        show _ ↔ _
        unfold HoldsV
        rw [if_neg (by decide)]
        unfold HoldsN
        rw [if_neg (by decide), if_neg (by decide), if_pos rfl]
        exact ⟨fun h => (by cases h), fun h => (by have := h.1; have := h.2.1; exfalso; omega)⟩
      | false =>
        have hnz : Hid (n ≠ 0) := by show n ≠ 0; simpa using hn0
        go_enter Tryz.func84, Tryz.ntmps84
        go_wp2
        go_ret
        refine ⟨false, rfl, ?_, HA.out⟩
        have a1 := hsz.out; have a2 := hmp.out; have a3 := HMl.out; have a4 := hnz.out
        show _ ↔ _
        unfold HoldsV
        rw [if_neg (by decide)]
        unfold HoldsN
        rw [if_neg (by decide), if_neg (by decide), if_pos rfl]
        exact ⟨fun h => (by cases h), fun h => (by have := h.1; have := h.2.1; exfalso; omega)⟩
set_option maxRecDepth 20000 in
set_option maxHeartbeats 16000000 in
theorem vplain9 (n : Int) (s : ByteArray) (ma : Option Addr) (m mc : Nat) (ms : List (Int × Int)) (i q : Int) (w : World) (hs : s.size ≤ maxLen) (hm : MarksN All w ma m ms) (hml : m ≤ 1048576) (i0 : 0 ≤ i) (iq : i < q) (q1 : q ≤ 1048576) :
    Calls Tryz.prog 84 #[.agg #[.int .i64 9, .int .i64 n, .string s, .slice ma m mc], .int .i64 i, .int .i64 q] w (BoolP (HoldsV 9 n (q - i - 1) s ms) w) := by
  have hA : Below w.heap.size w (w.alloc (.cells #[.int .i64 9, .int .i64 n, .string s, .slice ma m mc] 48)) := (Below.refl _ _).alloc (Nat.le_refl _) _
  have HA := Lib.hid hA
  have HM := Lib.hid (hm.kept (same_of_below hA))
  have HMl : Hid (m = ms.length) := hm.1
  have HS := Lib.hid hs
  have w1 : IntKind.i64.wrap (q - i) = q - i := IntWalk.i64_in _ (by omega)
  have w2 : IntKind.i64.wrap (q - i - 1) = q - i - 1 := IntWalk.i64_in _ (by omega)
  clear hA hm
  have hI := Lib.hid (fun W => specInZ n 0 (q - i - 1) W)
  have hii := in_iff 0 n (q - i - 1)
  generalize (decide (0 ≤ n) && decide (n ≤ (q - i - 1))) = bi at hI hii
  have HII := Lib.hid hii
  clear hii
  cases hs0 : s.toList.isEmpty with
  | true =>
    have hsz := Lib.hid (str_empty hs0)
    cases hm0 : ((m : Int) == 0) with
    | true =>
      have hmp : Hid (m = 0) := by show m = 0; simp at hm0; omega
      cases bi with
      | true =>
        go_enter Tryz.func84, Tryz.ntmps84
        go_wp2_with fail
        refine (hI.out _).mono ?_
        rintro e w' ⟨rfl, rfl⟩
        go_wp2
        go_ret
        refine ⟨true, rfl, ?_, HA.out⟩
        have a1 := hsz.out; have a2 := hmp.out; have a3 := HMl.out
        show _ ↔ _
        unfold HoldsV
        have a5 := HII.out
        rw [if_pos (by decide)]
        exact ⟨fun _ => ⟨a5.1 (by first | rfl | trivial), a1, by omega⟩, fun _ => rfl⟩
      | false =>
        go_enter Tryz.func84, Tryz.ntmps84
        go_wp2_with fail
        refine (hI.out _).mono ?_
        rintro e w' ⟨rfl, rfl⟩
        go_wp2
        go_ret
        refine ⟨false, rfl, ?_, HA.out⟩
        have a1 := hsz.out; have a2 := hmp.out; have a3 := HMl.out
        show _ ↔ _
        unfold HoldsV
        have a5 := HII.out
        rw [if_pos (by decide)]
        exact ⟨fun h => (by cases h), fun h => absurd (a5.2 h.1) (by decide)⟩
    | false =>
      have hmp : Hid (m ≠ 0) := by show m ≠ 0; simp at hm0; omega
      cases bi with
      | true =>
        go_enter Tryz.func84, Tryz.ntmps84
        go_wp2_with fail
        refine (hI.out _).mono ?_
        rintro e w' ⟨rfl, rfl⟩
        go_wp2
        go_ret
        refine ⟨false, rfl, ?_, HA.out⟩
        have a1 := hsz.out; have a2 := hmp.out; have a3 := HMl.out
        show _ ↔ _
        unfold HoldsV
        have a5 := HII.out
        rw [if_pos (by decide)]
        exact ⟨fun h => (by cases h), fun h => (by exfalso; omega)⟩
      | false =>
        go_enter Tryz.func84, Tryz.ntmps84
        go_wp2_with fail
        refine (hI.out _).mono ?_
        rintro e w' ⟨rfl, rfl⟩
        go_wp2
        go_ret
        refine ⟨false, rfl, ?_, HA.out⟩
        have a1 := hsz.out; have a2 := hmp.out; have a3 := HMl.out
        show _ ↔ _
        unfold HoldsV
        have a5 := HII.out
        rw [if_pos (by decide)]
        exact ⟨fun h => (by cases h), fun h => absurd (a5.2 h.1) (by decide)⟩
  | false =>
    have hsz := Lib.hid (str_full hs0)
    cases hm0 : ((m : Int) == 0) with
    | true =>
      have hmp : Hid (m = 0) := by show m = 0; simp at hm0; omega
      cases bi with
      | true =>
        go_enter Tryz.func84, Tryz.ntmps84
        go_wp2_with fail
        refine (hI.out _).mono ?_
        rintro e w' ⟨rfl, rfl⟩
        go_wp2
        go_ret
        refine ⟨false, rfl, ?_, HA.out⟩
        have a1 := hsz.out; have a2 := hmp.out; have a3 := HMl.out
        show _ ↔ _
        unfold HoldsV
        have a5 := HII.out
        rw [if_pos (by decide)]
        exact ⟨fun h => (by cases h), fun h => (by exfalso; omega)⟩
      | false =>
        go_enter Tryz.func84, Tryz.ntmps84
        go_wp2_with fail
        refine (hI.out _).mono ?_
        rintro e w' ⟨rfl, rfl⟩
        go_wp2
        go_ret
        refine ⟨false, rfl, ?_, HA.out⟩
        have a1 := hsz.out; have a2 := hmp.out; have a3 := HMl.out
        show _ ↔ _
        unfold HoldsV
        have a5 := HII.out
        rw [if_pos (by decide)]
        exact ⟨fun h => (by cases h), fun h => absurd (a5.2 h.1) (by decide)⟩
    | false =>
      have hmp : Hid (m ≠ 0) := by show m ≠ 0; simp at hm0; omega
      cases bi with
      | true =>
        go_enter Tryz.func84, Tryz.ntmps84
        go_wp2_with fail
        refine (hI.out _).mono ?_
        rintro e w' ⟨rfl, rfl⟩
        go_wp2
        go_ret
        refine ⟨false, rfl, ?_, HA.out⟩
        have a1 := hsz.out; have a2 := hmp.out; have a3 := HMl.out
        show _ ↔ _
        unfold HoldsV
        have a5 := HII.out
        rw [if_pos (by decide)]
        exact ⟨fun h => (by cases h), fun h => (by exfalso; omega)⟩
      | false =>
        go_enter Tryz.func84, Tryz.ntmps84
        go_wp2_with fail
        refine (hI.out _).mono ?_
        rintro e w' ⟨rfl, rfl⟩
        go_wp2
        go_ret
        refine ⟨false, rfl, ?_, HA.out⟩
        have a1 := hsz.out; have a2 := hmp.out; have a3 := HMl.out
        show _ ↔ _
        unfold HoldsV
        have a5 := HII.out
        rw [if_pos (by decide)]
        exact ⟨fun h => (by cases h), fun h => absurd (a5.2 h.1) (by decide)⟩
set_option maxRecDepth 20000 in
set_option maxHeartbeats 16000000 in
theorem vplain11 (n : Int) (s : ByteArray) (ma : Option Addr) (m mc : Nat) (ms : List (Int × Int)) (i q : Int) (w : World) (hs : s.size ≤ maxLen) (hm : MarksN All w ma m ms) (hml : m ≤ 1048576) (i0 : 0 ≤ i) (iq : i < q) (q1 : q ≤ 1048576) :
    Calls Tryz.prog 84 #[.agg #[.int .i64 11, .int .i64 n, .string s, .slice ma m mc], .int .i64 i, .int .i64 q] w (BoolP (HoldsV 11 n (q - i - 1) s ms) w) := by
  have hA : Below w.heap.size w (w.alloc (.cells #[.int .i64 11, .int .i64 n, .string s, .slice ma m mc] 48)) := (Below.refl _ _).alloc (Nat.le_refl _) _
  have HA := Lib.hid hA
  have HM := Lib.hid (hm.kept (same_of_below hA))
  have HMl : Hid (m = ms.length) := hm.1
  have HS := Lib.hid hs
  have w1 : IntKind.i64.wrap (q - i) = q - i := IntWalk.i64_in _ (by omega)
  have w2 : IntKind.i64.wrap (q - i - 1) = q - i - 1 := IntWalk.i64_in _ (by omega)
  clear hA hm
  have hI := Lib.hid (fun W => specInZ n 0 (q - i - 1) W)
  have hii := in_iff 0 n (q - i - 1)
  generalize (decide (0 ≤ n) && decide (n ≤ (q - i - 1))) = bi at hI hii
  have HII := Lib.hid hii
  clear hii
  cases hs0 : s.toList.isEmpty with
  | true =>
    have hsz := Lib.hid (str_empty hs0)
    cases hm0 : ((m : Int) == 0) with
    | true =>
      have hmp : Hid (m = 0) := by show m = 0; simp at hm0; omega
      cases bi with
      | true =>
        go_enter Tryz.func84, Tryz.ntmps84
        go_wp2_with fail
        refine (hI.out _).mono ?_
        rintro e w' ⟨rfl, rfl⟩
        go_wp2
        go_ret
        refine ⟨true, rfl, ?_, HA.out⟩
        have a1 := hsz.out; have a2 := hmp.out; have a3 := HMl.out
        show _ ↔ _
        unfold HoldsV
        have a5 := HII.out
        rw [if_pos (by decide)]
        exact ⟨fun _ => ⟨a5.1 (by first | rfl | trivial), a1, by omega⟩, fun _ => rfl⟩
      | false =>
        go_enter Tryz.func84, Tryz.ntmps84
        go_wp2_with fail
        refine (hI.out _).mono ?_
        rintro e w' ⟨rfl, rfl⟩
        go_wp2
        go_ret
        refine ⟨false, rfl, ?_, HA.out⟩
        have a1 := hsz.out; have a2 := hmp.out; have a3 := HMl.out
        show _ ↔ _
        unfold HoldsV
        have a5 := HII.out
        rw [if_pos (by decide)]
        exact ⟨fun h => (by cases h), fun h => absurd (a5.2 h.1) (by decide)⟩
    | false =>
      have hmp : Hid (m ≠ 0) := by show m ≠ 0; simp at hm0; omega
      cases bi with
      | true =>
        go_enter Tryz.func84, Tryz.ntmps84
        go_wp2_with fail
        refine (hI.out _).mono ?_
        rintro e w' ⟨rfl, rfl⟩
        go_wp2
        go_ret
        refine ⟨false, rfl, ?_, HA.out⟩
        have a1 := hsz.out; have a2 := hmp.out; have a3 := HMl.out
        show _ ↔ _
        unfold HoldsV
        have a5 := HII.out
        rw [if_pos (by decide)]
        exact ⟨fun h => (by cases h), fun h => (by exfalso; omega)⟩
      | false =>
        go_enter Tryz.func84, Tryz.ntmps84
        go_wp2_with fail
        refine (hI.out _).mono ?_
        rintro e w' ⟨rfl, rfl⟩
        go_wp2
        go_ret
        refine ⟨false, rfl, ?_, HA.out⟩
        have a1 := hsz.out; have a2 := hmp.out; have a3 := HMl.out
        show _ ↔ _
        unfold HoldsV
        have a5 := HII.out
        rw [if_pos (by decide)]
        exact ⟨fun h => (by cases h), fun h => absurd (a5.2 h.1) (by decide)⟩
  | false =>
    have hsz := Lib.hid (str_full hs0)
    cases hm0 : ((m : Int) == 0) with
    | true =>
      have hmp : Hid (m = 0) := by show m = 0; simp at hm0; omega
      cases bi with
      | true =>
        go_enter Tryz.func84, Tryz.ntmps84
        go_wp2_with fail
        refine (hI.out _).mono ?_
        rintro e w' ⟨rfl, rfl⟩
        go_wp2
        go_ret
        refine ⟨false, rfl, ?_, HA.out⟩
        have a1 := hsz.out; have a2 := hmp.out; have a3 := HMl.out
        show _ ↔ _
        unfold HoldsV
        have a5 := HII.out
        rw [if_pos (by decide)]
        exact ⟨fun h => (by cases h), fun h => (by exfalso; omega)⟩
      | false =>
        go_enter Tryz.func84, Tryz.ntmps84
        go_wp2_with fail
        refine (hI.out _).mono ?_
        rintro e w' ⟨rfl, rfl⟩
        go_wp2
        go_ret
        refine ⟨false, rfl, ?_, HA.out⟩
        have a1 := hsz.out; have a2 := hmp.out; have a3 := HMl.out
        show _ ↔ _
        unfold HoldsV
        have a5 := HII.out
        rw [if_pos (by decide)]
        exact ⟨fun h => (by cases h), fun h => absurd (a5.2 h.1) (by decide)⟩
    | false =>
      have hmp : Hid (m ≠ 0) := by show m ≠ 0; simp at hm0; omega
      cases bi with
      | true =>
        go_enter Tryz.func84, Tryz.ntmps84
        go_wp2_with fail
        refine (hI.out _).mono ?_
        rintro e w' ⟨rfl, rfl⟩
        go_wp2
        go_ret
        refine ⟨false, rfl, ?_, HA.out⟩
        have a1 := hsz.out; have a2 := hmp.out; have a3 := HMl.out
        show _ ↔ _
        unfold HoldsV
        have a5 := HII.out
        rw [if_pos (by decide)]
        exact ⟨fun h => (by cases h), fun h => (by exfalso; omega)⟩
      | false =>
        go_enter Tryz.func84, Tryz.ntmps84
        go_wp2_with fail
        refine (hI.out _).mono ?_
        rintro e w' ⟨rfl, rfl⟩
        go_wp2
        go_ret
        refine ⟨false, rfl, ?_, HA.out⟩
        have a1 := hsz.out; have a2 := hmp.out; have a3 := HMl.out
        show _ ↔ _
        unfold HoldsV
        have a5 := HII.out
        rw [if_pos (by decide)]
        exact ⟨fun h => (by cases h), fun h => absurd (a5.2 h.1) (by decide)⟩
set_option maxRecDepth 20000 in
set_option maxHeartbeats 16000000 in
theorem vplainX (o : Int) (h1 : o ≠ 1) (h2 : o ≠ 2) (h10 : o ≠ 10) (h9 : o ≠ 9) (h11 : o ≠ 11) (n : Int) (s : ByteArray) (ma : Option Addr) (m mc : Nat) (ms : List (Int × Int)) (i q : Int) (w : World) (hs : s.size ≤ maxLen) (hm : MarksN All w ma m ms) (hml : m ≤ 1048576) (i0 : 0 ≤ i) (iq : i < q) (q1 : q ≤ 1048576) :
    Calls Tryz.prog 84 #[.agg #[.int .i64 o, .int .i64 n, .string s, .slice ma m mc], .int .i64 i, .int .i64 q] w (BoolP (HoldsV o n (q - i - 1) s ms) w) := by
  have hA : Below w.heap.size w (w.alloc (.cells #[.int .i64 o, .int .i64 n, .string s, .slice ma m mc] 48)) := (Below.refl _ _).alloc (Nat.le_refl _) _
  have HA := Lib.hid hA
  have HM := Lib.hid (hm.kept (same_of_below hA))
  have HMl : Hid (m = ms.length) := hm.1
  have HS := Lib.hid hs
  have w1 : IntKind.i64.wrap (q - i) = q - i := IntWalk.i64_in _ (by omega)
  have w2 : IntKind.i64.wrap (q - i - 1) = q - i - 1 := IntWalk.i64_in _ (by omega)
  clear hA hm
  have b1 : (o == 1) = false := by simpa using h1
  have b2 : (o == 2) = false := by simpa using h2
  have b3 : (o == 10) = false := by simpa using h10
  have b4 : (o == 9) = false := by simpa using h9
  have b5 : (o == 11) = false := by simpa using h11
  have HO : Hid (o ≠ 1 ∧ o ≠ 2 ∧ o ≠ 10 ∧ ¬ (o = 9 ∨ o = 11)) := ⟨h1, h2, h10, by omega⟩
  clear h1 h2 h10 h9 h11
  cases hs0 : s.toList.isEmpty with
  | true =>
    have hsz := Lib.hid (str_empty hs0)
    cases hm0 : ((m : Int) == 0) with
    | true =>
      have hmp : Hid (m = 0) := by show m = 0; simp at hm0; omega
      cases hn0 : (n == 0) with
      | true =>
        have hnz : Hid (n = 0) := by show n = 0; simpa using hn0
        go_enter Tryz.func84, Tryz.ntmps84
        go_wp2
        go_ret
        refine ⟨true, rfl, ?_, HA.out⟩
        have a1 := hsz.out; have a2 := hmp.out; have a3 := HMl.out; have a4 := hnz.out
        show _ ↔ _
        unfold HoldsV
        rw [if_neg HO.out.2.2.2]
        unfold HoldsN
        rw [if_neg HO.out.1, if_neg HO.out.2.1, if_neg HO.out.2.2.1]
        exact ⟨fun _ => ⟨a4, a1, by omega⟩, fun _ => rfl⟩
      | false =>
        have hnz : Hid (n ≠ 0) := by show n ≠ 0; simpa using hn0
        go_enter Tryz.func84, Tryz.ntmps84
        go_wp2
        go_ret
        refine ⟨false, rfl, ?_, HA.out⟩
        have a1 := hsz.out; have a2 := hmp.out; have a3 := HMl.out; have a4 := hnz.out
        show _ ↔ _
        unfold HoldsV
        rw [if_neg HO.out.2.2.2]
        unfold HoldsN
        rw [if_neg HO.out.1, if_neg HO.out.2.1, if_neg HO.out.2.2.1]
        exact ⟨fun h => (by cases h), fun h => (by exfalso; omega)⟩
    | false =>
      have hmp : Hid (m ≠ 0) := by show m ≠ 0; simp at hm0; omega
      cases hn0 : (n == 0) with
      | true =>
        have hnz : Hid (n = 0) := by show n = 0; simpa using hn0
        go_enter Tryz.func84, Tryz.ntmps84
        go_wp2
        go_ret
        refine ⟨false, rfl, ?_, HA.out⟩
        have a1 := hsz.out; have a2 := hmp.out; have a3 := HMl.out; have a4 := hnz.out
        show _ ↔ _
        unfold HoldsV
        rw [if_neg HO.out.2.2.2]
        unfold HoldsN
        rw [if_neg HO.out.1, if_neg HO.out.2.1, if_neg HO.out.2.2.1]
        exact ⟨fun h => (by cases h), fun h => (by exfalso; omega)⟩
      | false =>
        have hnz : Hid (n ≠ 0) := by show n ≠ 0; simpa using hn0
        go_enter Tryz.func84, Tryz.ntmps84
        go_wp2
        go_ret
        refine ⟨false, rfl, ?_, HA.out⟩
        have a1 := hsz.out; have a2 := hmp.out; have a3 := HMl.out; have a4 := hnz.out
        show _ ↔ _
        unfold HoldsV
        rw [if_neg HO.out.2.2.2]
        unfold HoldsN
        rw [if_neg HO.out.1, if_neg HO.out.2.1, if_neg HO.out.2.2.1]
        exact ⟨fun h => (by cases h), fun h => (by exfalso; omega)⟩
  | false =>
    have hsz := Lib.hid (str_full hs0)
    cases hm0 : ((m : Int) == 0) with
    | true =>
      have hmp : Hid (m = 0) := by show m = 0; simp at hm0; omega
      cases hn0 : (n == 0) with
      | true =>
        have hnz : Hid (n = 0) := by show n = 0; simpa using hn0
        go_enter Tryz.func84, Tryz.ntmps84
        go_wp2
        go_ret
        refine ⟨false, rfl, ?_, HA.out⟩
        have a1 := hsz.out; have a2 := hmp.out; have a3 := HMl.out; have a4 := hnz.out
        show _ ↔ _
        unfold HoldsV
        rw [if_neg HO.out.2.2.2]
        unfold HoldsN
        rw [if_neg HO.out.1, if_neg HO.out.2.1, if_neg HO.out.2.2.1]
        exact ⟨fun h => (by cases h), fun h => (by exfalso; omega)⟩
      | false =>
        have hnz : Hid (n ≠ 0) := by show n ≠ 0; simpa using hn0
        go_enter Tryz.func84, Tryz.ntmps84
        go_wp2
        go_ret
        refine ⟨false, rfl, ?_, HA.out⟩
        have a1 := hsz.out; have a2 := hmp.out; have a3 := HMl.out; have a4 := hnz.out
        show _ ↔ _
        unfold HoldsV
        rw [if_neg HO.out.2.2.2]
        unfold HoldsN
        rw [if_neg HO.out.1, if_neg HO.out.2.1, if_neg HO.out.2.2.1]
        exact ⟨fun h => (by cases h), fun h => (by exfalso; omega)⟩
    | false =>
      have hmp : Hid (m ≠ 0) := by show m ≠ 0; simp at hm0; omega
      cases hn0 : (n == 0) with
      | true =>
        have hnz : Hid (n = 0) := by show n = 0; simpa using hn0
        go_enter Tryz.func84, Tryz.ntmps84
        go_wp2
        go_ret
        refine ⟨false, rfl, ?_, HA.out⟩
        have a1 := hsz.out; have a2 := hmp.out; have a3 := HMl.out; have a4 := hnz.out
        show _ ↔ _
        unfold HoldsV
        rw [if_neg HO.out.2.2.2]
        unfold HoldsN
        rw [if_neg HO.out.1, if_neg HO.out.2.1, if_neg HO.out.2.2.1]
        exact ⟨fun h => (by cases h), fun h => (by exfalso; omega)⟩
      | false =>
        have hnz : Hid (n ≠ 0) := by show n ≠ 0; simpa using hn0
        go_enter Tryz.func84, Tryz.ntmps84
        go_wp2
        go_ret
        refine ⟨false, rfl, ?_, HA.out⟩
        have a1 := hsz.out; have a2 := hmp.out; have a3 := HMl.out; have a4 := hnz.out
        show _ ↔ _
        unfold HoldsV
        rw [if_neg HO.out.2.2.2]
        unfold HoldsN
        rw [if_neg HO.out.1, if_neg HO.out.2.1, if_neg HO.out.2.2.1]
        exact ⟨fun h => (by cases h), fun h => (by exfalso; omega)⟩
theorem specVPlain (o n : Int) (s : ByteArray) (ma : Option Addr) (m mc : Nat) (ms : List (Int × Int)) (i q : Int) (w : World) (hs : s.size ≤ maxLen) (hm : MarksN All w ma m ms) (hml : m ≤ 1048576) (i0 : 0 ≤ i) (iq : i < q) (q1 : q ≤ 1048576) :
    Calls Tryz.prog 84 #[.agg #[.int .i64 o, .int .i64 n, .string s, .slice ma m mc], .int .i64 i, .int .i64 q] w (BoolP (HoldsV o n (q - i - 1) s ms) w) := by
  by_cases h1 : o = 1
  · subst h1; exact vplain1 n s ma m mc ms i q w hs hm hml i0 iq q1
  by_cases h2 : o = 2
  · subst h2; exact vplain2 n s ma m mc ms i q w hs hm hml i0 iq q1
  by_cases h10 : o = 10
  · subst h10; exact vplain10 n s ma m mc ms i q w hs hm hml i0 iq q1
  by_cases h9 : o = 9
  · subst h9; exact vplain9 n s ma m mc ms i q w hs hm hml i0 iq q1
  by_cases h11 : o = 11
  · subst h11; exact vplain11 n s ma m mc ms i q w hs hm hml i0 iq q1
  exact vplainX o h1 h2 h10 h9 h11 n s ma m mc ms i q w hs hm hml i0 iq q1
end Go.Proofs.YtjhgmmcglonokaaGreatDoor

namespace Go.Proofs.YtjhgmmcglonokaaGreatDoor
open Go.RowKit
set_option linter.unusedVariables false
set_option linter.unusedSimpArgs false

def PartsAt (t : Tr) : Prop := ∀ (f : Fld) (d : Nat) (l : Int) (w : World), TrF All w t f → 0 ≤ l → l ≤ 30 → d ≤ 100 → Calls Tryz.prog 66 #[f.val, .int .i64 (d : Int), .int .i64 l] w fun e w' => e = .returned (.int .i64 (partsT t d l)) ∧ Below w.heap.size w w'
set_option maxHeartbeats 8000000 in
theorem partsN (o n : Int) (s : ByteArray) (ks : List Tr) (ms : List (Int × Int)) (ih : ∀ t ∈ ks, PartsAt t) (hs : szT (.node o n s ks ms) ≤ 1048576) : PartsAt (.node o n s ks ms) := by
  intro f d l w h l0 l1 hd
  obtain ⟨e1, e2, e3, hm, hk, hc1, hc2⟩ := trF_iff.1 h
  obtain ⟨fo, fn, fs, ka, kl, kc, ma, ml, mc⟩ := f
  dsimp only at e1 e2 e3 hm hk hc1 hc2
  have q1 := e1.symm
  have q2 := e2.symm
  have q3 := e3.symm
  clear e1 e2 e3
  subst q1 q2 q3
  obtain rfl := hk.1
  obtain rfl := hm.1
  rw [szT] at hs
  have hz1 : s.size ≤ maxLen := by unfold maxLen; omega
  have hz2 : ks.length ≤ 1048576 := by omega
  have hz3 : ms.length ≤ 1048576 := by omega
  have HK := Lib.hid hk
  have HM := Lib.hid hm
  have IH := Lib.hid ih
  have HZ1 := Lib.hid hz1
  clear h hk hm ih hs hz1 hc1 hc2
  unfold Fld.val
  dsimp only
  have hP : partsT (.node o n s ks ms) d l = if l - 1 < 0 ∨ 6 < d ∨ ¬ PlainN o n s ks.length ms then -1 else partsL ks (d + 1) (l - 1) := by rw [partsT]
  have HP := Lib.hid hP
  clear hP
  have e0 : IntKind.i64.wrap (l - 1) = l - 1 := IntWalk.i64_in _ (by omega)
  have e9 : IntKind.i64.wrap ((d : Int) + 1) = (d : Int) + 1 := IntWalk.i64_in _ (by omega)
  have hA : Below w.heap.size w (w.alloc (.cells #[.int .i64 o, .int .i64 n, .string s, .slice ka ks.length kc, .slice ma ms.length mc] 37)) := (Below.refl _ _).alloc (Nat.le_refl _) _
  have hArg : (w.alloc (.cells #[.int .i64 o, .int .i64 n, .string s, .slice ka ks.length kc, .slice ma ms.length mc] 37)).heap[w.heap.size]? = some (.cells #[.int .i64 o, .int .i64 n, .string s, .slice ka ks.length kc, .slice ma ms.length mc] 37 (0, 0)) := heap_alloc_new w _
  have hAz : (w.alloc (.cells #[.int .i64 o, .int .i64 n, .string s, .slice ka ks.length kc, .slice ma ms.length mc] 37)).heap.size = w.heap.size + 1 := by simp
  rcases Int.lt_or_le (l - 1) 0 with c0 | c0
  · have z0 : decide (l - 1 < 0) = true := decide_eq_true c0
    have HA := Lib.hid hA
    clear hA hArg hAz
    go_enter Tryz.func66, Tryz.ntmps66
    go_wp2
    go_ret
    exact ⟨by show Ending.returned (.int .i64 (-1)) = _; rw [HP.out, if_pos (Or.inl c0)], HA.out⟩
  have z0 : decide (l - 1 < 0) = false := decide_eq_false (by omega)
  rcases Nat.lt_or_ge 6 d with c1 | c1
  · have z1 : decide ((6 : Int) < (d : Int)) = true := decide_eq_true (by omega)
    have z1' : decide (6 < d) = true := decide_eq_true c1
    have HA := Lib.hid hA
    clear hA hArg hAz
    go_enter Tryz.func66, Tryz.ntmps66
    go_wp2
    go_ret
    exact ⟨by show Ending.returned (.int .i64 (-1)) = _; rw [HP.out, if_pos (Or.inr (Or.inl c1))], HA.out⟩
  have z1 : decide ((6 : Int) < (d : Int)) = false := decide_eq_false (by omega)
  have z1' : decide (6 < d) = false := decide_eq_false (by omega)
  have HA := Lib.hid hA
  have HArg := Lib.hid hArg
  have HAz := Lib.hid hAz
  clear hA hArg hAz
  go_enter Tryz.func66, Tryz.ntmps66
  go_wp2_with fail
  refine (specPlain o n s ka ma ks.length kc ms.length mc ms _ HZ1.out hz2 (HM.out.kept (same_of_below HA.out)) hz3).mono ?_
  rintro e w1 ⟨b, rfl, hb, d1⟩
  generalize hW0 : (w.alloc (.cells #[.int .i64 o, .int .i64 n, .string s, .slice ka ks.length kc, .slice ma ms.length mc] 37)) = W0 at *
  clear hW0
  have b1 : Below w.heap.size w w1 := HA.out.trans (d1.mono (by have := HAz.out; omega))
  cases b with
  | false =>
    have hno : Hid (¬ PlainN o n s ks.length ms) := fun hp => by have := hb.out.2 hp; cases this
    go_wp2
    go_ret
    exact ⟨by show Ending.returned (.int .i64 (-1)) = _; rw [HP.out, if_pos (Or.inr (Or.inr hno.out))], b1⟩
  | true =>
    have hyes : Hid (PlainN o n s ks.length ms) := hb.out.1 rfl
    have arg1 : w1.heap[w.heap.size]? = some (.cells #[.int .i64 o, .int .i64 n, .string s, .slice ka ks.length kc, .slice ma ms.length mc] 37 (0, 0)) := (d1.block _ (by have := HAz.out; omega)).trans HArg.out
    have HArg1 := Lib.hid arg1
    have HB1 := Lib.hid b1
    clear hb d1 arg1 b1
    go_wp2_with fail
    go_loopw [7, 8] (fun vn vi wr => ∃ (k : Nat) (m : Int), k ≤ ks.length ∧ vn = .int .i64 m ∧ vi = .int .i64 k ∧ -1 ≤ m ∧ m ≤ 30 ∧ Hid (partsL (ks.drop k) (d + 1) m = partsL ks (d + 1) (l - 1)) ∧ Below w1.heap.size w1 wr) (fun _ vi _ => ks.length - (intOf vi).toNat)
    case atStart => exact ⟨0, l - 1, Nat.zero_le _, rfl, rfl, by omega, by omega, by show _ = _; rw [List.drop_zero], Below.refl _ _⟩
    case round =>
      obtain ⟨k, m, hk, rfl, rfl, m0, m1, hp, hb⟩ := hrel
      have argr : wr.heap[w.heap.size]? = some (.cells #[.int .i64 o, .int .i64 n, .string s, .slice ka ks.length kc, .slice ma ms.length mc] 37 (0, 0)) := (hb.block _ (Array.getElem?_eq_some_iff.1 HArg1.out).1).trans HArg1.out
      have ca : wr.cell? ⟨w.heap.size, 3, none⟩ = some (Value.slice ka ks.length kc) := by rw [Lib.cell_of_heap argr]; rfl
      have hbw : Below w.heap.size w wr := HB1.out.trans (hb.mono HB1.out.size)
      clear argr
      rcases Nat.lt_or_ge k ks.length with hlt | hge
      · have k1 : (k : Int) < ks.length := by omega
        have k0 : (0 : Int) ≤ k := by omega
        rcases Int.lt_or_le m 0 with hm | hm
        · have g0 : decide (0 ≤ m) = false := decide_eq_false (by omega)
          go_wp2
          go_ret
          refine ⟨?_, hbw⟩
          have h1 := hp.out
          rw [partsL_neg hm] at h1
          show Ending.returned (.int .i64 m) = _
          rw [HP.out, if_neg (by rintro (h | h | h); omega; omega; exact h hyes.out), ← h1]
        · have g0 : decide (0 ≤ m) = true := decide_eq_true hm
          obtain ⟨b, off, rfl, -, hbl, hrow⟩ := (HK.out.kept (same_of_below (N := All) hbw)).cells (by omega)
          obtain ⟨f, ⟨y0, y1, y2, y3, y4⟩, ht⟩ := hrow k hlt
          have HT := Lib.hid ht
          have HD := Lib.hid (partsL_drop ks (d + 1) m k hlt hm)
          have hlow := partsT_low ks[k] (d + 1) m hm
          have hup : partsT ks[k] (d + 1) m ≤ 30 := by
            rcases Int.lt_or_le (partsT ks[k] (d + 1) m) 0 with q | q
            · omega
            · have := partsT_le _ _ _ q; omega
          have IHk := IH.out ks[k] (List.getElem_mem _)
          have hcall : Hid (Calls Tryz.prog 66 #[f.val, .int .i64 (((d + 1 : Nat) : Nat) : Int), .int .i64 m] wr fun e w' => e = .returned (.int .i64 (partsT ks[k] (d + 1) m)) ∧ Below wr.heap.size wr w') := IHk f (d + 1) m wr HT.out hm m1 (by omega)
          clear hrow hbl ht IHk
          generalize hv : partsT ks[k] (d + 1) m = v at *
          have Hv := Lib.hid hv
          clear hv
          go_wp2_with fail
          refine hcall.out.mono ?_
          rintro e w2 ⟨rfl, d2⟩
          clear y0 y1 y2 y3 y4 hcall
          have hb2 : Below w1.heap.size w1 w2 := hb.trans (d2.mono hb.size)
          go_wp2
          go_roundw
          case rel => exact ⟨k + 1, v, by omega, rfl, by go_num, hlow, hup, by show _ = _; rw [← hp.out, HD.out], hb2⟩
          case measure => simp [intOf]; omega
      · obtain rfl : k = ks.length := by omega
        go_wp2
        go_ret
        refine ⟨?_, hbw⟩
        have h1 := hp.out
        rw [List.drop_length, partsL] at h1
        show Ending.returned (.int .i64 m) = _
        rw [HP.out, if_neg (by rintro (h | h | h); omega; omega; exact h hyes.out), ← h1]
theorem partsC : ∀ (k : Nat) (t : Tr), wT t ≤ k → szT t ≤ 1048576 → PartsAt t
  | 0, .node o n s ks ms, hw, _ => by rw [wT] at hw; omega
  | k + 1, .node o n s ks ms, hw, hs => by
    rw [wT] at hw
    exact partsN o n s ks ms (fun t ht => partsC k t (by have := wL_mem ht; omega) (by rw [szT] at hs; have := szL_mem ht; omega)) hs
end Go.Proofs.YtjhgmmcglonokaaGreatDoor

namespace Go.Proofs.YtjhgmmcglonokaaGreatDoor
open Go.RowKit
set_option linter.unusedVariables false
set_option linter.unusedSimpArgs false

set_option maxHeartbeats 4000000 in
theorem wsMarksC (a a' : Option Addr) (m c c' : Nat) (ms : List (Int × Int)) (w : World) (h : MarksN All w a m ms) (h' : MarksN All w a' m ms) (hl : m ≤ 1048576) :
    Calls Tryz.prog 46 #[.slice a m c, .slice a' m c'] w fun e w' => e = .returned (.bool true) ∧ ∃ q, w' = w.drewN q := by
  have h0 := h.2
  have h0' := h'.2
  clear h h'
  go_enter Tryz.func46, Tryz.ntmps46
  go_wp2_with fail
  go_loopw [5] (fun i wr => ∃ k : Nat, k ≤ m ∧ i = .int .i64 k ∧ ∃ q, wr = w.drewN q) (fun i _ => m - (intOf i).toNat)
  case atStart => exact ⟨0, Nat.zero_le _, rfl, 0, rfl⟩
  case round =>
    obtain ⟨k, hk, rfl, q, rfl⟩ := hrel
    rcases Nat.lt_or_ge k m with hlt | hge
    · rcases h0 with hc | ⟨b, off, rfl, -, hbl, hcell⟩
      · omega
      rcases h0' with hc' | ⟨b', off', rfl, -, hbl', hcell'⟩
      · omega
      obtain ⟨c1, c2⟩ := hcell k hlt
      obtain ⟨c3, c4⟩ := hcell' k hlt
      clear hcell hcell'
      generalize ms.getD k (0, 0) = s at *
      have k1 : (k : Int) < m := by omega
      have k0 : (0 : Int) ≤ k := by omega
      go_wp2_with fail
      go_quiet (fail)
      go_wp2
      go_roundw
      case rel => exact ⟨k + 1, by omega, by go_num, _, rfl⟩
      case measure => simp [intOf]; omega
    · obtain rfl : k = m := by omega
      go_wp2
      go_ret
      exact ⟨rfl, q, rfl⟩
set_option maxRecDepth 20000 in
set_option maxHeartbeats 8000000 in
theorem wsCodeC (a a' : Option Addr) (n c c' : Nat) (ds : List Pl) (w : World) (h : PlsN All w a n ds) (h' : PlsN All w a' n ds) (hs : ∀ d ∈ ds, SmallP d) (hl : n ≤ 1048576) :
    Calls Tryz.prog 13 #[.slice a n c, .slice a' n c'] w fun e w' => e = .returned (.bool true) ∧ ∃ q, w' = w.drewN q := by
  have H := Lib.hid h
  have H' := Lib.hid h'
  have HS := Lib.hid hs
  have HN : Hid (n = ds.length) := h.1
  clear h h' hs
  go_enter Tryz.func13, Tryz.ntmps13
  go_wp2_with fail
  go_loopw [5] (fun i wr => ∃ k : Nat, k ≤ n ∧ i = .int .i64 k ∧ ∃ q, wr = w.drewN q) (fun i _ => n - (intOf i).toNat)
  case atStart => exact ⟨0, Nat.zero_le _, rfl, 0, rfl⟩
  case round =>
    obtain ⟨k, hk, rfl, q, rfl⟩ := hrel
    rcases Nat.lt_or_ge k n with hlt | hge
    · have hkl : k < ds.length := by have := HN.out; omega
      obtain ⟨b, off, rfl, -, hbl, hrow⟩ := H.out.cells (by omega)
      obtain ⟨f, ⟨y0, y1, y2, y3⟩, ht⟩ := hrow k hkl
      obtain ⟨b', off', rfl, -, hbl', hrow'⟩ := H'.out.cells (by omega)
      obtain ⟨f', ⟨x0, x1, x2, x3⟩, ht'⟩ := hrow' k hkl
      obtain ⟨e1, e2, e3, hm, -⟩ := ht
      obtain ⟨e1', e2', e3', hm', -⟩ := ht'
      have hsm := (HS.out ds[k] (List.getElem_mem _)).2
      rw [e1] at y0
      rw [e2] at y1
      rw [e3] at y2
      rw [e1'] at x0
      rw [e2'] at x1
      rw [e3'] at x2
      rw [hm.1] at y3
      rw [hm'.1] at x3
      have hM : ∀ j, MarksN All (w.drewN j) f.ma ds[k].ms.length ds[k].ms := fun j => by have := hm; rw [hm.1] at this; exact this.kept (same_of_below (belowN (Below.refl _ _) j))
      have hM' : ∀ j, MarksN All (w.drewN j) f'.ma ds[k].ms.length ds[k].ms := fun j => by have := hm'; rw [hm'.1] at this; exact this.kept (same_of_below (belowN (Below.refl _ _) j))
      have HC : Hid (∀ j, Calls Tryz.prog 46 #[.slice f.ma ds[k].ms.length f.mc, .slice f'.ma ds[k].ms.length f'.mc] (w.drewN j) fun e w' => e = .returned (.bool true) ∧ ∃ q, w' = (w.drewN j).drewN q) := Lib.hid (fun j => wsMarksC _ _ _ _ _ _ _ (hM j) (hM' j) hsm)
      clear hm hm' hM hM' e1 e2 e3 e1' e2' e3' hrow hrow' hsm hbl hbl'
      have cc : ∀ j, Calls Tryz.prog 46 #[.slice f.ma ds[k].ms.length f.mc, .slice f'.ma ds[k].ms.length f'.mc] (w.drewN (q + j)) fun e w' => e = .returned (.bool true) ∧ ∃ p, w' = w.drewN (q + p) := fun j => (HC.out (q + j)).mono (fun _ _ ⟨he, p, hp⟩ => ⟨he, j + p, by rw [hp, World.drewN_drewN, Nat.add_assoc]⟩)
      generalize ds[k].op = o at *
      generalize ds[k].num = nn at *
      generalize ds[k].nm = s at *
      generalize ds[k].ms.length = ml at *
      have k1 : (k : Int) < n := by omega
      have k0 : (0 : Int) ≤ k := by omega
      have q1 : (s.toList != s.toList) = false := by simp
      go_wp2_with fail
      go_big_quiet (first | (go_at_call 46; exact cc _))
      go_wp2
      go_roundw
      case rel => exact ⟨k + 1, by omega, by go_num, _, rfl⟩
      case measure => simp [intOf]; omega
    · obtain rfl : k = n := by omega
      go_wp2
      go_ret
      exact ⟨rfl, q, rfl⟩
end Go.Proofs.YtjhgmmcglonokaaGreatDoor
